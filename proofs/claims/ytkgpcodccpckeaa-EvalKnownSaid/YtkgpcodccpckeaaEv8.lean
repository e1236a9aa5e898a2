/- eval.Eval. Conditions: what mayBe and come answer. -/
import Derived.Test.YtkgpcodccpckeaaEv7b
namespace Go.Proofs.Ytkgpcodccpckeaa
open Go.RowKit
set_option linter.unusedVariables false
set_option linter.unusedSimpArgs false
/-- the box of the expression, the answer -/
def Ew (w : World) (x : Ex) (W : World) : Prop := Blk W w.heap.size 29 (exC x) ∧ Blk W (w.heap.size + 1) 23 #[.int .u8 0, .int .i64 0, .string ⟨#[]⟩] ∧ Below w.heap.size w W
theorem ew_below {w W W' : World} {x : Ex} (h : Ew w x W) (hb : Below W.heap.size W W') : Ew w x W' := ⟨blk_step h.1 hb, blk_step h.2.1 hb, bj h.2.2 hb⟩
theorem ew_drew {w W : World} {x : Ex} (h : Ew w x W) : Ew w x W.drew := ⟨h.1.drew, h.2.1.drew, h.2.2.drew⟩
theorem ew_new (w : World) (x : Ex) : Ew w x ((w.alloc (.cells (exC x) 29)).alloc (.cells #[.int .u8 0, .int .i64 0, .string ⟨#[]⟩] 23)) := ⟨(Blk.new _ _ _).alloc _, blk_new _ _ _ _ (by simp), bj one_alloc one_alloc⟩
theorem ew_S {w W : World} {op k q n : Int} {s tb nm : ByteArray} {A : Option Addr} {m c : Nat} (h : Ew w ⟨op, (k, q, s), tb, nm, n, A, m, c⟩ W) : W.cell? ⟨w.heap.size, 0, none⟩ = some (.int .u8 op) ∧ W.cell? ⟨w.heap.size, 1, none⟩ = some (.int .u8 k) ∧ W.cell? ⟨w.heap.size, 2, none⟩ = some (.int .i64 q) ∧ W.cell? ⟨w.heap.size, 3, none⟩ = some (.string s) ∧ W.cell? ⟨w.heap.size, 4, none⟩ = some (.string tb) ∧ W.cell? ⟨w.heap.size, 5, none⟩ = some (.string nm) ∧ W.cell? ⟨w.heap.size, 6, none⟩ = some (.int .i64 n) ∧ W.cell? ⟨w.heap.size, 7, none⟩ = some (.slice A m c) :=
  ⟨h.1.cell 0, h.1.cell 1, h.1.cell 2, h.1.cell 3, h.1.cell 4, h.1.cell 5, h.1.cell 6, h.1.cell 7⟩
theorem ew_S3 {w W : World} {op k q n : Int} {s tb nm : ByteArray} {A : Option Addr} {m c : Nat} (h : Ew w ⟨op, (k, q, s), tb, nm, n, A, m, c⟩ W) (x y z : Value) : (((W.setCell ⟨w.heap.size + 1, 0, none⟩ x).setCell ⟨w.heap.size + 1, 1, none⟩ y).setCell ⟨w.heap.size + 1, 2, none⟩ z).cell? ⟨w.heap.size, 0, none⟩ = some (.int .u8 op) ∧ (((W.setCell ⟨w.heap.size + 1, 0, none⟩ x).setCell ⟨w.heap.size + 1, 1, none⟩ y).setCell ⟨w.heap.size + 1, 2, none⟩ z).cell? ⟨w.heap.size, 1, none⟩ = some (.int .u8 k) ∧ (((W.setCell ⟨w.heap.size + 1, 0, none⟩ x).setCell ⟨w.heap.size + 1, 1, none⟩ y).setCell ⟨w.heap.size + 1, 2, none⟩ z).cell? ⟨w.heap.size, 2, none⟩ = some (.int .i64 q) ∧ (((W.setCell ⟨w.heap.size + 1, 0, none⟩ x).setCell ⟨w.heap.size + 1, 1, none⟩ y).setCell ⟨w.heap.size + 1, 2, none⟩ z).cell? ⟨w.heap.size, 3, none⟩ = some (.string s) ∧ (((W.setCell ⟨w.heap.size + 1, 0, none⟩ x).setCell ⟨w.heap.size + 1, 1, none⟩ y).setCell ⟨w.heap.size + 1, 2, none⟩ z).cell? ⟨w.heap.size, 4, none⟩ = some (.string tb) ∧ (((W.setCell ⟨w.heap.size + 1, 0, none⟩ x).setCell ⟨w.heap.size + 1, 1, none⟩ y).setCell ⟨w.heap.size + 1, 2, none⟩ z).cell? ⟨w.heap.size, 5, none⟩ = some (.string nm) ∧ (((W.setCell ⟨w.heap.size + 1, 0, none⟩ x).setCell ⟨w.heap.size + 1, 1, none⟩ y).setCell ⟨w.heap.size + 1, 2, none⟩ z).cell? ⟨w.heap.size, 6, none⟩ = some (.int .i64 n) ∧ (((W.setCell ⟨w.heap.size + 1, 0, none⟩ x).setCell ⟨w.heap.size + 1, 1, none⟩ y).setCell ⟨w.heap.size + 1, 2, none⟩ z).cell? ⟨w.heap.size, 7, none⟩ = some (.slice A m c) :=
  have h1 := ((h.1.far (p := ⟨w.heap.size + 1, 0, none⟩) (by simp) x).far (p := ⟨w.heap.size + 1, 1, none⟩) (by simp) y).far (p := ⟨w.heap.size + 1, 2, none⟩) (by simp) z
  ⟨h1.cell 0, h1.cell 1, h1.cell 2, h1.cell 3, h1.cell 4, h1.cell 5, h1.cell 6, h1.cell 7⟩
set_option maxRecDepth 100000 in
set_option maxHeartbeats 4000000 in
theorem eval_ok (op k q n : Int) (s tb nm : ByteArray) (A : Option Addr) (m c : Nat) (z1 z2 ze : Int) (z3 : ByteArray) (w : World)
    (hmay : ∀ W, Below w.heap.size w W → Calls Try.prog 30 #[.agg #[.int .u8 op, .int .u8 k, .int .i64 q, .string s, .string tb, .string nm, .int .i64 n, .slice A m c], .int .i64 0, .int .i64 0] W fun e w' => e = .returned (.bool true) ∧ Below W.heap.size W w')
    (hcome : ∀ g W, Below w.heap.size w W → Calls Try.prog 34 #[.agg #[.func (.func 43) #[] #[.pointer (some ⟨g, 0, none⟩)], .slice none 0 0], .agg #[.int .u8 op, .int .u8 k, .int .i64 q, .string s, .string tb, .string nm, .int .i64 n, .slice A m c]] W fun e w' => e = .returned (.tuple #[.agg #[.int .u8 z1, .int .i64 z2, .string z3], .int .i64 ze]) ∧ Below W.heap.size W w') :
    Calls Try.prog 15 #[.agg #[.int .u8 op, .int .u8 k, .int .i64 q, .string s, .string tb, .string nm, .int .i64 n, .slice A m c], .slice none 0 0] w fun e w' => e = .returned (.tuple #[.agg #[.int .u8 z1, .int .i64 z2, .string z3], .int .i64 ze]) ∧ Below w.heap.size w w' := by
  have HM := Lib.hid (fun W (h : Ew w ⟨op, (k, q, s), tb, nm, n, A, m, c⟩ W) => (hmay W h.2.2).mono fun e w' he => And.intro he.1 (ew_below h he.2))
  have HCM := Lib.hid (fun g W (h : Ew w ⟨op, (k, q, s), tb, nm, n, A, m, c⟩ W) => (hcome g W h.2.2).mono fun e w' he => And.intro he.1 (ew_below h he.2))
  have HOF : Hid (∀ W, Ew w ⟨op, (k, q, s), tb, nm, n, A, m, c⟩ W → Calls Try.prog 33 #[.slice none 0 0] W fun e w' => ∃ g, e = .returned (.agg #[.func (.func 43) #[] #[.pointer (some ⟨g, 0, none⟩)], .slice none 0 0]) ∧ Ew w ⟨op, (k, q, s), tb, nm, n, A, m, c⟩ w') := Lib.hid fun W h => (scof_any none 0 0 W).mono fun e w' he => by
    obtain ⟨g, h1, _, h2⟩ := he
    exact ⟨g, h1, ew_below h h2⟩
  have HS := Lib.hid (ew_new w ⟨op, (k, q, s), tb, nm, n, A, m, c⟩)
  clear hmay hcome
  go_enter Try.func15, Try.ntmps15
  go_wp2_with fail
  refine (HM.out _ HS.out).mono ?_
  rintro e w3 ⟨rfl, hs3⟩
  have hs := ew_drew hs3
  clear hs3
  go_wp2_with fail
  go_region_held3 (fun W => W.cell? ⟨w.heap.size, 0, none⟩ = some (.int .u8 op) ∧ W.cell? ⟨w.heap.size, 1, none⟩ = some (.int .u8 k) ∧ W.cell? ⟨w.heap.size, 2, none⟩ = some (.int .i64 q) ∧ W.cell? ⟨w.heap.size, 3, none⟩ = some (.string s) ∧ W.cell? ⟨w.heap.size, 4, none⟩ = some (.string tb) ∧ W.cell? ⟨w.heap.size, 5, none⟩ = some (.string nm) ∧ W.cell? ⟨w.heap.size, 6, none⟩ = some (.int .i64 n) ∧ W.cell? ⟨w.heap.size, 7, none⟩ = some (.slice A m c))
    (first | (with_reducible exact ew_S3 (by assumption) _ _ _) | (with_reducible exact ew_S (by assumption)))
    (first
      | (go_at_call 33; (with_reducible refine (HOF.out _ (by assumption)).mono ?_); rintro e w4 ⟨g, rfl, hs⟩)
      | (go_at_call 34; (with_reducible refine (HCM.out _ _ (by assumption)).mono ?_); rintro e w5 ⟨rfl, hs⟩; obtain ⟨y0, y1, y2, f0, f1, f2⟩ := cell3 hs.2.1))
  all_goals
    go_wp2
    obtain ⟨e0, e1, e2, _, _, _⟩ := cell3 (blk3_set hs.2.1 (.int .u8 z1) (.int .i64 z2) (.string z3))
    exact bodyPost_ret (v := .tuple #[.agg #[.int .u8 z1, .int .i64 z2, .string z3], .int .i64 ze]) (by simp [results, Try.results15, go_sem, e0, e1, e2]) rfl ⟨rfl, below3_at hs.2.2 (by omega) _ _ _⟩
set_option maxRecDepth 100000 in
set_option maxHeartbeats 4000000 in
theorem eval_bad (op k q n : Int) (s tb nm : ByteArray) (A : Option Addr) (m c : Nat) (w : World)
    (hmay : ∀ W, Below w.heap.size w W → Calls Try.prog 30 #[.agg #[.int .u8 op, .int .u8 k, .int .i64 q, .string s, .string tb, .string nm, .int .i64 n, .slice A m c], .int .i64 0, .int .i64 0] W fun e w' => e = .returned (.bool false) ∧ Below W.heap.size W w') :
    Calls Try.prog 15 #[.agg #[.int .u8 op, .int .u8 k, .int .i64 q, .string s, .string tb, .string nm, .int .i64 n, .slice A m c], .slice none 0 0] w fun e w' => e = .returned (.tuple #[.agg #[.int .u8 0, .int .i64 0, .string ⟨#[]⟩], .int .i64 2]) ∧ Below w.heap.size w w' := by
  have HM := Lib.hid (fun W (h : Ew w ⟨op, (k, q, s), tb, nm, n, A, m, c⟩ W) => (hmay W h.2.2).mono fun e w' he => And.intro he.1 (ew_below h he.2))
  have HS := Lib.hid (ew_new w ⟨op, (k, q, s), tb, nm, n, A, m, c⟩)
  clear hmay
  go_enter Try.func15, Try.ntmps15
  go_wp2_with fail
  refine (HM.out _ HS.out).mono ?_
  rintro e w3 ⟨rfl, hs⟩
  obtain ⟨y0, y1, y2, f0, f1, f2⟩ := cell3 hs.2.1
  go_wp2
  obtain ⟨e0, e1, e2, _, _, _⟩ := cell3 (blk3_set hs.2.1 (.int .u8 0) (.int .i64 0) (.string ⟨#[]⟩))
  exact bodyPost_ret (v := .tuple #[.agg #[.int .u8 0, .int .i64 0, .string ⟨#[]⟩], .int .i64 2]) (by simp [results, Try.results15, go_sem, e0, e1, e2]) rfl ⟨rfl, below3_at hs.2.2 (by omega) _ _ _⟩
end Go.Proofs.Ytkgpcodccpckeaa
