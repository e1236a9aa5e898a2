/- eval.Eval of any expression, any row. Conditions: how they lie in memory; the row has no more than a thousand values. -/
import Derived.Test.YtkgpcodccpckeaaEt10
import Derived.Test.YtkgpcodccpckeaaEv8
namespace Go.Proofs.Ytkgpcodccpckeaa
open Go Go.RowKit
set_option linter.unusedVariables false
set_option linter.unusedSimpArgs false
set_option maxRecDepth 100000 in
set_option maxHeartbeats 8000000 in
theorem eval_okR (op k q n : Int) (s tb nm : ByteArray) (A : Option Addr) (m c : Nat) (RA : Option Addr) (rn rc : Nat) (z1 z2 ze : Int) (z3 : ByteArray) (w : World)
    (hmay : ∀ W, Below w.heap.size w W → Calls Try.prog 30 #[.agg #[.int .u8 op, .int .u8 k, .int .i64 q, .string s, .string tb, .string nm, .int .i64 n, .slice A m c], .int .i64 rn, .int .i64 0] W fun e w' => e = .returned (.bool true) ∧ Below W.heap.size W w')
    (hcome : ∀ g W, Below w.heap.size w W → Blk W g 42 #[.slice RA rn rc] → Calls Try.prog 34 #[.agg #[.func (.func 43) #[] #[.pointer (some ⟨g, 0, none⟩)], .slice none 0 0], .agg #[.int .u8 op, .int .u8 k, .int .i64 q, .string s, .string tb, .string nm, .int .i64 n, .slice A m c]] W fun e w' => e = .returned (.tuple #[.agg #[.int .u8 z1, .int .i64 z2, .string z3], .int .i64 ze]) ∧ Below W.heap.size W w') :
    Calls Try.prog 15 #[.agg #[.int .u8 op, .int .u8 k, .int .i64 q, .string s, .string tb, .string nm, .int .i64 n, .slice A m c], .slice RA rn rc] w fun e w' => e = .returned (.tuple #[.agg #[.int .u8 z1, .int .i64 z2, .string z3], .int .i64 ze]) ∧ Below w.heap.size w w' := by
  have HM := Lib.hid (fun W (h : Ew w ⟨op, (k, q, s), tb, nm, n, A, m, c⟩ W) => (hmay W h.2.2).mono fun e w' he => And.intro he.1 (ew_below h he.2))
  have HCM := Lib.hid (fun g W (h : Ew w ⟨op, (k, q, s), tb, nm, n, A, m, c⟩ W) (hg : Blk W g 42 #[.slice RA rn rc]) => (hcome g W h.2.2 hg).mono fun e w' he => And.intro he.1 (ew_below h he.2))
  have HOF : Hid (∀ W, Ew w ⟨op, (k, q, s), tb, nm, n, A, m, c⟩ W → Calls Try.prog 33 #[.slice RA rn rc] W fun e w' => ∃ g, e = .returned (.agg #[.func (.func 43) #[] #[.pointer (some ⟨g, 0, none⟩)], .slice none 0 0]) ∧ Ew w ⟨op, (k, q, s), tb, nm, n, A, m, c⟩ w' ∧ Blk w' g 42 #[.slice RA rn rc]) := Lib.hid fun W h => (scof_any RA rn rc W).mono fun e w' he => by
    obtain ⟨g, h1, h3, h2⟩ := he
    exact ⟨g, h1, ew_below h h2, h3⟩
  have HS := Lib.hid (ew_new w ⟨op, (k, q, s), tb, nm, n, A, m, c⟩)
  clear hmay hcome
  go_enter Try.func15, Try.ntmps15
  go_wp2_with fail
  refine (HM.out _ HS.out).mono ?_
  rintro e w3 ⟨rfl, hs3⟩
  have hs := ew_drew hs3
  clear hs3
  go_wp2_with fail
  go_region_held3 (fun W => W.cell? ⟨w.heap.size, 0, none⟩ = some (.int .u8 op) ∧ W.cell? ⟨w.heap.size, 1, none⟩ = some (.int .u8 k) ∧ W.cell? ⟨w.heap.size, 2, none⟩ = some (.int .i64 q) ∧ W.cell? ⟨w.heap.size, 3, none⟩ = some (.string s) ∧ W.cell? ⟨w.heap.size, 4, none⟩ = some (.string tb) ∧ W.cell? ⟨w.heap.size, 5, none⟩ = some (.string nm) ∧ W.cell? ⟨w.heap.size, 6, none⟩ = some (.int .i64 n) ∧ W.cell? ⟨w.heap.size, 7, none⟩ = some (.slice A m c))
    (first | (with_reducible exact ew_S3 (by assumption) _ _ _) | (with_reducible exact ew_S (by assumption)))
    (first
      | (go_at_call 33; (with_reducible refine (HOF.out _ (by assumption)).mono ?_); rintro e w4 ⟨g, rfl, hs, hg⟩)
      | (go_at_call 34; (with_reducible refine (HCM.out _ _ (by assumption) (by assumption)).mono ?_); rintro e w5 ⟨rfl, hs⟩; obtain ⟨y0, y1, y2, f0, f1, f2⟩ := cell3 hs.2.1))
  all_goals
    go_wp2
    obtain ⟨e0, e1, e2, _, _, _⟩ := cell3 (blk3_set hs.2.1 (.int .u8 z1) (.int .i64 z2) (.string z3))
    exact bodyPost_ret (v := .tuple #[.agg #[.int .u8 z1, .int .i64 z2, .string z3], .int .i64 ze]) (by simp [results, Try.results15, go_sem, e0, e1, e2]) rfl ⟨rfl, below3_at hs.2.2 (by omega) _ _ _⟩
set_option maxRecDepth 100000 in
set_option maxHeartbeats 8000000 in
theorem eval_badR (op k q n : Int) (s tb nm : ByteArray) (A : Option Addr) (m c : Nat) (RA : Option Addr) (rn rc : Nat) (w : World)
    (hmay : ∀ W, Below w.heap.size w W → Calls Try.prog 30 #[.agg #[.int .u8 op, .int .u8 k, .int .i64 q, .string s, .string tb, .string nm, .int .i64 n, .slice A m c], .int .i64 rn, .int .i64 0] W fun e w' => e = .returned (.bool false) ∧ Below W.heap.size W w') :
    Calls Try.prog 15 #[.agg #[.int .u8 op, .int .u8 k, .int .i64 q, .string s, .string tb, .string nm, .int .i64 n, .slice A m c], .slice RA rn rc] w fun e w' => e = .returned (.tuple #[.agg #[.int .u8 0, .int .i64 0, .string ⟨#[]⟩], .int .i64 2]) ∧ Below w.heap.size w w' := by
  have HM := Lib.hid (fun W (h : Ew w ⟨op, (k, q, s), tb, nm, n, A, m, c⟩ W) => (hmay W h.2.2).mono fun e w' he => And.intro he.1 (ew_below h he.2))
  have HS := Lib.hid (ew_new w ⟨op, (k, q, s), tb, nm, n, A, m, c⟩)
  clear hmay
  go_enter Try.func15, Try.ntmps15
  go_wp2_with fail
  refine (HM.out _ HS.out).mono ?_
  rintro e w3 ⟨rfl, hs⟩
  obtain ⟨y0, y1, y2, f0, f1, f2⟩ := cell3 hs.2.1
  go_wp2
  obtain ⟨e0, e1, e2, _, _, _⟩ := cell3 (blk3_set hs.2.1 (.int .u8 0) (.int .i64 0) (.string ⟨#[]⟩))
  exact bodyPost_ret (v := .tuple #[.agg #[.int .u8 0, .int .i64 0, .string ⟨#[]⟩], .int .i64 2]) (by simp [results, Try.results15, go_sem, e0, e1, e2]) rfl ⟨rfl, below3_at hs.2.2 (by omega) _ _ _⟩
def evP (row : List Val) (T : XT) : Val × Int := if mayP row.length T 0 = true then comeP row T else (zV, 2)
/-- Eval, of any expression and row -/
theorem eval_tree (row : List Val) (RA : Option Addr) (rn rc : Nat) (hn : rn = row.length) (h1000 : rn ≤ 1000) (hr : ∀ x ∈ row, Vk x) (T : XT) (w : World) (hin : InT w w.heap.size T) (hV : Vals w w.heap.size RA row) :
    Calls Try.prog 15 #[exV T.ex, .slice RA rn rc] w fun e w' => e = .returned (.tuple #[valV (evP row T).1, .int .i64 (evP row T).2]) ∧ Below w.heap.size w w' := by
  have hP : evP row T = if mayP rn T 0 = true then comeP row T else (zV, 2) := by unfold evP; rw [hn]
  have hm := fun (W : World) (hb : Below w.heap.size w W) => may_tree rn T W 0 (int_step hin hb) (by omega) (by omega)
  have hc := fun (g : Nat) (W : World) (hb : Below w.heap.size w W) (hg : Blk W g 42 #[.slice RA rn rc]) (hM : mayP rn T 0 = true) => come_tree row RA rn rc g T W (int_step hin hb) ⟨hg, vals_step hV hb, hn, h1000, hr⟩ hM
  rw [hP]
  generalize comeP row T = z at *
  clear hP hin hV
  obtain ⟨op, ⟨vk, vn, vs⟩, tb, nm, n, A, c, ks⟩ := T
  obtain ⟨⟨z1, z2, z3⟩, ze⟩ := z
  cases hM : mayP rn (.mk op (vk, vn, vs) tb nm n A c ks) 0
  · rw [hM] at hm
    rw [if_neg (by simp)]
    exact eval_badR op vk vn n vs tb nm A ks.length c RA rn rc w hm
  · rw [hM] at hm
    rw [if_pos rfl]
    exact eval_okR op vk vn n vs tb nm A ks.length c RA rn rc z1 z2 ze z3 w hm (fun g W hb hg => hc g W hb hg hM)
end Go.Proofs.Ytkgpcodccpckeaa
