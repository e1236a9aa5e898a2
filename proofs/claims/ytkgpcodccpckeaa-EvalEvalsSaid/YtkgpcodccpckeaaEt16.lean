/- ref15.Eval of any expression, any row. Conditions: how they lie in memory; how deep the expression is. -/
import Derived.Test.YtkgpcodccpckeaaEt15
import Derived.Test.YtkgpcodccpckeaaEt11
import Derived.Test.YtkgpcodccpckeaaEt6
namespace Go.Proofs.Ytkgpcodccpckeaa
open Go Go.RowKit
set_option linter.unusedVariables false
set_option linter.unusedSimpArgs false
set_option maxRecDepth 100000 in
set_option maxHeartbeats 8000000 in
theorem reval_ok (op k q n : Int) (s tb nm : ByteArray) (A : Option Addr) (m c : Nat) (RA : Option Addr) (rn rc : Nat) (z1 z2 ze : Int) (z3 : ByteArray) (w : World)
    (hmay : ∀ W, Below w.heap.size w W → Calls Try.prog 36 #[.agg #[.int .u8 op, .int .u8 k, .int .i64 q, .string s, .string tb, .string nm, .int .i64 n, .slice A m c], .int .i64 rn, .int .i64 0] W fun e w' => e = .returned (.bool true) ∧ Below W.heap.size W w')
    (hat : ∀ W, Below w.heap.size w W → Calls Try.prog 38 #[.agg #[.int .u8 op, .int .u8 k, .int .i64 q, .string s, .string tb, .string nm, .int .i64 n, .slice A m c], .slice RA rn rc, .slice none 0 0] W fun e w' => e = .returned (.tuple #[.agg #[.int .u8 z1, .int .i64 z2, .string z3], .int .i64 ze]) ∧ Below W.heap.size W w') :
    Calls Try.prog 25 #[.agg #[.int .u8 op, .int .u8 k, .int .i64 q, .string s, .string tb, .string nm, .int .i64 n, .slice A m c], .slice RA rn rc] w fun e w' => e = .returned (.tuple #[.agg #[.int .u8 z1, .int .i64 z2, .string z3], .int .i64 ze]) ∧ Below w.heap.size w w' := by
  have HM := Lib.hid hmay
  have HA := Lib.hid hat
  have HST := Lib.hid (ew_new w ⟨op, (k, q, s), tb, nm, n, A, m, c⟩)
  clear hmay hat
  go_enter Try.func25, Try.ntmps25
  go_wp2_with fail
  refine (HM.out _ HST.out.2.2).mono ?_
  rintro e w4 ⟨rfl, hb4⟩
  have HS4 := Lib.hid (ew_below HST.out hb4)
  clear hb4
  obtain ⟨c0, c1, c2, c3, c4, c5, c6, c7⟩ := cell8 HS4.out.1
  go_wp2_with fail
  refine (HA.out _ HS4.out.2.2).mono ?_
  rintro e w5 ⟨rfl, hb5⟩
  have HS5 := Lib.hid (ew_below HS4.out hb5)
  obtain ⟨r0, r1, r2, f0, f1, f2⟩ := cell3 HS5.out.2.1
  clear hb5 c0 c1 c2 c3 c4 c5 c6 c7
  go_wp2
  obtain ⟨e0, e1, e2, _, _, _⟩ := cell3 (blk3_set HS5.out.2.1 (.int .u8 z1) (.int .i64 z2) (.string z3))
  exact bodyPost_ret (v := .tuple #[.agg #[.int .u8 z1, .int .i64 z2, .string z3], .int .i64 ze]) (by simp [results, Try.results25, go_sem, e0, e1, e2]) rfl ⟨rfl, below3_at HS5.out.2.2 (by omega) _ _ _⟩
set_option maxRecDepth 100000 in
set_option maxHeartbeats 8000000 in
theorem reval_bad (op k q n : Int) (s tb nm : ByteArray) (A : Option Addr) (m c : Nat) (RA : Option Addr) (rn rc : Nat) (w : World)
    (hmay : ∀ W, Below w.heap.size w W → Calls Try.prog 36 #[.agg #[.int .u8 op, .int .u8 k, .int .i64 q, .string s, .string tb, .string nm, .int .i64 n, .slice A m c], .int .i64 rn, .int .i64 0] W fun e w' => e = .returned (.bool false) ∧ Below W.heap.size W w') :
    Calls Try.prog 25 #[.agg #[.int .u8 op, .int .u8 k, .int .i64 q, .string s, .string tb, .string nm, .int .i64 n, .slice A m c], .slice RA rn rc] w fun e w' => e = .returned (.tuple #[.agg #[.int .u8 0, .int .i64 0, .string ⟨#[]⟩], .int .i64 2]) ∧ Below w.heap.size w w' := by
  have HM := Lib.hid hmay
  have HST := Lib.hid (ew_new w ⟨op, (k, q, s), tb, nm, n, A, m, c⟩)
  clear hmay
  go_enter Try.func25, Try.ntmps25
  go_wp2_with fail
  refine (HM.out _ HST.out.2.2).mono ?_
  rintro e w4 ⟨rfl, hb4⟩
  have HS4 := Lib.hid (ew_below HST.out hb4)
  clear hb4
  obtain ⟨y0, y1, y2, f0, f1, f2⟩ := cell3 HS4.out.2.1
  go_wp2
  obtain ⟨e0, e1, e2, _, _, _⟩ := cell3 (blk3_set HS4.out.2.1 (.int .u8 0) (.int .i64 0) (.string ⟨#[]⟩))
  exact bodyPost_ret (v := .tuple #[.agg #[.int .u8 0, .int .i64 0, .string ⟨#[]⟩], .int .i64 2]) (by simp [results, Try.results25, go_sem, e0, e1, e2]) rfl ⟨rfl, below3_at HS4.out.2.2 (by omega) _ _ _⟩
/-- ref15.Eval, of any expression and row -/
theorem reval_tree (row : List Val) (RA : Option Addr) (rn rc : Nat) (hn : rn = row.length) (hr : ∀ x ∈ row, Vk x) (T : XT) (w : World) (hin : InT w w.heap.size T) (hV : Vals w w.heap.size RA row) (hsm : Sm 0 T) :
    Calls Try.prog 25 #[exV T.ex, .slice RA rn rc] w fun e w' => e = .returned (.tuple #[valV (evP row T).1, .int .i64 (evP row T).2]) ∧ Below w.heap.size w w' := by
  have hP : evP row T = if mayP rn T 0 = true then comeP row T else (zV, 2) := by unfold evP; rw [hn]
  have hm := fun (W : World) (hb : Below w.heap.size w W) => rmay_tree rn T W 0 (int_step hin hb)
  rw [← may_same rn T 0 0 0 hsm (.inl ⟨rfl, rfl⟩)] at hm
  have hc := fun (W : World) (hb : Below w.heap.size w W) (hM : mayP rn T 0 = true) => at_tree row hr RA rn rc hn T W (int_step hin hb) (vals_step hV hb) hM
  rw [hP]
  generalize comeP row T = z at *
  clear hP hin hV hsm
  obtain ⟨op, ⟨vk, vn, vs⟩, tb, nm, n, A, c, ks⟩ := T
  obtain ⟨⟨z1, z2, z3⟩, ze⟩ := z
  cases hM : mayP rn (.mk op (vk, vn, vs) tb nm n A c ks) 0
  · rw [hM] at hm
    rw [if_neg (by simp)]
    exact reval_bad op vk vn n vs tb nm A ks.length c RA rn rc w hm
  · rw [hM] at hm
    rw [if_pos rfl]
    exact reval_ok op vk vn n vs tb nm A ks.length c RA rn rc z1 z2 ze z3 w hm (fun W hb => hc W hb hM)
end Go.Proofs.Ytkgpcodccpckeaa
