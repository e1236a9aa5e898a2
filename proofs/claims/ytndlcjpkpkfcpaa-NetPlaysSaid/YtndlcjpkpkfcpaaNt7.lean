/- The laws' works; no net. No condition. -/
import Derived.Test.YtndlcjpkpkfcpaaNt6
namespace Go.Proofs.Ytndlcjpkpkfcpaa
open Go.RowKit Go Go.Maps
set_option linter.unusedVariables false
set_option linter.unusedSimpArgs false
/-- the net, made since w -/
def Nb (w : World) (gn gm : Nat) (L : List Lt) (N : Int) (W : World) : Prop := NetS gn gm L N W ∧ w.heap.size ≤ gn ∧ w.heap.size ≤ gm ∧ Below w.heap.size w W
theorem nb_step {w W W' : World} {gn gm : Nat} {L : List Lt} {N : Int} (h : Nb w gn gm L N W) (hb : Below W.heap.size W W') : Nb w gn gm L N W' := ⟨net_step h.1 hb, h.2.1, h.2.2.1, bj h.2.2.2 hb⟩
theorem nb_but {w W W' : World} {gn gm : Nat} {L L' : List Lt} {N N' : Int} (h : Nb w gn gm L N W) (hn : NetS gn gm L' N' W') (hb : But gn gm W W') : Nb w gn gm L' N' W' := ⟨hn, h.2.1, h.2.2.1, h.2.2.2.trans (but_below hb h.2.1 h.2.2.1 h.2.2.2.size)⟩
set_option maxRecDepth 100000 in
set_option maxHeartbeats 8000000 in
theorem works25 (w : World) : Calls Try.prog 9 #[] w fun e w' => e = .returned (.bool true) ∧ Below w.heap.size w w' := by
  go_enter Try.func9, Try.ntmps9
  go_wp2_with fail
  refine (new_any _).mono ?_
  rintro e w1 ⟨gn, gm, rfl, hn, h1, h2, hb⟩
  have H1 : Hid (Nb w gn gm [] 0 w1) := Lib.hid ⟨hn, h1, h2, hb⟩
  clear hn h1 h2 hb
  go_wp2_with fail
  refine (send_ok 0 1 ⟨#[97, 98]⟩ gn gm [] 0 _ H1.out.1 (by omega) (by decide) 1 0 [⟨1, 0, 1, ⟨#[97, 98]⟩, false⟩] 1 rfl rfl rfl rfl).mono ?_
  rintro e w2 ⟨rfl, hn, hb⟩
  have H2 := Lib.hid (nb_but H1.out hn hb)
  clear hn hb H1
  go_wp2_with fail
  refine (deliver_some 1 gn gm [⟨1, 0, 1, ⟨#[97, 98]⟩, false⟩] 1 _ H2.out.1 (by unfold I64'; omega) ⟨1, 0, 1, ⟨#[97, 98]⟩, false⟩ rfl).mono ?_
  rintro e w3 ⟨rfl, hn, hb⟩
  have H3 := Lib.hid (nb_step (nb_but H2.out hn hb) (one_alloc (o := .cells (ltC ⟨1, 0, 1, ⟨#[97, 98]⟩, false⟩) 31)))
  clear hn hb H2
  go_wp2_with fail
  refine (flight_any gn gm _ 1 _ H3.out.1 (by omega)).mono ?_
  rintro e w4 ⟨v, rfl, ho, hn, hb⟩
  obtain ⟨A, c, rfl⟩ := own_form ho
  have H4 := Lib.hid (nb_step H3.out hb)
  clear hn hb ho H3
  go_wp2
  go_ret
  exact ⟨by first | rfl | simp, H4.out.2.2.2⟩
set_option maxRecDepth 100000 in
set_option maxHeartbeats 4000000 in
theorem send_nil (f t : Int) (b : ByteArray) (w : World) : Calls Try.prog 7 #[.pointer none, .int .i64 f, .int .i64 t, .string b] w fun e w' => e = .returned (.tuple #[.int .i64 0, .int .i64 1]) ∧ w = w' := by
  go_enter Try.func7, Try.ntmps7
  go_wp2
  exact bodyPost_ret (v := .tuple #[.int .i64 0, .int .i64 1]) (by simp [results, Try.results7, go_sem]) rfl ⟨rfl, rfl⟩
set_option maxRecDepth 100000 in
set_option maxHeartbeats 4000000 in
theorem deliver_nil (k : Int) (w : World) : Calls Try.prog 11 #[.pointer none, .int .i64 k] w fun e w' => e = .returned (.tuple #[ltV zL, .int .i64 1]) ∧ Below w.heap.size w w' := by
  have hz := Blk.new w 31 (ltC zL)
  go_enter Try.func11, Try.ntmps11
  go_wp2_with fail
  refine (find_nil k _).mono ?_
  rintro e w2 ⟨rfl, hb2⟩
  have hz2 := blk_step (blk_step hz hb2) (one_alloc (o := .cells (ltC zL) 31))
  have HB := Lib.hid (bj (bj one_alloc hb2) (one_alloc (o := .cells (ltC zL) 31)))
  have HZ := Lib.hid hz2
  obtain ⟨z0, z1, z2, z3, z4⟩ := cell5 hz2
  obtain ⟨f0, f1, f2, f3, f4⟩ := froz5 hz2
  clear hb2 hz hz2
  go_wp2
  obtain ⟨e0, e1, e2, e3, e4⟩ := cell5 (set5 HZ.out (.int .i64 0) (.int .i64 0) (.int .i64 0) (.string ⟨#[]⟩) (.bool false))
  exact bodyPost_ret (v := .tuple #[ltV zL, .int .i64 1]) (by simp [results, Try.results11, go_sem, e0, e1, e2, e3, e4]) rfl ⟨rfl, below5 HB.out (Nat.le_refl _) _ _ _ _ _⟩
set_option maxRecDepth 100000 in
set_option maxHeartbeats 4000000 in
theorem drop_nil (k : Int) (w : World) : Calls Try.prog 12 #[.pointer none, .int .i64 k] w fun e w' => e = .returned (.int .i64 1) ∧ Below w.heap.size w w' := by
  go_enter Try.func12, Try.ntmps12
  go_wp2_with fail
  refine (deliver_nil k _).mono ?_
  rintro e w2 ⟨rfl, hb2⟩
  have HB := Lib.hid hb2
  clear hb2
  go_wp2
  go_ret
  exact ⟨rfl, bj HB.out one_alloc⟩
set_option maxRecDepth 100000 in
set_option maxHeartbeats 4000000 in
theorem twice_nil (k : Int) (w : World) : Calls Try.prog 8 #[.pointer none, .int .i64 k] w fun e w' => e = .returned (.tuple #[.int .i64 0, .int .i64 1]) ∧ Below w.heap.size w w' := by
  go_enter Try.func8, Try.ntmps8
  go_wp2_with fail
  refine (find_nil k _).mono ?_
  rintro e w2 ⟨rfl, hb2⟩
  have HB := Lib.hid hb2
  clear hb2
  go_wp2
  exact bodyPost_ret (v := .tuple #[.int .i64 0, .int .i64 1]) (by simp [results, Try.results8, go_sem]) rfl ⟨rfl, bj HB.out one_alloc⟩
set_option maxRecDepth 100000 in
set_option maxHeartbeats 4000000 in
theorem spoil_nil (k at_ y : Int) (w : World) : Calls Try.prog 10 #[.pointer none, .int .i64 k, .int .i64 at_, .int .u8 y] w fun e w' => e = .returned (.int .i64 1) ∧ Below w.heap.size w w' := by
  go_enter Try.func10, Try.ntmps10
  go_wp2_with fail
  refine (find_nil k _).mono ?_
  rintro e w2 ⟨rfl, hb2⟩
  have HB := Lib.hid hb2
  clear hb2
  go_wp2
  go_ret
  exact ⟨rfl, bj HB.out one_alloc⟩
set_option maxRecDepth 100000 in
set_option maxHeartbeats 4000000 in
theorem flight_nil (w : World) : Calls Try.prog 13 #[.pointer none] w fun e w' => e = .returned (.slice none 0 0) ∧ w = w' := by
  go_enter Try.func13, Try.ntmps13
  go_wp2
  go_ret
  exact ⟨rfl, rfl⟩
end Go.Proofs.Ytndlcjpkpkfcpaa
