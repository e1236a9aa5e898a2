/- The walk of FrameHeads. Conditions: the numbers fit their kinds, a text is no longer than a machine has addresses. -/
import Derived.Test.YtpgjlpljjbgplaaLawFrameBack
import Derived.Test.YtpgjlpljjbgplaaFrameRefSpec
namespace Go.Proofs.Ytpgjlpljjbgplaa
open Go.RowKit
def Hq (w : World) (N F P : Int) (h1 h2 : Nat) (g1 g2 g3 : Int) (W : World) : Prop :=
  Blk W w.heap.size 27 #[.int .u64 N, .int .i64 F, .int .i64 P] ∧ Blk W h1 27 #[.int .u64 g1, .int .i64 g2, .int .i64 g3] ∧ Blk W h2 27 #[.int .u64 g1, .int .i64 g2, .int .i64 g3] ∧ Below w.heap.size w W
theorem hq_step {w W w' : World} {N F P : Int} {h1 h2 : Nat} {g1 g2 g3 : Int} (hb : Below W.heap.size W w') (h : Hq w N F P h1 h2 g1 g2 g3 W) : Hq w N F P h1 h2 g1 g2 g3 w' := ⟨blk_step h.1 hb, blk_step h.2.1 hb, blk_step h.2.2.1 hb, bj h.2.2.2 hb⟩
theorem hqS {w W : World} {N F P : Int} {h1 h2 : Nat} {g1 g2 g3 : Int} (h : Hq w N F P h1 h2 g1 g2 g3 W) :
    W.cell? ⟨h1, 0, none⟩ = some (.int .u64 g1) ∧ W.cell? ⟨h1, 1, none⟩ = some (.int .i64 g2) ∧ W.cell? ⟨h1, 2, none⟩ = some (.int .i64 g3) ∧ W.cell? ⟨h2, 0, none⟩ = some (.int .u64 g1) ∧ W.cell? ⟨h2, 1, none⟩ = some (.int .i64 g2) ∧ W.cell? ⟨h2, 2, none⟩ = some (.int .i64 g3) ∧ W.cell? ⟨w.heap.size, 0, none⟩ = some (.int .u64 N) ∧ Hq w N F P h1 h2 g1 g2 g3 W :=
  ⟨h.2.1.cell 0, h.2.1.cell 1, h.2.1.cell 2, h.2.2.1.cell 0, h.2.2.1.cell 1, h.2.2.1.cell 2, h.1.cell 0, h⟩
set_option maxRecDepth 100000 in
set_option maxHeartbeats 4000000 in
theorem frameHeads_long (N F P : Int) (s : ByteArray) (w : World) (hs : 8192 < s.size) :
    Calls Try.prog 4 #[.agg #[.int .u64 N, .int .i64 F, .int .i64 P], .string s] w fun e w' => e = .returned (.bool true) ∧ Below w.heap.size w w' := by
  go_enter Try.func4, Try.ntmps4
  go_wp2_with fail
  refine (works_any _).mono ?_
  rintro e w1 ⟨rfl, hb1⟩
  have k1 := blk_at hb1
  have b1 := bja _ (Below.refl _ _) hb1
  clear hb1
  obtain ⟨c0, c1, c2⟩ := trip_at k1
  go_wp2
  go_ret
  exact ⟨rfl, b1⟩
set_option maxRecDepth 100000 in
set_option maxHeartbeats 8000000 in
theorem frameHeads_bad (N F P g1 g2 g3 x A1 A2 : Int) (s : ByteArray) (w : World) (hs : s.size ≤ 8192)
    (H1 : Hid (∀ w, Calls Try.prog 10 #[.agg #[.int .u64 N, .int .i64 F, .int .i64 P]] w fun e w' => e = .returned (.tuple #[.string ⟨#[]⟩, .int .i64 2]) ∧ Below w.heap.size w w'))
    (H2 : Hid (∀ w, Calls Try.prog 16 #[.agg #[.int .u64 N, .int .i64 F, .int .i64 P]] w fun e w' => e = .returned (.bool false) ∧ Below w.heap.size w w'))
    (H3 : Hid (∀ w, Calls Try.prog 11 #[.string s] w fun e w' => e = .returned (.tuple #[.agg #[.int .u64 g1, .int .i64 g2, .int .i64 g3], .int .i64 x]) ∧ Below w.heap.size w w'))
    (H4 : Hid (∀ w, Calls Try.prog 18 #[.string s] w fun e w' => e = .returned (.tuple #[.agg #[.int .u64 g1, .int .i64 g2, .int .i64 g3], .int .i64 x]) ∧ Below w.heap.size w w'))
    (H5 : Hid (∀ w, Calls Try.prog 19 #[.int .u64 N] w fun e w' => e = .returned (.agg #[.int .u32 A1, .int .u32 A2]) ∧ Below w.heap.size w w'))
    (H6 : Hid (∀ w, Calls Try.prog 20 #[.int .u64 N] w fun e w' => e = .returned (.agg #[.int .u32 A1, .int .u32 A2]) ∧ Below w.heap.size w w')) :
    Calls Try.prog 4 #[.agg #[.int .u64 N, .int .i64 F, .int .i64 P], .string s] w fun e w' => e = .returned (.bool true) ∧ Below w.heap.size w w' := by
  go_enter Try.func4, Try.ntmps4
  go_wp2_with fail
  refine (works_any _).mono ?_
  rintro e w1 ⟨rfl, hb1⟩
  have k1 := blk_at hb1
  have b1 := bja _ (Below.refl _ _) hb1
  clear hb1
  obtain ⟨c0, c1, c2⟩ := trip_at k1
  go_wp2_with fail
  refine (H1.out _).mono ?_
  rintro e w2 ⟨rfl, hb⟩
  replace k1 := blk_step k1 hb
  replace b1 := bj b1 hb
  clear hb c0 c1 c2
  obtain ⟨c0, c1, c2⟩ := trip_at k1
  go_wp2_with fail
  refine (H2.out _).mono ?_
  rintro e w3 ⟨rfl, hb⟩
  replace k1 := blk_step k1 hb
  replace b1 := bj b1 hb
  clear hb c0 c1 c2
  obtain ⟨c0, c1, c2⟩ := trip_at k1
  go_wp2_with fail
  refine (H3.out _).mono ?_
  rintro e v1 ⟨rfl, hb⟩
  replace k1 := (blk_step k1 hb).alloc (.cells #[.int .u64 g1, .int .i64 g2, .int .i64 g3] 27)
  have k2 := blk_new v1 v1.heap.size 27 #[.int .u64 g1, .int .i64 g2, .int .i64 g3] rfl
  replace b1 := (bj b1 hb).alloc (bj b1 hb).size (.cells #[.int .u64 g1, .int .i64 g2, .int .i64 g3] 27)
  clear hb c0 c1 c2
  go_wp2_with fail
  refine (H4.out _).mono ?_
  rintro e v2 ⟨rfl, hb⟩
  replace k1 := (blk_step k1 hb).alloc (.cells #[.int .u64 g1, .int .i64 g2, .int .i64 g3] 27)
  replace k2 := (blk_step k2 hb).alloc (.cells #[.int .u64 g1, .int .i64 g2, .int .i64 g3] 27)
  have k3 := blk_new v2 v2.heap.size 27 #[.int .u64 g1, .int .i64 g2, .int .i64 g3] rfl
  replace b1 := (bj b1 hb).alloc (bj b1 hb).size (.cells #[.int .u64 g1, .int .i64 g2, .int .i64 g3] 27)
  have hs : Hq w N F P v1.heap.size v2.heap.size g1 g2 g3 (v2.alloc (.cells #[.int .u64 g1, .int .i64 g2, .int .i64 g3] 27)) := ⟨k1, k2, k3, b1⟩
  clear hb k1 k2 k3 b1
  go_wp2_with fail
  generalize (v2.alloc (.cells #[.int .u64 g1, .int .i64 g2, .int .i64 g3] 27)) = W8 at *
  generalize v1.heap.size = h1 at *
  generalize v2.heap.size = h2 at *
  have hs0 := hq_step (Below.refl _ _).drew hs
  go_region_held3 (fun W => W.cell? ⟨h1, 0, none⟩ = some (.int .u64 g1) ∧ W.cell? ⟨h1, 1, none⟩ = some (.int .i64 g2) ∧ W.cell? ⟨h1, 2, none⟩ = some (.int .i64 g3) ∧ W.cell? ⟨h2, 0, none⟩ = some (.int .u64 g1) ∧ W.cell? ⟨h2, 1, none⟩ = some (.int .i64 g2) ∧ W.cell? ⟨h2, 2, none⟩ = some (.int .i64 g3) ∧ W.cell? ⟨w.heap.size, 0, none⟩ = some (.int .u64 N) ∧ Hq w N F P h1 h2 g1 g2 g3 W)
    (first | exact hqS hs0 | exact hqS hs1 | exact hqS hs2)
    (first | (go_at_call 19; (with_reducible refine (H5.out _).mono ?_); rintro e w8 ⟨rfl, hb8⟩; (have hs1 := hq_step hb8 hs0)) | (go_at_call 20; (with_reducible refine (H6.out _).mono ?_); rintro e w9 ⟨rfl, hb9⟩; (have hs2 := hq_step hb9 hs1)))
  go_wp2
  go_ret
  exact ⟨rfl, hs2.2.2.2⟩
set_option maxRecDepth 100000 in
set_option maxHeartbeats 8000000 in
theorem frameHeads_ok (N F P g1 g2 g3 x A1 A2 : Int) (s S : ByteArray) (w : World) (hs : s.size ≤ 8192)
    (H1 : Hid (∀ w, Calls Try.prog 10 #[.agg #[.int .u64 N, .int .i64 F, .int .i64 P]] w fun e w' => e = .returned (.tuple #[.string S, .int .i64 0]) ∧ Below w.heap.size w w'))
    (H2 : Hid (∀ w, Calls Try.prog 16 #[.agg #[.int .u64 N, .int .i64 F, .int .i64 P]] w fun e w' => e = .returned (.bool true) ∧ Below w.heap.size w w'))
    (H7 : Hid (∀ w, Calls Try.prog 17 #[.agg #[.int .u64 N, .int .i64 F, .int .i64 P]] w fun e w' => e = .returned (.string S) ∧ Below w.heap.size w w'))
    (H3 : Hid (∀ w, Calls Try.prog 11 #[.string s] w fun e w' => e = .returned (.tuple #[.agg #[.int .u64 g1, .int .i64 g2, .int .i64 g3], .int .i64 x]) ∧ Below w.heap.size w w'))
    (H4 : Hid (∀ w, Calls Try.prog 18 #[.string s] w fun e w' => e = .returned (.tuple #[.agg #[.int .u64 g1, .int .i64 g2, .int .i64 g3], .int .i64 x]) ∧ Below w.heap.size w w'))
    (H5 : Hid (∀ w, Calls Try.prog 19 #[.int .u64 N] w fun e w' => e = .returned (.agg #[.int .u32 A1, .int .u32 A2]) ∧ Below w.heap.size w w'))
    (H6 : Hid (∀ w, Calls Try.prog 20 #[.int .u64 N] w fun e w' => e = .returned (.agg #[.int .u32 A1, .int .u32 A2]) ∧ Below w.heap.size w w')) :
    Calls Try.prog 4 #[.agg #[.int .u64 N, .int .i64 F, .int .i64 P], .string s] w fun e w' => e = .returned (.bool true) ∧ Below w.heap.size w w' := by
  go_enter Try.func4, Try.ntmps4
  go_wp2_with fail
  refine (works_any _).mono ?_
  rintro e w1 ⟨rfl, hb1⟩
  have k1 := blk_at hb1
  have b1 := bja _ (Below.refl _ _) hb1
  clear hb1
  obtain ⟨c0, c1, c2⟩ := trip_at k1
  go_wp2_with fail
  refine (H1.out _).mono ?_
  rintro e w2 ⟨rfl, hb⟩
  replace k1 := blk_step k1 hb
  replace b1 := bj b1 hb
  clear hb c0 c1 c2
  obtain ⟨c0, c1, c2⟩ := trip_at k1
  go_wp2_with fail
  refine (H2.out _).mono ?_
  rintro e w3 ⟨rfl, hb⟩
  replace k1 := blk_step k1 hb
  replace b1 := bj b1 hb
  clear hb c0 c1 c2
  obtain ⟨c0, c1, c2⟩ := trip_at k1
  go_wp2_with fail
  refine (H7.out _).mono ?_
  rintro e w4 ⟨rfl, hb⟩
  replace k1 := blk_step k1 hb
  replace b1 := bj b1 hb
  clear hb c0 c1 c2
  obtain ⟨c0, c1, c2⟩ := trip_at k1
  go_wp2_with fail
  refine (H3.out _).mono ?_
  rintro e v1 ⟨rfl, hb⟩
  replace k1 := (blk_step k1 hb).alloc (.cells #[.int .u64 g1, .int .i64 g2, .int .i64 g3] 27)
  have k2 := blk_new v1 v1.heap.size 27 #[.int .u64 g1, .int .i64 g2, .int .i64 g3] rfl
  replace b1 := (bj b1 hb).alloc (bj b1 hb).size (.cells #[.int .u64 g1, .int .i64 g2, .int .i64 g3] 27)
  clear hb c0 c1 c2
  go_wp2_with fail
  refine (H4.out _).mono ?_
  rintro e v2 ⟨rfl, hb⟩
  replace k1 := (blk_step k1 hb).alloc (.cells #[.int .u64 g1, .int .i64 g2, .int .i64 g3] 27)
  replace k2 := (blk_step k2 hb).alloc (.cells #[.int .u64 g1, .int .i64 g2, .int .i64 g3] 27)
  have k3 := blk_new v2 v2.heap.size 27 #[.int .u64 g1, .int .i64 g2, .int .i64 g3] rfl
  replace b1 := (bj b1 hb).alloc (bj b1 hb).size (.cells #[.int .u64 g1, .int .i64 g2, .int .i64 g3] 27)
  have hs : Hq w N F P v1.heap.size v2.heap.size g1 g2 g3 (v2.alloc (.cells #[.int .u64 g1, .int .i64 g2, .int .i64 g3] 27)) := ⟨k1, k2, k3, b1⟩
  clear hb k1 k2 k3 b1
  go_wp2_with fail
  generalize (v2.alloc (.cells #[.int .u64 g1, .int .i64 g2, .int .i64 g3] 27)) = W8 at *
  generalize v1.heap.size = h1 at *
  generalize v2.heap.size = h2 at *
  have hs0 := hq_step (Below.refl _ _).drew hs
  go_region_held3 (fun W => W.cell? ⟨h1, 0, none⟩ = some (.int .u64 g1) ∧ W.cell? ⟨h1, 1, none⟩ = some (.int .i64 g2) ∧ W.cell? ⟨h1, 2, none⟩ = some (.int .i64 g3) ∧ W.cell? ⟨h2, 0, none⟩ = some (.int .u64 g1) ∧ W.cell? ⟨h2, 1, none⟩ = some (.int .i64 g2) ∧ W.cell? ⟨h2, 2, none⟩ = some (.int .i64 g3) ∧ W.cell? ⟨w.heap.size, 0, none⟩ = some (.int .u64 N) ∧ Hq w N F P h1 h2 g1 g2 g3 W)
    (first | exact hqS hs0 | exact hqS hs1 | exact hqS hs2)
    (first | (go_at_call 19; (with_reducible refine (H5.out _).mono ?_); rintro e w8 ⟨rfl, hb8⟩; (have hs1 := hq_step hb8 hs0)) | (go_at_call 20; (with_reducible refine (H6.out _).mono ?_); rintro e w9 ⟨rfl, hb9⟩; (have hs2 := hq_step hb9 hs1)))
  go_wp2
  go_ret
  exact ⟨rfl, hs2.2.2.2⟩
theorem th_val (L : List Nat) : ∃ (g1 g2 g3 x : Int), thRet L = .tuple #[.agg #[.int .u64 g1, .int .i64 g2, .int .i64 g3], .int .i64 x] := by
  unfold thRet headV
  split
  · exact ⟨_, _, _, _, rfl⟩
  · exact ⟨_, _, _, _, rfl⟩
theorem frameHeads_walk (a0 b0 c0 : Int) (a1 : ByteArray) (w0 : (Lit.int .u64 a0).wf = true) (_u0 : (Lit.int .i64 b0).wf = true) (_x0 : (Lit.int .i64 c0).wf = true) (w1 : a1.size ≤ 140737488351232) (w : World) :
    Calls Try.prog 4 #[.agg #[.int .u64 a0, .int .i64 b0, .int .i64 c0], .string a1] w fun e w' => e = .returned (.bool true) ∧ Below w.heap.size w w' := by
  have h1 := bounds_u64 w0
  clear w0
  by_cases hs : 8192 < a1.size
  · exact frameHeads_long a0 b0 c0 a1 w hs
  · obtain ⟨N, rfl⟩ := Int.eq_ofNat_of_zero_le h1.1
    have hN : N < 18446744073709551616 := by omega
    have t1 := fun w => takeHead_any a1 w w1
    have t2 := fun w => rtakeHead_any a1 w w1
    obtain ⟨g1, g2, g3, x, e⟩ := th_val (bts a1)
    rw [e] at t1 t2
    cases h : okIn 256 b0 && okIn 256 c0 with
    | false =>
      have p1 := fun w => putHead_any (N : Int) b0 c0 w (by omega) (by omega)
      have p2 := fun w => rheadMay_any (N : Int) b0 c0 w
      unfold putHeadRet at p1
      rw [h] at p1 p2
      exact frameHeads_bad N b0 c0 g1 g2 g3 x _ _ a1 w (by omega) (Lib.hid p1) (Lib.hid p2) (Lib.hid t1) (Lib.hid t2) (Lib.hid fun w => start_any N w hN) (Lib.hid fun w => rstart_any N w hN)
    | true =>
      have p2 := fun w => rheadMay_any (N : Int) b0 c0 w
      rw [h] at p2
      rw [Bool.and_eq_true, okIn_iff, okIn_iff] at h
      obtain ⟨⟨f0, f1⟩, q0, q1⟩ := h
      obtain ⟨F, rfl⟩ := Int.eq_ofNat_of_zero_le f0
      obtain ⟨P, rfl⟩ := Int.eq_ofNat_of_zero_le q0
      exact frameHeads_ok N F P g1 g2 g3 x _ _ a1 _ w (by omega) (Lib.hid fun w => putHead_ok N F P w hN (by omega) (by omega)) (Lib.hid p2) (Lib.hid fun w => rhead_any N F P w hN (by omega) (by omega)) (Lib.hid t1) (Lib.hid t2) (Lib.hid fun w => start_any N w hN) (Lib.hid fun w => rstart_any N w hN)
end Go.Proofs.Ytpgjlpljjbgplaa
