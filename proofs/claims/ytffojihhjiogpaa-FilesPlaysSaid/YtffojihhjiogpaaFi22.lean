/- Layer 3: the laws' works. No condition. -/
import Derived.Test.YtffojihhjiogpaaFi21
namespace Go.Proofs.Ytffojihhjiogpaa
open Go.RowKit Go Go.Maps
set_option linter.unusedVariables false
set_option linter.unusedSimpArgs false
theorem ek34 : sizeD (crashD K1 []) 0 = 0 := by kernel_rfl
theorem ek35 : (crashD K1 []).ops = 1 := by kernel_rfl
theorem ek36 : (crashD K1 []).off = false := by kernel_rfl
theorem bs_new (W : World) (l : List Bool) (t : TypeId) : BsAt (W.alloc (.cells (l.map Value.bool).toArray t)) (some ⟨W.heap.size, 0, none⟩) l :=
  .inr ⟨_, 0, rfl, (Blk.new W t _).lt, fun j v hv => by rw [Nat.zero_add, (Blk.new W t _).cell]; simp [hv]⟩
theorem sec_97 (W : World) : Calls Try.prog 11 #[.int .u8 97] W fun e w' => e = .returned (.string (secS 97)) ∧ Below W.heap.size W w' := sector_any 97 W (by omega)
theorem sec_0 (W : World) : Calls Try.prog 11 #[.int .u8 0] W fun e w' => e = .returned (.string (secS 0)) ∧ Below W.heap.size W w' := sector_any 0 W (by omega)
set_option maxRecDepth 100000 in
set_option maxHeartbeats 4000000 in
theorem works_any (w : World) : Calls Try.prog 23 #[] w fun e w' => e = .returned (.bool true) ∧ Below w.heap.size w w' := by
  have HS97 := Lib.hid sec_97
  go_enter Try.func23, Try.ntmps23
  go_wp2_with fail
  refine (kd_new (Below.refl w.heap.size w)).mono ?_
  rintro e w1 ⟨rfl, hk⟩
  have H1 := Lib.hid (hk)
  clear hk
  go_wp2_with fail
  refine (HS97.out _).mono ?_
  rintro e w2 ⟨rfl, hb⟩
  have H2 := Lib.hid (kd_below H1.out hb)
  clear hb H1
  go_wp2_with fail
  refine (kd_write H2.out 0 1 (secS 97) (by omega) (by rw [secS_size]; omega)).mono ?_
  rintro e w3 ⟨he, hk⟩
  rw [ek1] at he
  subst he
  have H3 := Lib.hid (show Kd w _ K1 1 w3 from hk)
  clear hk H2
  go_wp2_with fail
  refine (kd_size H3.out 0).mono ?_
  rintro e w4 ⟨he, rfl⟩
  rw [ek2] at he
  subst he
  go_wp2_with fail
  refine (kd_loose H3.out).mono ?_
  rintro e w5 ⟨he, rfl⟩
  rw [ek3] at he
  subst he
  go_wp2_with fail
  refine (kd_read H3.out 0 1 1 (by omega)).mono ?_
  rintro e w6 ⟨he, hb⟩
  rw [ek33] at he
  subst he
  have H4 := Lib.hid (kd_below H3.out hb)
  clear hb H3
  go_wp2_with fail
  refine (HS97.out _).mono ?_
  rintro e w7 ⟨rfl, hb⟩
  have H5 := Lib.hid (kd_below H4.out hb)
  clear hb H4
  go_wp2_with fail
  refine (kd_crash H5.out (Below.refl _ _) none [] 0 0 rfl (.inl rfl) (fun _ a ha => by cases ha) (by omega)).mono ?_
  rintro e w8 ⟨rfl, hk⟩
  have H6 := Lib.hid (show Kd w _ (crashD K1 []) 1 w8 from hk)
  clear hk H5
  go_wp2_with fail
  refine (kd_size H6.out 0).mono ?_
  rintro e w9 ⟨he, rfl⟩
  rw [ek34] at he
  subst he
  go_wp2_with fail
  refine (kd_ops H6.out).mono ?_
  rintro e w10 ⟨he, rfl⟩
  rw [ek35] at he
  subst he
  go_wp2_with fail
  refine (kd_on H6.out).mono ?_
  rintro e w11 ⟨he, rfl⟩
  rw [ek36] at he
  subst he
  go_wp2
  go_ret
  exact ⟨by first | rfl | simp, kd_b H6.out⟩
end Go.Proofs.Ytffojihhjiogpaa
