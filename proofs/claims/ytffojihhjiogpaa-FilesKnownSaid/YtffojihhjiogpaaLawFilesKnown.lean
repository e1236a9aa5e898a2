/- Layer 3: the walk of FilesKnown. No condition. -/
import Derived.Test.YtffojihhjiogpaaFi22
namespace Go.Proofs.Ytffojihhjiogpaa
open Go.RowKit Go Go.Maps
set_option linter.unusedVariables false
set_option linter.unusedSimpArgs false
set_option maxRecDepth 100000 in
set_option maxHeartbeats 16000000 in
theorem filesKnown_walk (w : World) : Calls Try.prog 3 #[] w fun e w' => e = .returned (.bool true) ∧ Below w.heap.size w w' := by
  have HS97 := Lib.hid sec_97
  have HS0 := Lib.hid sec_0
  have hz64 := secS_size 97
  have hx63 : ((secS 97).extract 0 63).size = 63 := by rw [ByteArray.size_extract, secS_size]; omega
  go_enter Try.func3, Try.ntmps3
  go_wp2_with fail
  refine (kd_new (Below.refl w.heap.size w)).mono ?_
  rintro e w1 ⟨rfl, hk⟩
  have H1 := Lib.hid (hk)
  clear hk
  go_wp2_with fail
  refine (HS97.out _).mono ?_
  rintro e w2 ⟨rfl, hb⟩
  have H2 := Lib.hid (kd_below H1.out hb)
  clear hb H1
  go_wp2_with fail
  refine (kd_write H2.out 0 1 (secS 97) (by omega) (by rw [secS_size]; omega)).mono ?_
  rintro e w3 ⟨he, hk⟩
  rw [ek1] at he
  subst he
  have H3 := Lib.hid (show Kd w _ K1 1 w3 from hk)
  clear hk H2
  go_wp2_with fail
  refine (kd_size H3.out 0).mono ?_
  rintro e w4 ⟨he, rfl⟩
  rw [ek2] at he
  subst he
  go_wp2_with fail
  refine (kd_read H3.out 0 0 1 (by omega)).mono ?_
  rintro e w5 ⟨he, hb⟩
  rw [ek4] at he
  subst he
  have H4 := Lib.hid (kd_below H3.out hb)
  clear hb H3
  go_wp2_with fail
  refine (kd_read H4.out 0 1 2 (by omega)).mono ?_
  rintro e w6 ⟨he, hb⟩
  rw [ek5] at he
  subst he
  have H5 := Lib.hid (kd_below H4.out hb)
  clear hb H4
  go_wp2_with fail
  refine (HS0.out _).mono ?_
  rintro e w7 ⟨rfl, hb⟩
  have H6 := Lib.hid (kd_below H5.out hb)
  clear hb H5
  go_wp2_with fail
  refine (HS97.out _).mono ?_
  rintro e w8 ⟨rfl, hb⟩
  have H7 := Lib.hid (kd_below H6.out hb)
  clear hb H6
  go_wp2_with fail
  refine (kd_write H7.out 0 0 _ (by omega) (by rw [hx63]; omega)).mono ?_
  rintro e w9 ⟨he, hk⟩
  rw [ek30 _ hx63] at he hk
  subst he
  have H8 := Lib.hid (show Kd w _ K1 2 w9 from hk)
  clear hk H7
  go_wp2_with fail
  refine (HS97.out _).mono ?_
  rintro e w10 ⟨rfl, hb⟩
  have H9 := Lib.hid (kd_below H8.out hb)
  clear hb H8
  go_wp2_with fail
  refine (kd_write H9.out 8 0 (secS 97) (by omega) (by rw [secS_size]; omega)).mono ?_
  rintro e w11 ⟨he, hk⟩
  rw [ek6] at he hk
  subst he
  have H10 := Lib.hid (show Kd w _ K1 3 w11 from hk)
  clear hk H9
  go_wp2_with fail
  refine (kd_cut H10.out 0 3 (by omega)).mono ?_
  rintro e w12 ⟨he, hk⟩
  rw [ek7] at he hk
  subst he
  have H11 := Lib.hid (show Kd w _ K1 4 w12 from hk)
  clear hk H10
  go_wp2_with fail
  refine (kd_loose H11.out).mono ?_
  rintro e w13 ⟨he, rfl⟩
  rw [ek3] at he
  subst he
  go_wp2_with fail
  refine (kd_crash H11.out one_alloc _ [false] _ _ rfl (bs_new _ [false] _) (fun a ha => by cases ha; exact .inr (Nat.le_refl _)) (by simp)).mono ?_
  rintro e w14 ⟨rfl, hk⟩
  have H12 := Lib.hid (show Kd w _ K2 4 w14 from hk)
  clear hk H11
  go_wp2_with fail
  refine (kd_size H12.out 0).mono ?_
  rintro e w15 ⟨he, rfl⟩
  rw [ek8] at he
  subst he
  go_wp2_with fail
  refine (HS97.out _).mono ?_
  rintro e w16 ⟨rfl, hb⟩
  have H13 := Lib.hid (kd_below H12.out hb)
  clear hb H12
  go_wp2_with fail
  refine (HS97.out _).mono ?_
  rintro e w17 ⟨rfl, hb⟩
  have H14 := Lib.hid (kd_below H13.out hb)
  clear hb H13
  go_wp2_with fail
  refine (kd_write H14.out 1 0 (secS 97 ++ secS 97) (by omega) (by rw [ByteArray.size_append, secS_size]; omega)).mono ?_
  rintro e w18 ⟨he, hk⟩
  rw [ek9] at he
  subst he
  have H15 := Lib.hid (show Kd w _ K3 5 w18 from hk)
  clear hk H14
  go_wp2_with fail
  refine (kd_crash H15.out one_alloc _ [false, true] _ _ rfl (bs_new _ [false, true] _) (fun a ha => by cases ha; exact .inr (Nat.le_refl _)) (by simp)).mono ?_
  rintro e w19 ⟨rfl, hk⟩
  have H16 := Lib.hid (show Kd w _ K4 5 w19 from hk)
  clear hk H15
  go_wp2_with fail
  refine (kd_size H16.out 1).mono ?_
  rintro e w20 ⟨he, rfl⟩
  rw [ek10] at he
  subst he
  go_wp2_with fail
  refine (kd_read H16.out 1 0 2 (by omega)).mono ?_
  rintro e w21 ⟨he, hb⟩
  rw [ek11] at he
  subst he
  have H17 := Lib.hid (kd_below H16.out hb)
  clear hb H16
  go_wp2_with fail
  refine (HS0.out _).mono ?_
  rintro e w22 ⟨rfl, hb⟩
  have H18 := Lib.hid (kd_below H17.out hb)
  clear hb H17
  go_wp2_with fail
  refine (HS97.out _).mono ?_
  rintro e w23 ⟨rfl, hb⟩
  have H19 := Lib.hid (kd_below H18.out hb)
  clear hb H18
  go_wp2_with fail
  refine (kd_arm H19.out 1 31 (by omega)).mono ?_
  rintro e w24 ⟨he, hk⟩
  rw [ek12] at he
  subst he
  have H20 := Lib.hid (show Kd w _ K5 6 w24 from hk)
  clear hk H19
  go_wp2_with fail
  refine (kd_sync H20.out 1 (by omega)).mono ?_
  rintro e w25 ⟨he, hk⟩
  rw [ek13] at he
  subst he
  have H21 := Lib.hid (show Kd w _ K6 7 w25 from hk)
  clear hk H20
  go_wp2_with fail
  refine (kd_sync H21.out 1 (by omega)).mono ?_
  rintro e w26 ⟨he, hk⟩
  rw [ek14] at he
  subst he
  have H22 := Lib.hid (show Kd w _ K7 8 w26 from hk)
  clear hk H21
  go_wp2_with fail
  refine (kd_sync H22.out 1 (by omega)).mono ?_
  rintro e w27 ⟨he, hk⟩
  rw [ek15] at he
  subst he
  have H23 := Lib.hid (show Kd w _ K8 9 w27 from hk)
  clear hk H22
  go_wp2_with fail
  refine (kd_ops H23.out).mono ?_
  rintro e w28 ⟨he, rfl⟩
  rw [ek16] at he
  subst he
  go_wp2_with fail
  refine (kd_new2 (kd_b H23.out)).mono ?_
  rintro e w29 ⟨rfl, hk2, hb⟩
  have HN2 := Lib.hid hk2
  have H24 := Lib.hid (kd_below H23.out hb)
  clear hk2 hb H23
  go_wp2_with fail
  refine (kd_read HN2.out 0 0 0 (by omega)).mono ?_
  rintro e w30 ⟨he, hb⟩
  rw [ek17] at he
  subst he
  have H25 := Lib.hid (kd_below H24.out hb)
  clear hb H24
  go_wp2_with fail
  refine (kd_power H25.out 0).mono ?_
  rintro e w31 ⟨he, hk⟩
  rw [ek18] at he
  subst he
  have H26 := Lib.hid (show Kd w _ K9 9 w31 from hk)
  clear hk H25
  go_wp2_with fail
  refine (kd_cut H26.out 1 0 (by omega)).mono ?_
  rintro e w32 ⟨he, hk⟩
  rw [ek19] at he
  subst he
  have H27 := Lib.hid (show Kd w _ K10 10 w32 from hk)
  clear hk H26
  go_wp2_with fail
  refine (kd_on H27.out).mono ?_
  rintro e w33 ⟨he, rfl⟩
  rw [ek20] at he
  subst he
  go_wp2_with fail
  refine (kd_read H27.out 1 0 1 (by omega)).mono ?_
  rintro e w34 ⟨he, hb⟩
  rw [ek21] at he
  subst he
  have H28 := Lib.hid (kd_below H27.out hb)
  clear hb H27
  go_wp2_with fail
  refine (kd_crash H28.out (Below.refl _ _) none [] 0 0 rfl (.inl rfl) (fun a ha => by cases ha) (by omega)).mono ?_
  rintro e w35 ⟨rfl, hk⟩
  have H29 := Lib.hid (show Kd w _ K11 10 w35 from hk)
  clear hk H28
  go_wp2_with fail
  refine (kd_size H29.out 1).mono ?_
  rintro e w36 ⟨he, rfl⟩
  rw [ek22] at he
  subst he
  go_wp2_with fail
  refine (kd_on H29.out).mono ?_
  rintro e w37 ⟨he, rfl⟩
  rw [ek23] at he
  subst he
  go_wp2_with fail
  refine (read_nil 0 0 0 _).mono ?_
  rintro e w38 ⟨rfl, rfl⟩
  go_wp2_with fail
  refine (write_nil 0 0 ⟨#[]⟩ _).mono ?_
  rintro e w39 ⟨rfl, rfl⟩
  go_wp2_with fail
  refine (cut_nil 0 0 _).mono ?_
  rintro e w40 ⟨rfl, rfl⟩
  go_wp2_with fail
  refine (sync_nil 0 _).mono ?_
  rintro e w41 ⟨rfl, rfl⟩
  go_wp2_with fail
  refine (arm_nil (-1) 0 _).mono ?_
  rintro e w42 ⟨rfl, rfl⟩
  go_wp2_with fail
  refine (power_nil (-1) _).mono ?_
  rintro e w43 ⟨rfl, rfl⟩
  go_wp2_with fail
  refine (crash_nil none 0 0 _).mono ?_
  rintro e w44 ⟨rfl, rfl⟩
  go_wp2_with fail
  refine (size_nil 0 _).mono ?_
  rintro e w45 ⟨rfl, rfl⟩
  go_wp2_with fail
  refine (ops_nil _).mono ?_
  rintro e w46 ⟨rfl, rfl⟩
  go_wp2_with fail
  refine (loose_nil _).mono ?_
  rintro e w47 ⟨rfl, rfl⟩
  go_wp2_with fail
  refine (on_nil _).mono ?_
  rintro e w48 ⟨rfl, rfl⟩
  go_wp2_with fail
  refine (copy_nil _).mono ?_
  rintro e w49 ⟨rfl, rfl⟩
  go_wp2
  go_ret
  exact ⟨by first | rfl | simp, kd_b H29.out⟩
end Go.Proofs.Ytffojihhjiogpaa
