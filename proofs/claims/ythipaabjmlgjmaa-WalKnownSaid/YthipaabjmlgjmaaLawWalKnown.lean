/- Layer 5: the walk of WalKnown. No condition. -/
import Derived.Test.YthipaabjmlgjmaaMwY
import Derived.Deep.QuietTactic
import Derived.BigQuiet
namespace Go.Proofs.Ythipaabjmlgjmaa
open Go.RowKit Go Go.Maps
set_option linter.unusedVariables false
set_option linter.unusedSimpArgs false
theorem pag_0 (W : World) : Calls Try.prog 13 #[.int .u8 0] W fun e w' => e = .returned (.string (pagS 0)) ∧ Below W.heap.size W w' := page_lg 0 W (by omega)
theorem pag_97 (W : World) : Calls Try.prog 13 #[.int .u8 97] W fun e w' => e = .returned (.string (pagS 97)) ∧ Below W.heap.size W w' := page_lg 97 W (by omega)
theorem pag_98 (W : World) : Calls Try.prog 13 #[.int .u8 98] W fun e w' => e = .returned (.string (pagS 98)) ∧ Below W.heap.size W w' := page_lg 98 W (by omega)
theorem pag_99 (W : World) : Calls Try.prog 13 #[.int .u8 99] W fun e w' => e = .returned (.string (pagS 99)) ∧ Below W.heap.size W w' := page_lg 99 W (by omega)
theorem sz_k1 : ∀ x ∈ imsK1, x.dt.size ≤ 9223372036854775807 := fun x hx => by
  rcases List.mem_cons.1 hx with rfl | hx
  · show (pagS 97).size ≤ _; rw [pagS_size]; omega
  · obtain rfl := List.mem_singleton.1 hx
    show (pagS 98).size ≤ _; rw [pagS_size]; omega
theorem sz_k2 : ∀ x ∈ imsK2, x.dt.size ≤ 9223372036854775807 := fun x hx => by
  obtain rfl := List.mem_singleton.1 hx
  show (pagS 99).size ≤ _; rw [pagS_size]; omega
set_option maxRecDepth 100000 in
set_option maxHeartbeats 16000000 in
theorem walKnown_walk (w : World) : Calls Try.prog 3 #[] w fun e w' => e = .returned (.bool true) ∧ Below w.heap.size w w' := by
  have HP0 := Lib.hid pag_0
  have HP97 := Lib.hid pag_97
  have HP98 := Lib.hid pag_98
  have HP99 := Lib.hid pag_99
  have HNEW := Lib.hid open_new
  have HPN := Lib.hid pg_new
  obtain ⟨d1, d2, d3, m1, m2, m3, m4, m5, m6, m7, m8, m9, m10, m11, m12, m13, m14, m15⟩ := known_math
  have M1 := Lib.hid m1
  have M2 := Lib.hid m2
  have M3 := Lib.hid m3
  have M4 := Lib.hid m4
  have M5 := Lib.hid m5
  have M6 := Lib.hid m6
  have M7 := Lib.hid m7
  have M8 := Lib.hid m8
  have M9 := Lib.hid m9
  have M10 := Lib.hid m10
  have M11 := Lib.hid m11
  have M12 := Lib.hid m12
  have M13 := Lib.hid m13
  have M14 := Lib.hid m14
  have M15 := Lib.hid m15
  clear m1 m2 m3 m4 m5 m6 m7 m8 m9 m10 m11 m12 m13 m14 m15
  go_enter Try.func3, Try.ntmps3
  go_wp2_with fail
  refine (kd_new (Below.refl w.heap.size w)).mono ?_
  rintro e w1 ⟨rfl, hk⟩
  have H1 := Lib.hid (hk)
  generalize w.heap.size + 1 = g at *
  clear hk
  go_wp2_with fail
  refine (kl_open_as H1.out rfl open_new).mono ?_
  rintro e w2 ⟨-, -, q1, rfl, hk⟩
  have H2 := Lib.hid hk
  clear hk H1
  go_wp2_with fail
  refine (kl_mark H2.out).mono ?_
  rintro e w3 ⟨rfl, rfl⟩
  go_wp2_with fail
  refine (kl_pages H2.out).mono ?_
  rintro e w4 ⟨rfl, rfl⟩
  go_wp2_with fail
  refine (kl_number H2.out).mono ?_
  rintro e w5 ⟨rfl, rfl⟩
  go_wp2_with fail
  refine (kl_page_as H2.out 1 0 HPN.out).mono ?_
  rintro e w6 ⟨rfl, hk⟩
  have H3 := Lib.hid hk
  clear hk H2
  go_wp2_with fail
  refine (HP0.out _).mono ?_
  rintro e w7 ⟨rfl, hb⟩
  have H4 := Lib.hid (kl_below H3.out hb)
  clear hb H3
  go_wp2_with fail
  refine (HP97.out _).mono ?_
  rintro e w8 ⟨rfl, hb⟩
  have H5 := Lib.hid (kl_below H4.out hb)
  clear hb H4
  go_wp2_with fail
  refine (HP98.out _).mono ?_
  rintro e w9 ⟨rfl, hb⟩
  have H6 := Lib.hid (kl_below H5.out hb)
  clear hb H5
  go_wp2_with fail
  refine (kl_append_as (kl_below H6.out allocB) rfl rfl 2 _ 2 2 imsK1 (im_two w9 _ 1 2 (pagS 97) (pagS 98)) rfl (by omega) sz_k1 (by omega) M1.out).mono ?_
  rintro e w10 ⟨rfl, hk⟩
  have H7 := Lib.hid hk
  clear hk H6
  go_wp2_with fail
  refine (kl_mark H7.out).mono ?_
  rintro e w11 ⟨rfl, rfl⟩
  go_wp2_with fail
  refine (kl_pages H7.out).mono ?_
  rintro e w12 ⟨rfl, rfl⟩
  go_wp2_with fail
  refine (kd_ops (kl_kd H7.out)).mono ?_
  rintro e w13 ⟨he, rfl⟩
  rw [M2.out] at he
  subst he
  go_wp2_with fail
  refine (kd_size (kl_kd H7.out) 1).mono ?_
  rintro e w14 ⟨he, rfl⟩
  rw [M3.out] at he
  subst he
  go_wp2_with fail
  refine (HP99.out _).mono ?_
  rintro e w15 ⟨rfl, hb⟩
  have H8 := Lib.hid (kl_below H7.out hb)
  clear hb H7
  go_wp2_with fail
  refine (kl_append_as (kl_below H8.out allocB) rfl rfl 1 _ 1 1 imsK2 (im_one w15 _ 1 (pagS 99)) rfl (by omega) sz_k2 (by omega) M4.out).mono ?_
  rintro e w16 ⟨rfl, hk⟩
  have H9 := Lib.hid hk
  clear hk H8
  go_wp2_with fail
  refine (kl_page_as H9.out 1 2 M7.out).mono ?_
  rintro e w17 ⟨rfl, hk⟩
  have H10 := Lib.hid hk
  clear hk H9
  go_wp2_with fail
  refine (kl_page_as H10.out 1 3 M8.out).mono ?_
  rintro e w18 ⟨rfl, hk⟩
  have H11 := Lib.hid hk
  clear hk H10
  go_wp2_with fail
  refine (kl_page_as H11.out 2 3 M9.out).mono ?_
  rintro e w19 ⟨rfl, hk⟩
  have H12 := Lib.hid hk
  clear hk H11
  go_wp2_with fail
  refine (kl_page_as H12.out 0 0 M10.out).mono ?_
  rintro e w20 ⟨rfl, hk⟩
  have H13 := Lib.hid hk
  clear hk H12
  go_wp2_with fail
  refine (kl_page_as H13.out 1 4 M11.out).mono ?_
  rintro e w21 ⟨rfl, hk⟩
  have H14 := Lib.hid hk
  clear hk H13
  go_wp2_with fail
  refine (HP97.out _).mono ?_
  rintro e w22 ⟨rfl, hb⟩
  have H15 := Lib.hid (kl_below H14.out hb)
  clear hb H14
  go_wp2_with fail
  refine (HP99.out _).mono ?_
  rintro e w23 ⟨rfl, hb⟩
  have H16 := Lib.hid (kl_below H15.out hb)
  clear hb H15
  go_wp2_with fail
  refine (HP98.out _).mono ?_
  rintro e w24 ⟨rfl, hb⟩
  have H17 := Lib.hid (kl_below H16.out hb)
  clear hb H16
  go_wp2_with fail
  refine (HP99.out _).mono ?_
  rintro e w25 ⟨rfl, hb⟩
  have H18 := Lib.hid (kl_below H17.out hb)
  clear hb H17
  go_wp2_with fail
  refine (kl_append_as (kl_below H18.out allocB) rfl rfl 0 _ 1 1 imsK2 (im_one w25 _ 1 (pagS 99)) rfl (by omega) sz_k2 (by omega) M5.out).mono ?_
  rintro e w26 ⟨rfl, hk⟩
  have H19 := Lib.hid hk
  clear hk H18
  go_wp2_with fail
  refine (kl_append_as H19.out rfl rfl 1 _ 0 0 [] (.inl rfl) rfl (by omega) (fun x hx => (List.not_mem_nil hx).elim) (by omega) M6.out).mono ?_
  rintro e w27 ⟨rfl, hk⟩
  have H20 := Lib.hid hk
  clear hk H19
  go_wp2_with fail
  refine (kl_check_as H20.out rfl rfl (by omega) M12.out).mono ?_
  rintro e w28 ⟨rfl, hk⟩
  have H21 := Lib.hid hk
  clear hk H20
  go_wp2_with fail
  refine (kl_mark H21.out).mono ?_
  rintro e w29 ⟨rfl, rfl⟩
  go_wp2_with fail
  refine (kl_pages H21.out).mono ?_
  rintro e w30 ⟨rfl, rfl⟩
  go_wp2_with fail
  refine (kl_number H21.out).mono ?_
  rintro e w31 ⟨rfl, rfl⟩
  go_wp2_with fail
  refine (kd_size (kl_kd H21.out) 0).mono ?_
  rintro e w32 ⟨he, rfl⟩
  rw [M13.out] at he
  subst he
  go_wp2_with fail
  refine (kd_size (kl_kd H21.out) 1).mono ?_
  rintro e w33 ⟨he, rfl⟩
  rw [M14.out] at he
  subst he
  go_wp2_with fail
  refine (kd_loose (kl_kd H21.out)).mono ?_
  rintro e w34 ⟨he, rfl⟩
  rw [M15.out] at he
  subst he
  go_wp2_with fail
  refine (page_nil 1 0 _).mono ?_
  rintro e w35 ⟨rfl, rfl⟩
  go_wp2_with fail
  refine (frames_nil 0 0 _).mono ?_
  rintro e w36 ⟨rfl, rfl⟩
  go_wp2_with fail
  refine (open_nil _).mono ?_
  rintro e w37 ⟨rfl, rfl⟩
  go_wp2_with fail
  refine (append_nil 1 none 0 0 _).mono ?_
  rintro e w38 ⟨rfl, hb⟩
  have H22 := Lib.hid (kl_below H21.out hb)
  clear hb H21
  go_wp2_with fail
  refine (check_nil _).mono ?_
  rintro e w39 ⟨rfl, hb⟩
  have H23 := Lib.hid (kl_below H22.out hb)
  clear hb H22
  go_wp2_with fail
  refine (mark_nil _).mono ?_
  rintro e w40 ⟨rfl, rfl⟩
  go_wp2_with fail
  refine (pages_nil _).mono ?_
  rintro e w41 ⟨rfl, rfl⟩
  go_wp2_with fail
  refine (number_nil _).mono ?_
  rintro e w42 ⟨rfl, rfl⟩
  go_wp2
  go_ret
  exact ⟨by first | rfl | simp, kl_b H23.out⟩
end Go.Proofs.Ythipaabjmlgjmaa
