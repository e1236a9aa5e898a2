/- Layer 22: the law ChangeBack, walked. Conditions: how the changes lie in memory, how long their texts are. -/
import Derived.Test.YtocbdehcjcggeaaMgE
namespace Go.Proofs.Ytocbdehcjcggeaa
open Go.RowKit Go
set_option linter.unusedVariables false
set_option linter.unusedSimpArgs false
theorem smR_all {l m : List Cg} (hv : l.map vC = m.map vC) (hf : ∀ X ∈ m, FitC X) : ∀ Z ∈ l, SmR Z := fun z hz => by
  obtain ⟨y, hy, hyz⟩ := List.mem_map.1 (hv ▸ List.mem_map_of_mem hz)
  exact smR_of (fit_vC hyz (hf y hy))
theorem len_le {l m : List Cg} (hv : l.map vC = m.map vC) (h : m.length ≤ 100000) : l.length ≤ 100000 := by rw [len_vC hv]; exact h
theorem two_fit {X Y : Cg} (hx : FitC X) (hy : FitC Y) : ∀ Z ∈ [X, Y], FitC Z := fun z hz => by
  simp only [List.mem_cons, List.not_mem_nil, or_false] at hz
  rcases hz with rfl | rfl
  · exact hx
  · exact hy
theorem two_key {X Y : Cg} (hx : KeyOk X) (hy : KeyOk Y) : ∀ Z ∈ [X, Y], KeyOk Z := fun z hz => by
  simp only [List.mem_cons, List.not_mem_nil, or_false] at hz
  rcases hz with rfl | rfl
  · exact hx
  · exact hy
theorem one_fit {X : Cg} (hx : FitC X) : ∀ Z ∈ [X], FitC Z := fun z hz => by rw [List.mem_singleton.1 hz]; exact hx
theorem nil_fit : ∀ Z ∈ ([] : List Cg), FitC Z := fun z hz => by cases hz
theorem nil_cgs (W : World) (A : Option Addr) : Cgs W W.heap.size A [] := .inl rfl
theorem erw_step {W W' : World} {q : Nat} {z : Int} (h : Blk W q 22 #[.int .i64 z]) (hb : Below W.heap.size W W') : Blk W' q 22 #[.int .i64 z] := h.below hb h.lt
theorem take_string (s : ByteArray) (w : World) (hs : s.size ≤ 8192) : Calls Try.prog 18 #[.string s] w (TakQ (bts s) w) := ctake_any s w (by omega)
theorem bstr_put {s : ByteArray} {l : List Cg} (h : bts s = putG l) : bstr (putG l) = s := by rw [← h, bstr_bts]
theorem inv_two {A : Option Addr} {l m : List Cg} {n c : Nat} {w : World} (hO : Cgs w w.heap.size A (l.map swapC)) (hn : n = l.length) (hf : ∀ X ∈ l, FitC X) (h : OkC l) :
    Calls Try.prog 15 #[.slice A n c] w fun e w' => ∃ A' c', e = .returned (.tuple #[.slice A' n c', .int .i64 0]) ∧ Cgs w' w'.heap.size A' l ∧ Below w.heap.size w w' := by
  have := inv_yes (n := n) (c := c) hO (by rw [hn, List.length_map]) (fun X hX => by
    obtain ⟨Y, hY, rfl⟩ := List.mem_map.1 hX
    exact fit_swap (hf Y hY)) (okC_swap h)
  rw [swap_swap] at this
  exact this
theorem swap_fit {l : List Cg} (hf : ∀ X ∈ l, FitC X) : ∀ X ∈ l.map swapC, FitC X := fun X hX => by
  obtain ⟨Y, hY, rfl⟩ := List.mem_map.1 hX
  exact fit_swap (hf Y hY)
theorem swap_lenL (l : List Cg) : (l.map swapC).length = l.length := List.length_map _
set_option maxRecDepth 100000 in
set_option maxHeartbeats 16000000 in
theorem changeBack_walk (A : Option Addr) (l : List Cg) (n c : Nat) (s : ByteArray) (hn : n = l.length) (hm : n ≤ maxLen) (hf : ∀ X ∈ l, FitC X) (hs : s.size ≤ 140737488351232) (w : World) (hO : Cgs w w.heap.size A l) :
    Calls Try.prog 6 #[.slice A n c, .string s] w fun e w' => e = .returned (.bool true) ∧ Below w.heap.size w w' := by
  have HB := Lib.hid (Below.refl w.heap.size w)
  have HL := Lib.hid hO
  have HN := Lib.hid hn
  have HF := Lib.hid hf
  have HM := Lib.hid hm
  have hmI : (n : Int) ≤ 9223372036854775807 := by unfold maxLen at hm; omega
  have hsI : (s.size : Int) ≤ 9223372036854775807 := by omega
  clear hO hn hf hm hs
  go_enter Try.func6, Try.ntmps6
  go_wp2_with fail
  refine (works22 _).mono ?_
  rintro e w1 ⟨rfl, hb⟩
  replace HB := Lib.hid (bj HB.out hb)
  replace HL := Lib.hid (cgs_step HL.out hb)
  clear hb
  go_wp2_with fail
  refine (great_any A l n c _ HL.out HN.out HM.out HF.out).mono ?_
  rintro e w2 ⟨⟨r, rfl, hr⟩, hb⟩
  replace HB := Lib.hid (bj HB.out hb)
  replace HL := Lib.hid (cgs_step HL.out hb)
  clear hb hr
  rcases r with _ | _
  rotate_left
  · go_wp2_with fail
    go_ret
    exact ⟨rfl, HB.out⟩
  by_cases h100 : 100 < n
  · have h100I : (100 : Int) < n := by omega
    go_wp2_with fail
    go_ret
    exact ⟨rfl, HB.out⟩
  have h100I : ¬ ((100 : Int) < n) := by omega
  by_cases h8 : 8192 < s.size
  · have h8I : (8192 : Int) < s.size := by omega
    go_wp2_with fail
    go_ret
    exact ⟨rfl, HB.out⟩
  have h8I : ¬ ((8192 : Int) < s.size) := by omega
  have HTS := Lib.hid (fun W => take_string s W (by omega))
  have H100 := Lib.hid (show n ≤ 100 from by omega)
  clear h100 h8
  go_wp2_with fail
  refine (gcheck_any A l n c _ HL.out HN.out HM.out HF.out).mono ?_
  rintro e w3 ⟨rfl, hb⟩
  replace HB := Lib.hid (bj HB.out hb)
  replace HL := Lib.hid (cgs_step HL.out hb)
  clear hb
  by_cases hok : OkC l
  case' neg =>
    rw [chkG_no hok]
    clear HL hok
    generalize w3 = Wz at *
  case' pos =>
    rw [chkG_ok hok]
    have HOK := Lib.hid hok
    clear hok
    go_wp2_with fail
    refine (put_yes HL.out HN.out HOK.out HF.out).mono ?_
    rintro e w4 ⟨rfl, hb⟩
    replace HB := Lib.hid (bj HB.out hb)
    replace HL := Lib.hid (cgs_step HL.out hb)
    clear hb
    have HTP := Lib.hid (fun W => take_put HOK.out HF.out W)
    generalize bstr (putG l) = S at *
    go_wp2_with fail
    refine (is_any A n c _).mono ?_
    rintro e w5 ⟨rfl, hbl, hb⟩
    have HBL := Lib.hid hbl
    replace HB := Lib.hid (bj HB.out hb)
    replace HL := Lib.hid (cgs_step HL.out hb)
    clear hb hbl
    go_wp2_with fail
    refine (HTP.out _).mono ?_
    rintro e w6 ⟨A9, c9, l9, rfl, hc9, hb, hv9⟩
    have HC := Lib.hid hc9
    have HV := Lib.hid hv9
    replace HB := Lib.hid (bj HB.out hb)
    replace HL := Lib.hid (cgs_step HL.out hb)
    replace HBL := Lib.hid (bl_step HBL.out hb)
    clear hb hc9 hv9 HTP
    have HS0 := Lib.hid (smR_all HV.out HF.out)
    have HN0 := Lib.hid (len_le HV.out (by have := H100.out; have := HN.out; omega))
    go_wp2_with fail
    refine (is1_any _ _ _ _ _ _ _ _ _ _ HC.out HL.out HBL.out rfl HN.out HN0.out HV.out HS0.out).mono ?_
    rintro e w7 ⟨rfl, hb⟩
    replace HB := Lib.hid (bj HB.out hb)
    replace HL := Lib.hid (cgs_step HL.out hb)
    replace HBL := Lib.hid (bl_step HBL.out hb)
    replace HC := Lib.hid (cgs_step HC.out hb)
    clear hb HS0 HN0
    clear HC HBL
    clear HV
    go_wp2_with fail
    refine (is_any A n c _).mono ?_
    rintro e w8 ⟨rfl, hbl, hb⟩
    have HBL := Lib.hid hbl
    replace HB := Lib.hid (bj HB.out hb)
    replace HL := Lib.hid (cgs_step HL.out hb)
    clear hb hbl
    have HMG := Lib.hid (merge_yes HL.out (c := c) (m := l) HN.out (by have := H100.out; omega) HF.out (fun X hX => may_keyOk (okC_may HOK.out X hX) (HF.out X hX)) (merge_self HOK.out) HOK.out (by rw [okC_keep HOK.out]))
    go_wp2_with fail
    refine (HMG.out).mono ?_
    rintro e w9 ⟨A9, c9, l9, rfl, hc9, hb, hv9, hf9⟩
    have HC := Lib.hid hc9
    have HV := Lib.hid hv9
    replace HB := Lib.hid (bj HB.out hb)
    replace HL := Lib.hid (cgs_step HL.out hb)
    replace HBL := Lib.hid (bl_step HBL.out hb)
    clear hb hc9 hv9 hf9 HMG
    have HS0 := Lib.hid (smR_all HV.out HF.out)
    have HN0 := Lib.hid (len_le HV.out (by have := H100.out; have := HN.out; omega))
    go_wp2_with fail
    refine (is1_any _ _ _ _ _ _ _ _ _ _ HC.out HL.out HBL.out rfl HN.out HN0.out HV.out HS0.out).mono ?_
    rintro e w10 ⟨rfl, hb⟩
    replace HB := Lib.hid (bj HB.out hb)
    replace HL := Lib.hid (cgs_step HL.out hb)
    replace HBL := Lib.hid (bl_step HBL.out hb)
    replace HC := Lib.hid (cgs_step HC.out hb)
    clear hb HS0 HN0
    clear HC HBL
    clear HV
    go_wp2_with fail
    refine (inv_yes HL.out HN.out HF.out HOK.out).mono ?_
    rintro e w11 ⟨Am, cm, rfl, hcm, hb⟩
    have HMM := Lib.hid hcm
    replace HB := Lib.hid (bj HB.out hb)
    replace HL := Lib.hid (cgs_step HL.out hb)
    clear hb hcm
    go_wp2_with fail
    refine (is_any A n c _).mono ?_
    rintro e w12 ⟨rfl, hbl, hb⟩
    have HBL := Lib.hid hbl
    replace HB := Lib.hid (bj HB.out hb)
    replace HL := Lib.hid (cgs_step HL.out hb)
    replace HMM := Lib.hid (cgs_step HMM.out hb)
    clear hb hbl
    go_wp2_with fail
    refine (inv_two (m := l) HMM.out HN.out HF.out HOK.out).mono ?_
    rintro e w13 ⟨A9, c9, rfl, hc9, hb⟩
    have HC := Lib.hid hc9
    replace HB := Lib.hid (bj HB.out hb)
    replace HL := Lib.hid (cgs_step HL.out hb)
    replace HMM := Lib.hid (cgs_step HMM.out hb)
    replace HBL := Lib.hid (bl_step HBL.out hb)
    clear hb hc9
    have HS0 := Lib.hid (smR_all (l := l) (m := l) rfl HF.out)
    have HN0 := Lib.hid (show n ≤ 100000 from by have := H100.out; omega)
    go_wp2_with fail
    refine (is1_any _ _ _ _ _ _ _ _ _ _ HC.out HL.out HBL.out HN.out HN.out HN0.out rfl HS0.out).mono ?_
    rintro e w14 ⟨rfl, hb⟩
    replace HB := Lib.hid (bj HB.out hb)
    replace HL := Lib.hid (cgs_step HL.out hb)
    replace HMM := Lib.hid (cgs_step HMM.out hb)
    replace HBL := Lib.hid (bl_step HBL.out hb)
    replace HC := Lib.hid (cgs_step HC.out hb)
    clear hb HS0 HN0
    clear HC HBL
    go_wp2_with fail
    refine (is_any none 0 0 _).mono ?_
    rintro e w15 ⟨rfl, hbl, hb⟩
    have HBL := Lib.hid hbl
    replace HB := Lib.hid (bj HB.out hb)
    replace HL := Lib.hid (cgs_step HL.out hb)
    replace HMM := Lib.hid (cgs_step HMM.out hb)
    clear hb hbl
    have HMG := Lib.hid (concat_yes HL.out HMM.out (n' := n) (c := c) (c' := cm) (m := []) HN.out (by rw [swap_lenL]; exact HN.out) (by have := H100.out; omega) HF.out (swap_fit HF.out) HOK.out (okC_swap HOK.out) (merge_undo HOK.out) okC_nil (by rw [keep_undo]))
    go_wp2_with fail
    refine (HMG.out).mono ?_
    rintro e w16 ⟨A9, c9, l9, rfl, hc9, hb, hv9, hf9⟩
    have HC := Lib.hid hc9
    have HV := Lib.hid hv9
    replace HB := Lib.hid (bj HB.out hb)
    replace HL := Lib.hid (cgs_step HL.out hb)
    replace HMM := Lib.hid (cgs_step HMM.out hb)
    replace HBL := Lib.hid (bl_step HBL.out hb)
    clear hb hc9 hv9 hf9 HMG
    have HS0 := Lib.hid (smR_all HV.out nil_fit)
    have HN0 := Lib.hid (len_le HV.out (by simp))
    go_wp2_with fail
    refine (is1_any _ _ _ _ _ _ _ _ _ _ HC.out (nil_cgs _ none) HBL.out rfl rfl HN0.out HV.out HS0.out).mono ?_
    rintro e w17 ⟨rfl, hb⟩
    replace HB := Lib.hid (bj HB.out hb)
    replace HL := Lib.hid (cgs_step HL.out hb)
    replace HMM := Lib.hid (cgs_step HMM.out hb)
    replace HBL := Lib.hid (bl_step HBL.out hb)
    replace HC := Lib.hid (cgs_step HC.out hb)
    clear hb HS0 HN0
    clear HC HBL
    clear HV
    go_wp2_with fail
    refine (is_any none 0 0 _).mono ?_
    rintro e w18 ⟨rfl, hbl, hb⟩
    have HBL := Lib.hid hbl
    replace HB := Lib.hid (bj HB.out hb)
    replace HL := Lib.hid (cgs_step HL.out hb)
    replace HMM := Lib.hid (cgs_step HMM.out hb)
    clear hb hbl
    have hmu := merge_undo (okC_swap HOK.out)
    rw [swap_swap] at hmu
    have HMG := Lib.hid (concat_yes HMM.out HL.out (n := n) (c := cm) (c' := c) (m := []) (by rw [swap_lenL]; exact HN.out) HN.out (by have := H100.out; omega) (swap_fit HF.out) HF.out (okC_swap HOK.out) HOK.out hmu okC_nil (by rw [keep_undo]))
    clear hmu
    go_wp2_with fail
    refine (HMG.out).mono ?_
    rintro e w19 ⟨A9, c9, l9, rfl, hc9, hb, hv9, hf9⟩
    have HC := Lib.hid hc9
    have HV := Lib.hid hv9
    replace HB := Lib.hid (bj HB.out hb)
    replace HL := Lib.hid (cgs_step HL.out hb)
    replace HMM := Lib.hid (cgs_step HMM.out hb)
    replace HBL := Lib.hid (bl_step HBL.out hb)
    clear hb hc9 hv9 hf9 HMG
    have HS0 := Lib.hid (smR_all HV.out nil_fit)
    have HN0 := Lib.hid (len_le HV.out (by simp))
    go_wp2_with fail
    refine (is1_any _ _ _ _ _ _ _ _ _ _ HC.out (nil_cgs _ none) HBL.out rfl rfl HN0.out HV.out HS0.out).mono ?_
    rintro e w20 ⟨rfl, hb⟩
    replace HB := Lib.hid (bj HB.out hb)
    replace HL := Lib.hid (cgs_step HL.out hb)
    replace HMM := Lib.hid (cgs_step HMM.out hb)
    replace HBL := Lib.hid (bl_step HBL.out hb)
    replace HC := Lib.hid (cgs_step HC.out hb)
    clear hb HS0 HN0
    clear HC HBL
    clear HV
    clear HL HMM HOK
    generalize w20 = Wz at *
  all_goals
    go_wp2_with fail
    refine (HTS.out _).mono ?_
    rintro e w41 ⟨Ax, cx, er, lx, rfl, hcx, hb, hg⟩
    replace HB := Lib.hid (bj HB.out hb)
    have HCX := Lib.hid hcx
    clear hb hcx HTS
    rcases hg.1 with ⟨rfl, rfl⟩ | ⟨rfl, hok, hfx, hL⟩
    · clear hg
      go_wp2_with fail
      go_ret
      exact ⟨rfl, HB.out⟩
    · have hbs := bstr_put hL
      have HPY := Lib.hid (put_yes (c := cx) HCX.out rfl hok hfx)
      rw [hbs] at HPY
      clear hg hok hfx hL hbs
      go_wp2_with fail
      refine (HPY.out).mono ?_
      rintro e w42 ⟨rfl, hb⟩
      replace HB := Lib.hid (bj HB.out hb)
      clear hb
      go_wp2_with fail
      go_ret
      exact ⟨rfl, HB.out⟩
end Go.Proofs.Ytocbdehcjcggeaa
