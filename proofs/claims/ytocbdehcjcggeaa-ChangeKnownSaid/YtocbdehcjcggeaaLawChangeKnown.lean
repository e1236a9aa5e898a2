/- Layer 22: the law ChangeKnown, walked. Conditions: none. -/
import Derived.Test.YtocbdehcjcggeaaMgE
namespace Go.Proofs.Ytocbdehcjcggeaa
open Go.RowKit Go
set_option linter.unusedVariables false
set_option linter.unusedSimpArgs false
theorem smR_all {l m : List Cg} (hv : l.map vC = m.map vC) (hf : ∀ X ∈ m, FitC X) : ∀ Z ∈ l, SmR Z := fun z hz => by
  obtain ⟨y, hy, hyz⟩ := List.mem_map.1 (hv ▸ List.mem_map_of_mem hz)
  exact smR_of (fit_vC hyz (hf y hy))
theorem len_le {l m : List Cg} (hv : l.map vC = m.map vC) (h : m.length ≤ 100000) : l.length ≤ 100000 := by rw [len_vC hv]; exact h
theorem two_fit {X Y : Cg} (hx : FitC X) (hy : FitC Y) : ∀ Z ∈ [X, Y], FitC Z := fun z hz => by
  simp only [List.mem_cons, List.not_mem_nil, or_false] at hz
  rcases hz with rfl | rfl
  · exact hx
  · exact hy
theorem two_key {X Y : Cg} (hx : KeyOk X) (hy : KeyOk Y) : ∀ Z ∈ [X, Y], KeyOk Z := fun z hz => by
  simp only [List.mem_cons, List.not_mem_nil, or_false] at hz
  rcases hz with rfl | rfl
  · exact hx
  · exact hy
theorem one_fit {X : Cg} (hx : FitC X) : ∀ Z ∈ [X], FitC Z := fun z hz => by rw [List.mem_singleton.1 hz]; exact hx
theorem nil_fit : ∀ Z ∈ ([] : List Cg), FitC Z := fun z hz => by cases hz
theorem nil_cgs (W : World) (A : Option Addr) : Cgs W W.heap.size A [] := .inl rfl
theorem erw_step {W W' : World} {q : Nat} {z : Int} (h : Blk W q 22 #[.int .i64 z]) (hb : Below W.heap.size W W') : Blk W' q 22 #[.int .i64 z] := h.below hb h.lt
set_option maxRecDepth 100000 in
set_option maxHeartbeats 16000000 in
theorem changeKnown_walk (w : World) : Calls Try.prog 3 #[] w fun e w' => e = .returned (.bool true) ∧ Below w.heap.size w w' := by
  have HOF := Lib.hid (fun (a b c : Int) (W : World) => of_any a b c W)
  have HB := Lib.hid (Below.refl w.heap.size w)
  go_enter Try.func3, Try.ntmps3
  go_wp2_with fail
  refine (put_yes (A := none) (l := []) (n := 0) (c := 0) (nil_cgs _ _) rfl okC_nil nil_fit).mono ?_
  rintro e w1 ⟨rfl, hb⟩
  replace HB := Lib.hid (bj HB.out hb)
  clear hb
  rw [putG_nil]
  go_wp2_with fail
  refine (works22 _).mono ?_
  rintro e w2 ⟨rfl, hb⟩
  replace HB := Lib.hid (bj HB.out hb)
  clear hb
  go_wp2_with fail
  refine (is_any _ _ _ _).mono ?_
  rintro e w3 ⟨rfl, hbl, hb⟩
  have HBL := Lib.hid hbl
  replace HB := Lib.hid (bj HB.out hb)
  clear hb hbl
  go_wp2_with fail
  refine (HOF.out 1 0 1 _).mono ?_
  rintro e w4 ⟨P, rfl, hvP, hcP, hb⟩
  have HVP := Lib.hid hvP
  have HFP := Lib.hid (of_fit hvP (sm_of (by decide)) (sm_of (by decide)) (sm_of (by decide)))
  have HCP := Lib.hid hcP
  replace HB := Lib.hid (bj HB.out hb)
  replace HBL := Lib.hid (bl_step HBL.out hb)
  clear hb hvP hcP
  go_wp2_with fail
  refine (HOF.out 1 1 0 _).mono ?_
  rintro e w5 ⟨Q, rfl, hvQ, hcQ, hb⟩
  have HVQ := Lib.hid hvQ
  have HFQ := Lib.hid (of_fit hvQ (sm_of (by decide)) (sm_of (by decide)) (sm_of (by decide)))
  have HCQ := Lib.hid hcQ
  replace HB := Lib.hid (bj HB.out hb)
  replace HBL := Lib.hid (bl_step HBL.out hb)
  replace HCP := Lib.hid (cgi_step HCP.out hb)
  clear hb hvQ hcQ
  have hb := one_allocC (w := w5) (o := .cells #[.string P.t, .slice P.kA P.k.length P.kc, .slice P.oA P.o.length P.oc, .slice P.nA P.n.length P.nc, .string Q.t, .slice Q.kA Q.k.length Q.kc, .slice Q.oA Q.o.length Q.oc, .slice Q.nA Q.n.length Q.nc] 33)
  replace HB := Lib.hid (bj HB.out hb)
  replace HBL := Lib.hid (bl_step HBL.out hb)
  replace HCP := Lib.hid (cgi_step HCP.out hb)
  replace HCQ := Lib.hid (cgi_step HCQ.out hb)
  have HL := Lib.hid (cgs_blk (l := [P, Q]) (Blk.new w5 33 #[.string P.t, .slice P.kA P.k.length P.kc, .slice P.oA P.o.length P.oc, .slice P.nA P.n.length P.nc, .string Q.t, .slice Q.kA Q.k.length Q.kc, .slice Q.oA Q.o.length Q.oc, .slice Q.nA Q.n.length Q.nc]) rfl (by
    intro z hz
    simp only [List.mem_cons, List.not_mem_nil, or_false] at hz
    rcases hz with rfl | rfl
    · exact HCP.out
    · exact HCQ.out))
  clear hb
  obtain ⟨acc, hacc, hkp⟩ := mg_gone HVP.out HVQ.out
  have HMG := Lib.hid (merge_yes HL.out (n := 2) (c := 2) (m := []) rfl (by omega) (two_fit HFP.out HFQ.out) (two_key (of_keyOk HVP.out (sm_of (by decide)) (sm_of (by decide)) (sm_of (by decide)) (by decide)) (of_keyOk HVQ.out (sm_of (by decide)) (sm_of (by decide)) (sm_of (by decide)) (by decide))) hacc okC_nil (by rw [hkp]))
  clear hacc hkp
  go_wp2_with fail
  refine (HMG.out).mono ?_
  rintro e w6 ⟨A9, c9, l9, rfl, hc9, hb, hv9, hf9⟩
  have HC := Lib.hid hc9
  have HV := Lib.hid hv9
  replace HB := Lib.hid (bj HB.out hb)
  replace HBL := Lib.hid (bl_step HBL.out hb)
  replace HCP := Lib.hid (cgi_step HCP.out hb)
  replace HCQ := Lib.hid (cgi_step HCQ.out hb)
  replace HL := Lib.hid (cgs_step HL.out hb)
  clear hb hc9 hv9 hf9 HMG
  have HS0 := Lib.hid (smR_all HV.out nil_fit)
  have HN0 := Lib.hid (len_le HV.out (by simp))
  go_wp2_with fail
  refine (is1_any _ _ _ _ _ _ _ _ _ _ HC.out (nil_cgs _ none) HBL.out rfl rfl HN0.out HV.out HS0.out).mono ?_
  rintro e w7 ⟨rfl, hb⟩
  replace HB := Lib.hid (bj HB.out hb)
  replace HBL := Lib.hid (bl_step HBL.out hb)
  replace HCP := Lib.hid (cgi_step HCP.out hb)
  replace HCQ := Lib.hid (cgi_step HCQ.out hb)
  replace HL := Lib.hid (cgs_step HL.out hb)
  replace HC := Lib.hid (cgs_step HC.out hb)
  clear hb HS0 HN0
  clear HC HBL HL HCP HCQ
  clear HV HVP HVQ HFP HFQ
  go_wp2_with fail
  refine (not_any _ _).mono ?_
  rintro e w8 ⟨rfl, hbl, hb⟩
  have HER := Lib.hid hbl
  replace HB := Lib.hid (bj HB.out hb)
  clear hb hbl
  go_wp2_with fail
  refine (HOF.out 1 0 1 _).mono ?_
  rintro e w9 ⟨P, rfl, hvP, hcP, hb⟩
  have HVP := Lib.hid hvP
  have HFP := Lib.hid (of_fit hvP (sm_of (by decide)) (sm_of (by decide)) (sm_of (by decide)))
  have HCP := Lib.hid hcP
  replace HB := Lib.hid (bj HB.out hb)
  replace HER := Lib.hid (erw_step HER.out hb)
  clear hb hvP hcP
  go_wp2_with fail
  refine (HOF.out 1 0 1 _).mono ?_
  rintro e w10 ⟨Q, rfl, hvQ, hcQ, hb⟩
  have HVQ := Lib.hid hvQ
  have HFQ := Lib.hid (of_fit hvQ (sm_of (by decide)) (sm_of (by decide)) (sm_of (by decide)))
  have HCQ := Lib.hid hcQ
  replace HB := Lib.hid (bj HB.out hb)
  replace HER := Lib.hid (erw_step HER.out hb)
  replace HCP := Lib.hid (cgi_step HCP.out hb)
  clear hb hvQ hcQ
  have hb := one_allocC (w := w10) (o := .cells #[.string P.t, .slice P.kA P.k.length P.kc, .slice P.oA P.o.length P.oc, .slice P.nA P.n.length P.nc, .string Q.t, .slice Q.kA Q.k.length Q.kc, .slice Q.oA Q.o.length Q.oc, .slice Q.nA Q.n.length Q.nc] 33)
  replace HB := Lib.hid (bj HB.out hb)
  replace HER := Lib.hid (erw_step HER.out hb)
  replace HCP := Lib.hid (cgi_step HCP.out hb)
  replace HCQ := Lib.hid (cgi_step HCQ.out hb)
  have HL := Lib.hid (cgs_blk (l := [P, Q]) (Blk.new w10 33 #[.string P.t, .slice P.kA P.k.length P.kc, .slice P.oA P.o.length P.oc, .slice P.nA P.n.length P.nc, .string Q.t, .slice Q.kA Q.k.length Q.kc, .slice Q.oA Q.o.length Q.oc, .slice Q.nA Q.n.length Q.nc]) rfl (by
    intro z hz
    simp only [List.mem_cons, List.not_mem_nil, or_false] at hz
    rcases hz with rfl | rfl
    · exact HCP.out
    · exact HCQ.out))
  clear hb
  have HMG := Lib.hid (merge_no HL.out (n := 2) (c := 2) rfl (by omega) (two_fit HFP.out HFQ.out) (two_key (of_keyOk HVP.out (sm_of (by decide)) (sm_of (by decide)) (sm_of (by decide)) (by decide)) (of_keyOk HVQ.out (sm_of (by decide)) (sm_of (by decide)) (sm_of (by decide)) (by decide))) (mg_none HVP.out HVQ.out))
  go_wp2_with fail
  refine (HMG.out).mono ?_
  rintro e w11 ⟨rfl, hb⟩
  replace HB := Lib.hid (bj HB.out hb)
  replace HER := Lib.hid (erw_step HER.out hb)
  replace HCP := Lib.hid (cgi_step HCP.out hb)
  replace HCQ := Lib.hid (cgi_step HCQ.out hb)
  replace HL := Lib.hid (cgs_step HL.out hb)
  clear hb HMG
  go_wp2_with fail
  refine (not1_any _ _ _ _ _ HER.out).mono ?_
  rintro e w12 ⟨rfl, hb⟩
  replace HB := Lib.hid (bj HB.out hb)
  replace HER := Lib.hid (erw_step HER.out hb)
  replace HCP := Lib.hid (cgi_step HCP.out hb)
  replace HCQ := Lib.hid (cgi_step HCQ.out hb)
  replace HL := Lib.hid (cgs_step HL.out hb)
  clear hb
  clear HER HL HCP HCQ
  clear HVP HVQ HFP HFQ
  go_wp2_with fail
  refine (HOF.out 1 0 1 _).mono ?_
  rintro e w13 ⟨P, rfl, hvP, hcP, hb⟩
  have HVP := Lib.hid hvP
  have HFP := Lib.hid (of_fit hvP (sm_of (by decide)) (sm_of (by decide)) (sm_of (by decide)))
  have HCP := Lib.hid hcP
  replace HB := Lib.hid (bj HB.out hb)
  clear hb hvP hcP
  have hb := one_allocC (w := w13) (o := .cells #[.string P.t, .slice P.kA P.k.length P.kc, .slice P.oA P.o.length P.oc, .slice P.nA P.n.length P.nc] 33)
  replace HB := Lib.hid (bj HB.out hb)
  replace HCP := Lib.hid (cgi_step HCP.out hb)
  have HL := Lib.hid (cgs_blk (l := [P]) (Blk.new w13 33 #[.string P.t, .slice P.kA P.k.length P.kc, .slice P.oA P.o.length P.oc, .slice P.nA P.n.length P.nc]) rfl (by
    intro z hz
    simp only [List.mem_cons, List.not_mem_nil, or_false] at hz
    rcases hz with rfl
    · exact HCP.out))
  clear hb
  go_wp2_with fail
  refine (is_any _ _ _ _).mono ?_
  rintro e w14 ⟨rfl, hbl, hb⟩
  have hsz : (w13.alloc (.cells #[.string P.t, .slice P.kA P.k.length P.kc, .slice P.oA P.o.length P.oc, .slice P.nA P.n.length P.nc] 33)).heap.size = w13.heap.size + 1 := by simp
  rw [hsz] at hbl
  clear hsz
  have HBL := Lib.hid hbl
  replace HB := Lib.hid (bj HB.out hb)
  replace HCP := Lib.hid (cgi_step HCP.out hb)
  replace HL := Lib.hid (cgs_step HL.out hb)
  clear hb hbl
  go_wp2_with fail
  refine (HOF.out 1 1 0 _).mono ?_
  rintro e w15 ⟨Q, rfl, hvQ, hcQ, hb⟩
  have HVQ := Lib.hid hvQ
  have HFQ := Lib.hid (of_fit hvQ (sm_of (by decide)) (sm_of (by decide)) (sm_of (by decide)))
  have HCQ := Lib.hid hcQ
  replace HB := Lib.hid (bj HB.out hb)
  replace HCP := Lib.hid (cgi_step HCP.out hb)
  replace HL := Lib.hid (cgs_step HL.out hb)
  replace HBL := Lib.hid (bl_step HBL.out hb)
  clear hb hvQ hcQ
  have hb := one_allocC (w := w15) (o := .cells #[.string Q.t, .slice Q.kA Q.k.length Q.kc, .slice Q.oA Q.o.length Q.oc, .slice Q.nA Q.n.length Q.nc] 33)
  replace HB := Lib.hid (bj HB.out hb)
  replace HCP := Lib.hid (cgi_step HCP.out hb)
  replace HL := Lib.hid (cgs_step HL.out hb)
  replace HBL := Lib.hid (bl_step HBL.out hb)
  replace HCQ := Lib.hid (cgi_step HCQ.out hb)
  have HM := Lib.hid (cgs_blk (l := [Q]) (Blk.new w15 33 #[.string Q.t, .slice Q.kA Q.k.length Q.kc, .slice Q.oA Q.o.length Q.oc, .slice Q.nA Q.n.length Q.nc]) rfl (by
    intro z hz
    simp only [List.mem_cons, List.not_mem_nil, or_false] at hz
    rcases hz with rfl
    · exact HCQ.out))
  clear hb
  go_wp2_with fail
  refine (inv_yes HM.out rfl (one_fit HFQ.out) (okC_one (of_may HVQ.out may_110))).mono ?_
  rintro e w16 ⟨A9, c9, rfl, hc9, hb⟩
  have HV := Lib.hid (show ([Q].map swapC).map vC = [P].map vC from by
    simp only [List.map_cons, List.map_nil, List.cons.injEq, and_true]
    rw [show vC (swapC Q) = ((vC Q).1, (vC Q).2.1, (vC Q).2.2.2, (vC Q).2.2.1) from rfl, HVQ.out, HVP.out]
    rfl)
  have HC := Lib.hid hc9
  replace HB := Lib.hid (bj HB.out hb)
  replace HCP := Lib.hid (cgi_step HCP.out hb)
  replace HL := Lib.hid (cgs_step HL.out hb)
  replace HBL := Lib.hid (bl_step HBL.out hb)
  replace HCQ := Lib.hid (cgi_step HCQ.out hb)
  replace HM := Lib.hid (cgs_step HM.out hb)
  clear hb hc9
  have HS0 := Lib.hid (smR_all HV.out (one_fit HFP.out))
  have HN0 := Lib.hid (len_le HV.out (by simp))
  go_wp2_with fail
  refine (is1_any _ _ _ _ _ _ _ _ _ _ HC.out HL.out HBL.out rfl rfl HN0.out HV.out HS0.out).mono ?_
  rintro e w17 ⟨rfl, hb⟩
  replace HB := Lib.hid (bj HB.out hb)
  replace HCP := Lib.hid (cgi_step HCP.out hb)
  replace HL := Lib.hid (cgs_step HL.out hb)
  replace HBL := Lib.hid (bl_step HBL.out hb)
  replace HCQ := Lib.hid (cgi_step HCQ.out hb)
  replace HM := Lib.hid (cgs_step HM.out hb)
  replace HC := Lib.hid (cgs_step HC.out hb)
  clear hb HS0 HN0
  clear HC HBL HL HM HCP HCQ
  clear HV HVP HVQ HFP HFQ
  go_wp2_with fail
  refine (is_any _ _ _ _).mono ?_
  rintro e w18 ⟨rfl, hbl, hb⟩
  have HBL := Lib.hid hbl
  replace HB := Lib.hid (bj HB.out hb)
  clear hb hbl
  go_wp2_with fail
  refine (HOF.out 1 0 1 _).mono ?_
  rintro e w19 ⟨P, rfl, hvP, hcP, hb⟩
  have HVP := Lib.hid hvP
  have HFP := Lib.hid (of_fit hvP (sm_of (by decide)) (sm_of (by decide)) (sm_of (by decide)))
  have HCP := Lib.hid hcP
  replace HB := Lib.hid (bj HB.out hb)
  replace HBL := Lib.hid (bl_step HBL.out hb)
  clear hb hvP hcP
  have hb := one_allocC (w := w19) (o := .cells #[.string P.t, .slice P.kA P.k.length P.kc, .slice P.oA P.o.length P.oc, .slice P.nA P.n.length P.nc] 33)
  replace HB := Lib.hid (bj HB.out hb)
  replace HBL := Lib.hid (bl_step HBL.out hb)
  replace HCP := Lib.hid (cgi_step HCP.out hb)
  have HL := Lib.hid (cgs_blk (l := [P]) (Blk.new w19 33 #[.string P.t, .slice P.kA P.k.length P.kc, .slice P.oA P.o.length P.oc, .slice P.nA P.n.length P.nc]) rfl (by
    intro z hz
    simp only [List.mem_cons, List.not_mem_nil, or_false] at hz
    rcases hz with rfl
    · exact HCP.out))
  clear hb
  go_wp2_with fail
  refine (HOF.out 1 1 0 _).mono ?_
  rintro e w20 ⟨Q, rfl, hvQ, hcQ, hb⟩
  have HVQ := Lib.hid hvQ
  have HFQ := Lib.hid (of_fit hvQ (sm_of (by decide)) (sm_of (by decide)) (sm_of (by decide)))
  have HCQ := Lib.hid hcQ
  replace HB := Lib.hid (bj HB.out hb)
  replace HBL := Lib.hid (bl_step HBL.out hb)
  replace HCP := Lib.hid (cgi_step HCP.out hb)
  replace HL := Lib.hid (cgs_step HL.out hb)
  clear hb hvQ hcQ
  have hb := one_allocC (w := w20) (o := .cells #[.string Q.t, .slice Q.kA Q.k.length Q.kc, .slice Q.oA Q.o.length Q.oc, .slice Q.nA Q.n.length Q.nc] 33)
  replace HB := Lib.hid (bj HB.out hb)
  replace HBL := Lib.hid (bl_step HBL.out hb)
  replace HCP := Lib.hid (cgi_step HCP.out hb)
  replace HL := Lib.hid (cgs_step HL.out hb)
  replace HCQ := Lib.hid (cgi_step HCQ.out hb)
  have HM := Lib.hid (cgs_blk (l := [Q]) (Blk.new w20 33 #[.string Q.t, .slice Q.kA Q.k.length Q.kc, .slice Q.oA Q.o.length Q.oc, .slice Q.nA Q.n.length Q.nc]) rfl (by
    intro z hz
    simp only [List.mem_cons, List.not_mem_nil, or_false] at hz
    rcases hz with rfl
    · exact HCQ.out))
  clear hb
  obtain ⟨acc, hacc, hkp⟩ := mg_gone HVP.out HVQ.out
  have HMG := Lib.hid (concat_yes HL.out HM.out (n := 1) (c := 1) (n' := 1) (c' := 1) (m := []) rfl rfl (by omega) (one_fit HFP.out) (one_fit HFQ.out) (okC_one (of_may HVP.out may_101)) (okC_one (of_may HVQ.out may_110)) hacc okC_nil (by rw [hkp]))
  clear hacc hkp
  go_wp2_with fail
  refine (HMG.out).mono ?_
  rintro e w21 ⟨A9, c9, l9, rfl, hc9, hb, hv9, hf9⟩
  have HC := Lib.hid hc9
  have HV := Lib.hid hv9
  replace HB := Lib.hid (bj HB.out hb)
  replace HBL := Lib.hid (bl_step HBL.out hb)
  replace HCP := Lib.hid (cgi_step HCP.out hb)
  replace HL := Lib.hid (cgs_step HL.out hb)
  replace HCQ := Lib.hid (cgi_step HCQ.out hb)
  replace HM := Lib.hid (cgs_step HM.out hb)
  clear hb hc9 hv9 hf9 HMG
  have HS0 := Lib.hid (smR_all HV.out nil_fit)
  have HN0 := Lib.hid (len_le HV.out (by simp))
  go_wp2_with fail
  refine (is1_any _ _ _ _ _ _ _ _ _ _ HC.out (nil_cgs _ none) HBL.out rfl rfl HN0.out HV.out HS0.out).mono ?_
  rintro e w22 ⟨rfl, hb⟩
  replace HB := Lib.hid (bj HB.out hb)
  replace HBL := Lib.hid (bl_step HBL.out hb)
  replace HCP := Lib.hid (cgi_step HCP.out hb)
  replace HL := Lib.hid (cgs_step HL.out hb)
  replace HCQ := Lib.hid (cgi_step HCQ.out hb)
  replace HM := Lib.hid (cgs_step HM.out hb)
  replace HC := Lib.hid (cgs_step HC.out hb)
  clear hb HS0 HN0
  clear HC HBL HL HM HCP HCQ
  clear HV HVP HVQ HFP HFQ
  go_wp2_with fail
  refine (HOF.out 2 1 0 _).mono ?_
  rintro e w23 ⟨P, rfl, hvP, hcP, hb⟩
  have HVP := Lib.hid hvP
  have HFP := Lib.hid (of_fit hvP (sm_of (by decide)) (sm_of (by decide)) (sm_of (by decide)))
  have HCP := Lib.hid hcP
  replace HB := Lib.hid (bj HB.out hb)
  clear hb hvP hcP
  go_wp2_with fail
  refine (HOF.out 1 1 0 _).mono ?_
  rintro e w24 ⟨Q, rfl, hvQ, hcQ, hb⟩
  have HVQ := Lib.hid hvQ
  have HFQ := Lib.hid (of_fit hvQ (sm_of (by decide)) (sm_of (by decide)) (sm_of (by decide)))
  have HCQ := Lib.hid hcQ
  replace HB := Lib.hid (bj HB.out hb)
  replace HCP := Lib.hid (cgi_step HCP.out hb)
  clear hb hvQ hcQ
  have hb := one_allocC (w := w24) (o := .cells #[.string P.t, .slice P.kA P.k.length P.kc, .slice P.oA P.o.length P.oc, .slice P.nA P.n.length P.nc, .string Q.t, .slice Q.kA Q.k.length Q.kc, .slice Q.oA Q.o.length Q.oc, .slice Q.nA Q.n.length Q.nc] 33)
  replace HB := Lib.hid (bj HB.out hb)
  replace HCP := Lib.hid (cgi_step HCP.out hb)
  replace HCQ := Lib.hid (cgi_step HCQ.out hb)
  have HL := Lib.hid (cgs_blk (l := [P, Q]) (Blk.new w24 33 #[.string P.t, .slice P.kA P.k.length P.kc, .slice P.oA P.o.length P.oc, .slice P.nA P.n.length P.nc, .string Q.t, .slice Q.kA Q.k.length Q.kc, .slice Q.oA Q.o.length Q.oc, .slice Q.nA Q.n.length Q.nc]) rfl (by
    intro z hz
    simp only [List.mem_cons, List.not_mem_nil, or_false] at hz
    rcases hz with rfl | rfl
    · exact HCP.out
    · exact HCQ.out))
  clear hb
  go_wp2_with fail
  refine (check_yes HL.out rfl (no_21 HVP.out HVQ.out) (by simp) (two_fit HFP.out HFQ.out)).mono ?_
  rintro e w25 ⟨rfl, hb⟩
  replace HB := Lib.hid (bj HB.out hb)
  replace HCP := Lib.hid (cgi_step HCP.out hb)
  replace HCQ := Lib.hid (cgi_step HCQ.out hb)
  replace HL := Lib.hid (cgs_step HL.out hb)
  clear hb
  clear HL HCP HCQ
  clear HVP HVQ HFP HFQ
  go_wp2_with fail
  refine (not_any _ _).mono ?_
  rintro e w26 ⟨rfl, hbl, hb⟩
  have HER := Lib.hid hbl
  replace HB := Lib.hid (bj HB.out hb)
  clear hb hbl
  go_wp2_with fail
  refine (take_none _).mono ?_
  rintro e w27 ⟨A9, c9, rfl, hb⟩
  replace HB := Lib.hid (bj HB.out hb)
  replace HER := Lib.hid (erw_step HER.out hb)
  clear hb
  go_wp2_with fail
  refine (not1_any _ _ _ _ _ HER.out).mono ?_
  rintro e w28 ⟨rfl, hb⟩
  replace HB := Lib.hid (bj HB.out hb)
  clear hb
  go_wp2_with fail
  go_ret
  exact ⟨rfl, HB.out⟩
end Go.Proofs.Ytocbdehcjcggeaa
