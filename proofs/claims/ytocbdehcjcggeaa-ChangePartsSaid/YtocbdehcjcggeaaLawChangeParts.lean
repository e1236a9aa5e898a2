/- Layer 22: the law ChangeParts, walked. Conditions: how the changes lie in memory, how long their texts are. -/
import Derived.Test.YtocbdehcjcggeaaCg34
import Derived.Laws.EntriesVeiled
namespace Go.Proofs.Ytocbdehcjcggeaa
open Go.RowKit Go
set_option linter.unusedVariables false
set_option linter.unusedSimpArgs false
theorem smR_all {l m : List Cg} (hv : l.map vC = m.map vC) (hf : ∀ X ∈ m, FitC X) : ∀ Z ∈ l, SmR Z := fun z hz => by
  obtain ⟨y, hy, hyz⟩ := List.mem_map.1 (hv ▸ List.mem_map_of_mem hz)
  exact smR_of (fit_vC hyz (hf y hy))
theorem len_le {l m : List Cg} (hv : l.map vC = m.map vC) (h : m.length ≤ 100000) : l.length ≤ 100000 := by rw [len_vC hv]; exact h
theorem two_fit {X Y : Cg} (hx : FitC X) (hy : FitC Y) : ∀ Z ∈ [X, Y], FitC Z := fun z hz => by
  simp only [List.mem_cons, List.not_mem_nil, or_false] at hz
  rcases hz with rfl | rfl
  · exact hx
  · exact hy
theorem two_key {X Y : Cg} (hx : KeyOk X) (hy : KeyOk Y) : ∀ Z ∈ [X, Y], KeyOk Z := fun z hz => by
  simp only [List.mem_cons, List.not_mem_nil, or_false] at hz
  rcases hz with rfl | rfl
  · exact hx
  · exact hy
theorem one_fit {X : Cg} (hx : FitC X) : ∀ Z ∈ [X], FitC Z := fun z hz => by rw [List.mem_singleton.1 hz]; exact hx
theorem nil_fit : ∀ Z ∈ ([] : List Cg), FitC Z := fun z hz => by cases hz
theorem nil_cgs (W : World) (A : Option Addr) : Cgs W W.heap.size A [] := .inl rfl
theorem erw_step {W W' : World} {q : Nat} {z : Int} (h : Blk W q 22 #[.int .i64 z]) (hb : Below W.heap.size W W') : Blk W' q 22 #[.int .i64 z] := h.below hb h.lt
theorem putC_le {acc acc' : List Cg} {c : Cg} (h : putC acc c = some acc') : acc'.length ≤ acc.length + 1 := by
  unfold putC at h
  split at h
  · cases h; simp
  · split at h
    · split at h
      · cases h; simp
      · cases h
    · cases h
theorem mergeA_le : ∀ {l acc acc' : List Cg}, mergeA acc l = some acc' → acc'.length ≤ acc.length + l.length
  | [], acc, acc', h => by cases h; simp
  | c :: l, acc, acc', h => by
    unfold mergeA at h
    split at h
    · cases h
    · rename_i a ha
      have h1 := putC_le ha
      have h2 := mergeA_le h
      rw [List.length_cons]
      omega
theorem res_le {a b r : List Cg} (h : Res a b r) : r.length ≤ a.length + b.length := by
  obtain ⟨_, acc, hm, hp⟩ := h
  have h1 := mergeA_le hm
  have h2 := hp.length_eq
  rw [List.length_map, List.length_map] at h2
  have h3 : (keepL acc).length ≤ acc.length := List.length_filter_le _ _
  rw [List.length_append] at h1
  simp only [List.length_nil] at h1
  omega
theorem res_sum {a b r : List Cg} {n m k : Nat} (h : Res a b r) (hn : n = a.length) (hm : m = b.length) (hk : n + m + k ≤ 100) : r.length + k ≤ 1000 := by
  have := res_le h
  omega
theorem res_sum2 {a b r : List Cg} {n m k : Nat} (h : Res a b r) (hn : n = a.length) (hm : m = b.length) (hk : k + n + m ≤ 100) : k + r.length ≤ 1000 := by
  have := res_le h
  omega
theorem res_cap {a b r : List Cg} {n m k : Nat} (h : Res a b r) (hn : n = a.length) (hm : m = b.length) (hk : n + m + k ≤ 100) : r.length ≤ 100000 := by
  have := res_le h
  omega
theorem cgs_mem {w : World} {A : Option Addr} {l : List Cg} (h : Cgs w w.heap.size A l) : ∀ x ∈ l, CgIn w w.heap.size x := fun x hx => by
  obtain ⟨i, hi⟩ := List.getElem?_of_mem hx
  obtain ⟨_, _, _, _, hcc⟩ := cgs_get h (fun e => by rw [e] at hx; cases hx)
  exact (hcc w (Below.refl _ _) i x hi).2
theorem cgs_both {w : World} {base n cap : Nat} {A C D : Option Addr} {a b : List Cg} (h : w.ownsRow base 33 4 (.slice A n cap) n (cgCs a ++ cgCs b)) (hn : n = a.length + b.length) (ha : Cgs w w.heap.size C a) (hb : Cgs w w.heap.size D b) : Cgs w w.heap.size A (a ++ b) :=
  cgs_of_own (w := w) (base := base) (n := n) (cap := cap) (by simpa [cgCs] using h) (by rw [List.length_append]; exact hn) fun x hx => by
    rcases List.mem_append.1 hx with hx | hx
    · exact cgs_mem ha x hx
    · exact cgs_mem hb x hx
theorem wpList_want {ops : Array Oper} {rest : List Oper} {o : Oper} {a : Act} {w : World} {Q : Exit → Act → World → Prop} (hw : Region.wanted o (yielded ops a.tmps) = true)
    (h : ∀ K : Act → World → Prop, (∀ a w, wpList Try.prog ops Q rest a w → K a w) → o.wp Try.prog a w K Q) : wpList Try.prog ops Q (o :: rest) a w :=
  wpList_step fun K hK => by rw [if_pos hw]; exact h K hK
set_option maxRecDepth 100000 in
set_option maxHeartbeats 16000000 in
theorem changeParts_walk (A0 : Option Addr) (l0 : List Cg) (n0 c0 : Nat) (A1 : Option Addr) (l1 : List Cg) (n1 c1 : Nat) (A2 : Option Addr) (l2 : List Cg) (n2 c2 : Nat) (hn0 : n0 = l0.length) (hm0 : n0 ≤ maxLen) (hf0 : ∀ X ∈ l0, FitC X) (hn1 : n1 = l1.length) (hm1 : n1 ≤ maxLen) (hf1 : ∀ X ∈ l1, FitC X) (hn2 : n2 = l2.length) (hm2 : n2 ≤ maxLen) (hf2 : ∀ X ∈ l2, FitC X) (w : World) (hO0 : Cgs w w.heap.size A0 l0) (hO1 : Cgs w w.heap.size A1 l1) (hO2 : Cgs w w.heap.size A2 l2) :
    Calls Try.prog 7 #[.slice A0 n0 c0, .slice A1 n1 c1, .slice A2 n2 c2] w fun e w' => e = .returned (.bool true) ∧ Below w.heap.size w w' := by
  have HB := Lib.hid (Below.refl w.heap.size w)
  have HL0 := Lib.hid hO0
  have HN0 := Lib.hid hn0
  have HF0 := Lib.hid hf0
  have HM0 := Lib.hid hm0
  have hmI0 : (n0 : Int) ≤ 9223372036854775807 := by unfold maxLen at hm0; omega
  have HL1 := Lib.hid hO1
  have HN1 := Lib.hid hn1
  have HF1 := Lib.hid hf1
  have HM1 := Lib.hid hm1
  have hmI1 : (n1 : Int) ≤ 9223372036854775807 := by unfold maxLen at hm1; omega
  have HL2 := Lib.hid hO2
  have HN2 := Lib.hid hn2
  have HF2 := Lib.hid hf2
  have HM2 := Lib.hid hm2
  have hmI2 : (n2 : Int) ≤ 9223372036854775807 := by unfold maxLen at hm2; omega
  clear hO0 hn0 hf0 hm0 hO1 hn1 hf1 hm1 hO2 hn2 hf2 hm2
  go_enter Try.func7, Try.ntmps7
  go_wp2_with fail
  refine (works22 _).mono ?_
  rintro e w1 ⟨rfl, hb⟩
  replace HB := Lib.hid (bj HB.out hb)
  replace HL0 := Lib.hid (cgs_step HL0.out hb)
  replace HL1 := Lib.hid (cgs_step HL1.out hb)
  replace HL2 := Lib.hid (cgs_step HL2.out hb)
  clear hb
  go_wp2_with fail
  refine (great_any A0 l0 n0 c0 _ HL0.out HN0.out HM0.out HF0.out).mono ?_
  rintro e w2 ⟨⟨r, rfl, hr⟩, hb⟩
  replace HB := Lib.hid (bj HB.out hb)
  replace HL0 := Lib.hid (cgs_step HL0.out hb)
  replace HL1 := Lib.hid (cgs_step HL1.out hb)
  replace HL2 := Lib.hid (cgs_step HL2.out hb)
  clear hb
  rcases r with _ | _
  rotate_left
  · clear hr
    go_wp2_with fail
    go_ret
    exact ⟨rfl, HB.out⟩
  have HS0 := Lib.hid (hr rfl).1
  clear hr
  go_wp2_with fail
  refine (great_any A1 l1 n1 c1 _ HL1.out HN1.out HM1.out HF1.out).mono ?_
  rintro e w3 ⟨⟨r, rfl, hr⟩, hb⟩
  replace HB := Lib.hid (bj HB.out hb)
  replace HL0 := Lib.hid (cgs_step HL0.out hb)
  replace HL1 := Lib.hid (cgs_step HL1.out hb)
  replace HL2 := Lib.hid (cgs_step HL2.out hb)
  clear hb
  rcases r with _ | _
  rotate_left
  · clear hr
    go_wp2_with fail
    go_ret
    exact ⟨rfl, HB.out⟩
  have HS1 := Lib.hid (hr rfl).1
  clear hr
  go_wp2_with fail
  refine (great_any A2 l2 n2 c2 _ HL2.out HN2.out HM2.out HF2.out).mono ?_
  rintro e w4 ⟨⟨r, rfl, hr⟩, hb⟩
  replace HB := Lib.hid (bj HB.out hb)
  replace HL0 := Lib.hid (cgs_step HL0.out hb)
  replace HL1 := Lib.hid (cgs_step HL1.out hb)
  replace HL2 := Lib.hid (cgs_step HL2.out hb)
  clear hb
  rcases r with _ | _
  rotate_left
  · clear hr
    go_wp2_with fail
    go_ret
    exact ⟨rfl, HB.out⟩
  have HS2 := Lib.hid (hr rfl).1
  clear hr
  have hb0 : (n0 : Int) ≤ 1200 := by have := HS0.out; have := HN0.out; omega
  have hb1 : (n1 : Int) ≤ 1200 := by have := HS1.out; have := HN1.out; omega
  have hb2 : (n2 : Int) ≤ 1200 := by have := HS2.out; have := HN2.out; omega
  clear hmI0 hmI1 hmI2 HS0 HS1 HS2
  by_cases h100 : 100 < n0 + n1 + n2
  · have h100I : (100 : Int) < (n0 : Int) + n1 + n2 := by omega
    go_wp2_with fail
    go_ret
    exact ⟨rfl, HB.out⟩
  have h100I : ¬ ((100 : Int) < (n0 : Int) + n1 + n2) := by omega
  have H100 := Lib.hid (show n0 + n1 + n2 ≤ 100 from by omega)
  clear h100 HM0 HM1 HM2
  go_wp2_with fail
  refine (concat_res HL0.out HL1.out HN0.out HN1.out (by have := H100.out; omega) HF0.out HF1.out).mono ?_
  rintro e w5 ⟨hb, he⟩
  replace HB := Lib.hid (bj HB.out hb)
  replace HL0 := Lib.hid (cgs_step HL0.out hb)
  replace HL1 := Lib.hid (cgs_step HL1.out hb)
  replace HL2 := Lib.hid (cgs_step HL2.out hb)
  clear hb
  rcases he with ⟨z, hz, rfl⟩ | ⟨A3, c3, l3, rfl, hc3, oa, ob, hres, hf3⟩
  · have hzI : (z == 0) = false := by simp [hz]
    have hzN : (z != 0) = true := by simp [hz]
    go_wp2_with fail
    refine (concat_res HL1.out HL2.out HN1.out HN2.out (by have := H100.out; omega) HF1.out HF2.out).mono ?_
    rintro e w6 ⟨hb, ⟨z2, -, rfl⟩ | ⟨A9, c9, l9, rfl, -⟩⟩
    all_goals
      replace HB := Lib.hid (bj HB.out hb)
      clear hb
      go_wp2_with fail
      go_ret
      exact ⟨rfl, HB.out⟩
  have HC3 := Lib.hid hc3
  have HOA := Lib.hid oa
  have HOB := Lib.hid ob
  have HR3 := Lib.hid hres
  have HF3 := Lib.hid hf3
  clear hc3 oa ob hres hf3
  go_wp2_with fail
  refine (is_any A3 l3.length c3 _).mono ?_
  rintro e w6 ⟨rfl, hbl, hb⟩
  have HBL := Lib.hid hbl
  replace HB := Lib.hid (bj HB.out hb)
  replace HL0 := Lib.hid (cgs_step HL0.out hb)
  replace HL1 := Lib.hid (cgs_step HL1.out hb)
  replace HL2 := Lib.hid (cgs_step HL2.out hb)
  replace HC3 := Lib.hid (cgs_step HC3.out hb)
  clear hb hbl
  obtain ⟨iv, hv1, hv2, hv3, hv4⟩ := info_parts cg_info
  have HMK := Lib.hid (World.ownsRow_made (base := w6.heap.size) (e := 33) (size := 4) w6 #[] 0 (Nat.le_refl _) (Nat.zero_le _) (by simp))
  have HRA := Lib.hid ((reads_cgs HL0.out HN0.out).alloc (Nat.le_refl _) (.cells #[] 33))
  go_wp2_with (at_builtin; first | (refine wpList_want (by rfl) (fun K hK => ?_); refine wp_append_any _ (.tmp 49) (.tmp 50) 28 rfl w6.heap.size 33 iv _ 4 88 Try.underlying28 hv1 hv2 hv3 hv4 (by kernel_rfl) (by omega) (.slice (some ⟨w6.heap.size, 0, none⟩) 0 0) 0 [] rfl HMK.out w6.heap.size A0 n0 c0 (cgCs l0) rfl HRA.out (cgCs_one l0) (by have := H100.out; simp only [maxLen]; omega) (by have := H100.out; omega) (by simp) ?_; intro v1 wa hown1 hg1 hat1; refine hK _ _ ?_; clear hK; rw [Nat.zero_add, List.nil_append] at hown1; obtain ⟨Aa, ca, rfl⟩ := own_form hown1; (have HO1 := Lib.hid hown1); (have HG1 := Lib.hid hg1); clear hown1 hg1 hat1; (have HBA := Lib.hid ((one_allocC (w := w6)).trans (((Below.refl w6.heap.size (w6.alloc (.cells #[] 33))).grown HG1.out (by simp) (fun k hk => (HMK.out.lt k hk).1))))); clear HG1 HRA; (have HRB := Lib.hid (reads_cgs (cgs_below HL1.out HBA.out) HN1.out))) | (refine wpList_want (by rfl) (fun K hK => ?_); refine wp_append_any _ (.tmp 51) (.tmp 52) 28 rfl w6.heap.size 33 iv _ 4 88 Try.underlying28 hv1 hv2 hv3 hv4 (by kernel_rfl) (by omega) _ _ _ rfl HO1.out w6.heap.size A1 n1 c1 (cgCs l1) rfl HRB.out (cgCs_one l1) (by have := H100.out; simp only [maxLen]; omega) (by have := H100.out; omega) HBA.out.size ?_; intro v2 wb hown2 hg2 hat2; refine hK _ _ ?_; clear hK; obtain ⟨Ab, cb, rfl⟩ := own_form hown2; (have HO2 := Lib.hid hown2); (have HG2 := Lib.hid hg2); clear hown2 hg2 hat2))
  have hb := HBA.out.grown HG2.out HBA.out.size (fun k hk => (HO1.out.lt k hk).1)
  replace HB := Lib.hid (bj HB.out hb)
  replace HL0 := Lib.hid (cgs_step HL0.out hb)
  replace HL1 := Lib.hid (cgs_step HL1.out hb)
  replace HL2 := Lib.hid (cgs_step HL2.out hb)
  replace HC3 := Lib.hid (cgs_step HC3.out hb)
  replace HBL := Lib.hid (bl_step HBL.out hb)
  have HAB := Lib.hid (cgs_both HO2.out (by have := HN0.out; have := HN1.out; omega) HL0.out HL1.out)
  clear hb HG2 HO2 HO1 HBA HRB HMK hv1 hv2 hv3 hv4
  go_wp2_with fail
  refine (merge_res (r := l3) HAB.out (by have := HN0.out; have := HN1.out; rw [List.length_append]; omega) (by have := H100.out; omega) HF0.out HF1.out HOA.out HOB.out HR3.out).mono ?_
  rintro e w7 ⟨A4, c4, l4, rfl, hc4, hb, hv4, hf4⟩
  have HC4 := Lib.hid hc4
  have HV4 := Lib.hid hv4
  replace HB := Lib.hid (bj HB.out hb)
  replace HL0 := Lib.hid (cgs_step HL0.out hb)
  replace HL1 := Lib.hid (cgs_step HL1.out hb)
  replace HL2 := Lib.hid (cgs_step HL2.out hb)
  replace HC3 := Lib.hid (cgs_step HC3.out hb)
  replace HBL := Lib.hid (bl_step HBL.out hb)
  replace HAB := Lib.hid (cgs_step HAB.out hb)
  clear hb hc4 hv4 hf4
  have HS0 := Lib.hid (smR_all HV4.out HF3.out)
  have HN9 := Lib.hid (len_le HV4.out (res_cap HR3.out HN0.out HN1.out H100.out))
  go_wp2_with fail
  refine (is1_any _ _ _ _ _ _ _ _ _ _ HC4.out HC3.out HBL.out rfl rfl HN9.out HV4.out HS0.out).mono ?_
  rintro e w8 ⟨rfl, hb⟩
  replace HB := Lib.hid (bj HB.out hb)
  replace HL0 := Lib.hid (cgs_step HL0.out hb)
  replace HL1 := Lib.hid (cgs_step HL1.out hb)
  replace HL2 := Lib.hid (cgs_step HL2.out hb)
  replace HC3 := Lib.hid (cgs_step HC3.out hb)
  replace HBL := Lib.hid (bl_step HBL.out hb)
  replace HAB := Lib.hid (cgs_step HAB.out hb)
  replace HC4 := Lib.hid (cgs_step HC4.out hb)
  clear hb HS0 HN9
  clear HC4 HBL HAB
  clear HV4
  go_wp2_with fail
  refine (concat_res HL1.out HL2.out HN1.out HN2.out (by have := H100.out; omega) HF1.out HF2.out).mono ?_
  rintro e w9 ⟨hb, he⟩
  replace HB := Lib.hid (bj HB.out hb)
  replace HL0 := Lib.hid (cgs_step HL0.out hb)
  replace HL1 := Lib.hid (cgs_step HL1.out hb)
  replace HL2 := Lib.hid (cgs_step HL2.out hb)
  replace HC3 := Lib.hid (cgs_step HC3.out hb)
  clear hb
  rcases he with ⟨z, hz, rfl⟩ | ⟨A5, c5, l5, rfl, hc5, -, oc, hres, hf5⟩
  · have hzI : (z == 0) = false := by simp [hz]
    have hzN : (z != 0) = true := by simp [hz]
    go_wp2_with fail
    go_ret
    exact ⟨rfl, HB.out⟩
  have HC5 := Lib.hid hc5
  have HOC := Lib.hid oc
  have HR5 := Lib.hid hres
  have HF5 := Lib.hid hf5
  clear hc5 oc hres hf5
  go_wp2_with fail
  refine (concat_res HC3.out HL2.out rfl HN2.out (res_sum HR3.out HN0.out HN1.out H100.out) HF3.out HF2.out).mono ?_
  rintro e w10 ⟨hb, he⟩
  replace HB := Lib.hid (bj HB.out hb)
  replace HL0 := Lib.hid (cgs_step HL0.out hb)
  replace HL1 := Lib.hid (cgs_step HL1.out hb)
  replace HL2 := Lib.hid (cgs_step HL2.out hb)
  replace HC3 := Lib.hid (cgs_step HC3.out hb)
  replace HC5 := Lib.hid (cgs_step HC5.out hb)
  clear hb
  rcases he with ⟨z, hz, rfl⟩ | ⟨A6, c6, l6, rfl, hc6, -, -, hres, hf6⟩
  · have hzI : (z == 0) = false := by simp [hz]
    have hzN : (z != 0) = true := by simp [hz]
    go_wp2_with fail
    refine (concat_res HL0.out HC5.out HN0.out rfl (res_sum2 HR5.out HN1.out HN2.out H100.out) HF0.out HF5.out).mono ?_
    rintro e w11 ⟨hb, ⟨z2, -, rfl⟩ | ⟨A9, c9, l9, rfl, -⟩⟩
    all_goals
      replace HB := Lib.hid (bj HB.out hb)
      clear hb
      go_wp2_with fail
      go_ret
      exact ⟨rfl, HB.out⟩
  have HC6 := Lib.hid hc6
  have HR6 := Lib.hid hres
  have HF6 := Lib.hid hf6
  clear hc6 hres hf6
  go_wp2_with fail
  refine (concat_res HL0.out HC5.out HN0.out rfl (res_sum2 HR5.out HN1.out HN2.out H100.out) HF0.out HF5.out).mono ?_
  rintro e w11 ⟨hb, he⟩
  replace HB := Lib.hid (bj HB.out hb)
  replace HL0 := Lib.hid (cgs_step HL0.out hb)
  replace HL1 := Lib.hid (cgs_step HL1.out hb)
  replace HL2 := Lib.hid (cgs_step HL2.out hb)
  replace HC3 := Lib.hid (cgs_step HC3.out hb)
  replace HC5 := Lib.hid (cgs_step HC5.out hb)
  replace HC6 := Lib.hid (cgs_step HC6.out hb)
  clear hb
  rcases he with ⟨z, hz, rfl⟩ | ⟨A7, c7, l7, rfl, hc7, -, -, hres, hf7⟩
  · have hzI : (z == 0) = false := by simp [hz]
    have hzN : (z != 0) = true := by simp [hz]
    go_wp2_with fail
    go_ret
    exact ⟨rfl, HB.out⟩
  have HC7 := Lib.hid hc7
  have HV7 := Lib.hid (parts_same HOA.out HOB.out HOC.out HR3.out HR5.out HR6.out hres)
  have HF7 := Lib.hid hf7
  have HN6 := Lib.hid (show l6.length ≤ 100000 from by
    have h1 := res_le HR6.out
    have h2 := res_le HR3.out
    have := HN0.out
    have := HN1.out
    have := HN2.out
    have := H100.out
    omega)
  have HS6 := Lib.hid (smR_all (l := l6) (m := l6) rfl HF6.out)
  have HN7 := Lib.hid (len_vC HV7.out)
  clear hc7 hres hf7
  go_wp2_with fail
  refine (csame_any A6 A7 l6 l7 _ _ _ _ _ HC6.out HC7.out rfl HN7.out.symm HN6.out HV7.out HS6.out).mono ?_
  rintro e w12 ⟨rfl, hb⟩
  replace HB := Lib.hid (bj HB.out hb)
  replace HL0 := Lib.hid (cgs_step HL0.out hb)
  replace HL1 := Lib.hid (cgs_step HL1.out hb)
  replace HL2 := Lib.hid (cgs_step HL2.out hb)
  replace HC3 := Lib.hid (cgs_step HC3.out hb)
  replace HC5 := Lib.hid (cgs_step HC5.out hb)
  replace HC6 := Lib.hid (cgs_step HC6.out hb)
  replace HC7 := Lib.hid (cgs_step HC7.out hb)
  clear hb
  go_wp2_with fail
  go_ret
  exact ⟨rfl, HB.out⟩
end Go.Proofs.Ytocbdehcjcggeaa
