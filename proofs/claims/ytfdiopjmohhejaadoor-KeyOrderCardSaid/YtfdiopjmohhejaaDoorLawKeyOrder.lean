/- The document's own order of rows; the walk of KeyOrder. Conditions: the numbers fit their kinds; bytealg.MaxLen holds a number. -/
import Derived.Test.YtfdiopjmohhejaaDoorKeyOrd3
import Derived.Test.YtfdiopjmohhejaaDoorLawKeyBegins
namespace Go.Proofs.YtfdiopjmohhejaaDoor
open Go.RowKit
set_option linter.unusedVariables false
set_option maxRecDepth 100000 in
set_option maxHeartbeats 8000000 in
theorem rows_any (A : Option Addr) (la : List Val) (n c : Nat) (C : Option Addr) (lb : List Val) (k d : Nat) (w : World) (hV : Vals w w.heap.size A la) (hV' : Vals w w.heap.size C lb) (hn : n = la.length) (hn' : k = lb.length) (h60 : n ≤ 60) (h60' : k ≤ 60) (hf : ∀ x ∈ la, Fits x) (ca : ∀ x ∈ la, chk x = 0) (hf' : ∀ x ∈ lb, Fits x) (cb : ∀ x ∈ lb, chk x = 0) :
    Calls Tryd.prog 22 #[.slice A n c, .slice C k d] w fun e w' => e = .returned (.int .i64 (rowCmp la lb)) ∧ Below w.heap.size w w' := by
  have HA : Hid (0 < n → ∃ b o, A = some ⟨b, o, none⟩ ∧ b < w.heap.size ∧ ∀ (j : Nat) x, la[j]? = some x → w.cell? ⟨b, o + j * 3, none⟩ = some (.int .u8 x.1) ∧ w.cell? ⟨b, o + j * 3 + 1, none⟩ = some (.int .i64 x.2.1) ∧ w.cell? ⟨b, o + j * 3 + 2, none⟩ = some (.string x.2.2)) :=
    Lib.hid fun h => vals_get hV (fun e => by rw [e] at hn; simp at hn; omega)
  have HB : Hid (0 < k → ∃ b o, C = some ⟨b, o, none⟩ ∧ b < w.heap.size ∧ ∀ (j : Nat) x, lb[j]? = some x → w.cell? ⟨b, o + j * 3, none⟩ = some (.int .u8 x.1) ∧ w.cell? ⟨b, o + j * 3 + 1, none⟩ = some (.int .i64 x.2.1) ∧ w.cell? ⟨b, o + j * 3 + 2, none⟩ = some (.string x.2.2)) :=
    Lib.hid fun h => vals_get hV' (fun e => by rw [e] at hn'; simp at hn'; omega)
  have HN := Lib.hid (And.intro hn hn')
  have HF := Lib.hid (And.intro hf hf')
  have HC := Lib.hid (And.intro ca cb)
  have HNU := Lib.hid numbers_any
  have hnI : (n : Int) ≤ 60 := by omega
  have hkI : (k : Int) ≤ 60 := by omega
  clear hV hV' hn hn' hf hf' ca cb
  go_enter Tryd.func22, Tryd.ntmps22
  go_wp2
  go_loopw [5] (fun i wr => ∃ j : Nat, j ≤ n ∧ j ≤ k ∧ i = .int .i64 j ∧ rowCmp la lb = rowCmp (la.drop j) (lb.drop j) ∧ Below w.heap.size w wr) (fun i _ => n - (intOf i).toNat)
  case atStart => exact ⟨0, by omega, by omega, rfl, rfl, Below.refl _ _⟩
  case round =>
    obtain ⟨j, hj, hj', rfl, heq, hb⟩ := hrel
    have hl := HN.out.1
    have hl' := HN.out.2
    by_cases h1 : j < n
    · by_cases h2 : j < k
      · obtain ⟨b1, o1, rfl, l1, q1⟩ := HA.out (by omega)
        obtain ⟨b2, o2, rfl, l2, q2⟩ := HB.out (by omega)
        have hjl : j < la.length := by omega
        have hjl' : j < lb.length := by omega
        obtain ⟨a1, a2, a3⟩ := q1 j la[j] (List.getElem?_eq_getElem hjl)
        obtain ⟨a4, a5, a6⟩ := q2 j lb[j] (List.getElem?_eq_getElem hjl')
        have c1 := (hb.cell (p := ⟨b1, o1 + j * 3, none⟩) l1).trans a1
        have c2 := (hb.cell (p := ⟨b1, o1 + j * 3 + 1, none⟩) l1).trans a2
        have c3 := (hb.cell (p := ⟨b1, o1 + j * 3 + 2, none⟩) l1).trans a3
        have c4 := (hb.cell (p := ⟨b2, o2 + j * 3, none⟩) l2).trans a4
        have c5 := (hb.cell (p := ⟨b2, o2 + j * 3 + 1, none⟩) l2).trans a5
        have c6 := (hb.cell (p := ⟨b2, o2 + j * 3 + 2, none⟩) l2).trans a6
        have hcm := fun W => compare_any la[j] lb[j] W (HF.out.1 _ (List.getElem_mem hjl)) (HC.out.1 _ (List.getElem_mem hjl)) (HF.out.2 _ (List.getElem_mem hjl')) (HC.out.2 _ (List.getElem_mem hjl'))
        rw [List.drop_eq_getElem_cons hjl, List.drop_eq_getElem_cons hjl'] at heq
        simp only [rowCmp] at heq
        generalize la[j] = x at *
        generalize lb[j] = y at *
        generalize valCmp x y = E at *
        obtain ⟨p, q, s⟩ := x
        obtain ⟨p', q', t⟩ := y
        simp only at c1 c2 c3 c4 c5 c6
        have HCM := Lib.hid hcm
        have hI1 : (j : Int) < n := by omega
        have hI2 : (j : Int) < k := by omega
        have hI0 : (0 : Int) ≤ j := by omega
        by_cases hE : E = 0
        · have HE := Lib.hid (show rowCmp la lb = rowCmp (la.drop (j + 1)) (lb.drop (j + 1)) by rw [heq, if_neg (by simpa using hE)])
          subst hE
          clear heq hcm a1 a2 a3 a4 a5 a6 q1 q2 hl hl' hjl hjl'
          go_wp2_with fail
          go_region_with ((go_at_call 37; (with_reducible refine (HCM.out _).mono ?_); rintro e w3 ⟨rfl, hb3⟩))
          all_goals
            go_wp2
            go_roundw
            case rel => exact ⟨j + 1, by omega, by omega, by go_num, HE.out, by first | exact bj hb.drew hb3 | exact bj hb hb3⟩
            case measure => simp [intOf]; omega
        · have HE := Lib.hid (show rowCmp la lb = E by rw [heq, if_pos hE])
          have hEn : (E != 0) = true := by rw [bne_iff_ne]; exact hE
          have HEE := Lib.hid hE
          clear heq hcm a1 a2 a3 a4 a5 a6 q1 q2 hl hl' hjl hjl' hE
          go_wp2_with fail
          go_region_with ((go_at_call 37; (with_reducible refine (HCM.out _).mono ?_); rintro e w3 ⟨rfl, hb3⟩))
          all_goals
            go_wp2
            go_ret
            exact ⟨rint HE.out.symm, by first | exact bj hb.drew hb3 | exact bj hb hb3⟩
      · have HE := Lib.hid (show rowCmp la lb = cmpI n k by
          rw [heq, rowCmp_len _ _ (.inr (List.drop_of_length_le (by omega))), List.length_drop, List.length_drop, ← hl, ← hl']
          unfold cmpI
          have e1 : (((n - j : Nat) : Int) < ((k - j : Nat) : Int)) ↔ ((n : Int) < k) := by omega
          have e2 : (((n - j : Nat) : Int) > ((k - j : Nat) : Int)) ↔ ((n : Int) > k) := by omega
          simp only [e1, e2])
        have hI1 : (j : Int) < n := by omega
        have hI2 : (k : Int) ≤ j := by omega
        clear heq hl hl'
        go_wp2_with fail
        refine (HNU.out _ _ _).mono ?_
        rintro e w3 ⟨rfl, rfl⟩
        go_wp2
        go_ret
        exact ⟨rint HE.out.symm, hb⟩
    · have HE := Lib.hid (show rowCmp la lb = cmpI n k by
        rw [heq, rowCmp_len _ _ (.inl (List.drop_of_length_le (by omega))), List.length_drop, List.length_drop, ← hl, ← hl']
        unfold cmpI
        have e1 : (((n - j : Nat) : Int) < ((k - j : Nat) : Int)) ↔ ((n : Int) < k) := by omega
        have e2 : (((n - j : Nat) : Int) > ((k - j : Nat) : Int)) ↔ ((n : Int) > k) := by omega
        simp only [e1, e2])
      have hI1 : (n : Int) ≤ j := by omega
      clear heq hl hl'
      go_wp2_with fail
      refine (HNU.out _ _ _).mono ?_
      rintro e w3 ⟨rfl, rfl⟩
      go_wp2
      go_ret
      exact ⟨rint HE.out.symm, hb⟩
set_option maxRecDepth 100000 in
set_option maxHeartbeats 8000000 in
theorem keyOrder_walk (A : Option Addr) (la : List Val) (n c : Nat) (C : Option Addr) (lb : List Val) (k d : Nat) (hn : n = la.length) (hm : n ≤ maxLen) (hf : ∀ x ∈ la, Fits x) (hn' : k = lb.length) (hm' : k ≤ maxLen) (hf' : ∀ x ∈ lb, Fits x) (w : World) (hV : Vals w w.heap.size A la) (hV' : Vals w w.heap.size C lb) (m : Int) (hc0 : w.cell? ⟨0, 0, none⟩ = some (.int .i64 m)) :
    Calls Tryd.prog 6 #[.slice A n c, .slice C k d] w fun e w' => e = .returned (.bool true) ∧ Below w.heap.size w w' := by
  have hlt0 := lt_of_cell hc0
  have hM : ∀ W, Below w.heap.size w W → W.cell? ⟨0, 0, none⟩ = some (.int .i64 m) := fun W hb => (hb.cell (p := ⟨0, 0, none⟩) hlt0).trans hc0
  have hga := fun W (h : Vz w A la C lb W) => great_any A la n c W h.1 hn hm
  have hgb := fun W (h : Vz w A la C lb W) => great_any C lb k d W h.2.1 hn' hm'
  have hwk := fun W (h : Vz w A la C lb W) => works_any m W (hM W h.2.2)
  have H0 : Hid (Vz w A la C lb w) := Lib.hid ⟨hV, hV', Below.refl _ _⟩
  have HWK := Lib.hid hwk
  cases hga' : greatB la
  · cases hgb' : greatB lb
    · rw [hga'] at hga
      rw [hgb'] at hgb
      have hl : n ≤ 60 := by have := great_len hga'; omega
      have hl' : k ≤ 60 := by have := great_len hgb'; omega
      have hpa := fun W (h : Vz w A la C lb W) => kput_row A la n c m W h.1 hn (by omega) hf (hM W h.2.2)
      have hpb := fun W (h : Vz w A la C lb W) => kput_row C lb k d m W h.2.1 hn' (by omega) hf' (hM W h.2.2)
      have HGA := Lib.hid hga
      have HGB := Lib.hid hgb
      clear hga hgb hwk hga' hgb' hM hlt0 hc0 hV hV' hm hm'
      have hcB := kputS_cases lb
      have hcA := kputS_cases la
      rcases hcA with ⟨ca, ea⟩ | ⟨E, hE, ea⟩
      · rcases hcB with ⟨cb, eb⟩ | ⟨F, hF, eb⟩
        · rw [ea] at hpa
          rw [eb] at hpb
          have hro := fun W (h : Vz w A la C lb W) => rows_any A la n c C lb k d W h.1 h.2.1 hn hn' hl hl' hf ca hf' cb
          have hcm := fun W => Tryd.strings_Compare (bstr (keyL la)) (bstr (keyL lb)) W
          have ecm : Lib.compareBytes (bstr (keyL la)).data.toList (bstr (keyL lb)).data.toList = rowCmp la lb := by
            rw [cmpL_bytes]
            have e1 : (bstr (keyL la)).data.toList.map UInt8.toNat = keyL la := bts_bstr _ (keyL_lt hf ca)
            have e2 : (bstr (keyL lb)).data.toList.map UInt8.toNat = keyL lb := bts_bstr _ (keyL_lt hf' cb)
            rw [e1, e2]
            exact cmp_key la lb hf ca hf' cb
          rw [ecm] at hcm
          generalize rowCmp la lb = R at *
          generalize bstr (keyL la) = X at *
          generalize bstr (keyL lb) = Y at *
          have HPA := Lib.hid hpa
          have HPB := Lib.hid hpb
          have HRO := Lib.hid hro
          have HCM := Lib.hid (fun W => (hcm W).mono (R' := fun e w' => e = .returned (.int .i64 R) ∧ W = w') fun e w' he => ⟨he.1, he.2.symm⟩)
          clear hpa hpb hro hcm ecm ca cb ea eb hf hf' hn hn' hl hl'
          go_enter Tryd.func6, Tryd.ntmps6
          go_wp2_with fail
          refine (HWK.out _ H0.out).mono ?_
          rintro e w1 ⟨rfl, hb1⟩
          have h1 := vz_step H0.out hb1
          clear hb1
          go_wp2_with fail
          refine (HGA.out _ h1).mono ?_
          rintro e w2 ⟨rfl, hb2⟩
          replace h1 := vz_step h1 hb2
          clear hb2
          go_wp2_with fail
          refine (HGB.out _ h1).mono ?_
          rintro e w3 ⟨rfl, hb3⟩
          replace h1 := vz_step h1 hb3
          clear hb3
          go_wp2_with fail
          refine (HPA.out _ h1).mono ?_
          rintro e w4 ⟨rfl, hb4⟩
          replace h1 := vz_step h1 hb4
          clear hb4
          go_wp2_with fail
          refine (HPB.out _ h1).mono ?_
          rintro e w5 ⟨rfl, hb5⟩
          replace h1 := vz_step h1 hb5
          clear hb5
          replace h1 := Lib.hid h1
          go_wp2_with fail
          refine (HCM.out _).mono ?_
          rintro e w6 ⟨rfl, rfl⟩
          go_wp2_with fail
          refine (HRO.out _ h1.out).mono ?_
          rintro e w7 ⟨rfl, hb7⟩
          have h7 := Lib.hid (bj h1.out.2.2 hb7)
          clear hb7
          go_wp2
          go_ret
          exact ⟨rfl, h7.out⟩
        · rw [ea] at hpa
          rw [eb] at hpb
          have hFe := ne_e hF
          generalize bstr (keyL la) = X at *
          have HPA := Lib.hid hpa
          have HPB := Lib.hid hpb
          clear hpa hpb ca ea eb hf hf' hn hn' hl hl' hF
          go_enter Tryd.func6, Tryd.ntmps6
          go_wp2_with fail
          refine (HWK.out _ H0.out).mono ?_
          rintro e w1 ⟨rfl, hb1⟩
          have h1 := vz_step H0.out hb1
          clear hb1
          go_wp2_with fail
          refine (HGA.out _ h1).mono ?_
          rintro e w2 ⟨rfl, hb2⟩
          replace h1 := vz_step h1 hb2
          clear hb2
          go_wp2_with fail
          refine (HGB.out _ h1).mono ?_
          rintro e w3 ⟨rfl, hb3⟩
          replace h1 := vz_step h1 hb3
          clear hb3
          go_wp2_with fail
          refine (HPA.out _ h1).mono ?_
          rintro e w4 ⟨rfl, hb4⟩
          replace h1 := vz_step h1 hb4
          clear hb4
          go_wp2_with fail
          refine (HPB.out _ h1).mono ?_
          rintro e w5 ⟨rfl, hb5⟩
          replace h1 := vz_step h1 hb5
          clear hb5
          replace h1 := Lib.hid h1
          go_wp2
          go_ret
          exact ⟨rfl, h1.out.2.2⟩
      · have hEe := ne_e hE
        rw [ea] at hpa
        generalize kputS lb = P at *
        obtain ⟨PX, PE⟩ := P
        simp only at hpb
        have HPA := Lib.hid hpa
        have HPB := Lib.hid hpb
        clear hpa hpb ea hcB hf hf' hn hn' hl hl' hE
        go_enter Tryd.func6, Tryd.ntmps6
        go_wp2_with fail
        refine (HWK.out _ H0.out).mono ?_
        rintro e w1 ⟨rfl, hb1⟩
        have h1 := vz_step H0.out hb1
        clear hb1
        go_wp2_with fail
        refine (HGA.out _ h1).mono ?_
        rintro e w2 ⟨rfl, hb2⟩
        replace h1 := vz_step h1 hb2
        clear hb2
        go_wp2_with fail
        refine (HGB.out _ h1).mono ?_
        rintro e w3 ⟨rfl, hb3⟩
        replace h1 := vz_step h1 hb3
        clear hb3
        go_wp2_with fail
        refine (HPA.out _ h1).mono ?_
        rintro e w4 ⟨rfl, hb4⟩
        replace h1 := vz_step h1 hb4
        clear hb4
        go_wp2_with fail
        refine (HPB.out _ h1).mono ?_
        rintro e w5 ⟨rfl, hb5⟩
        replace h1 := vz_step h1 hb5
        clear hb5
        replace h1 := Lib.hid h1
        go_wp2
        go_ret
        exact ⟨rfl, h1.out.2.2⟩
    · rw [hga'] at hga
      rw [hgb'] at hgb
      have HGA := Lib.hid hga
      have HGB := Lib.hid hgb
      clear hga hgb hwk hga' hgb' hM hlt0 hc0 hV hV' hm hm' hn hn' hf hf'
      go_enter Tryd.func6, Tryd.ntmps6
      go_wp2_with fail
      refine (HWK.out _ H0.out).mono ?_
      rintro e w1 ⟨rfl, hb1⟩
      have h1 := vz_step H0.out hb1
      clear hb1
      go_wp2_with fail
      refine (HGA.out _ h1).mono ?_
      rintro e w2 ⟨rfl, hb2⟩
      replace h1 := vz_step h1 hb2
      clear hb2
      go_wp2_with fail
      refine (HGB.out _ h1).mono ?_
      rintro e w3 ⟨rfl, hb3⟩
      replace h1 := vz_step h1 hb3
      clear hb3
      replace h1 := Lib.hid h1
      go_wp2
      go_ret
      exact ⟨rfl, h1.out.2.2⟩
  · rw [hga'] at hga
    have HGA := Lib.hid hga
    clear hga hgb hwk hga' hM hlt0 hc0 hV hV' hm hm' hn hn' hf hf'
    go_enter Tryd.func6, Tryd.ntmps6
    go_wp2_with fail
    refine (HWK.out _ H0.out).mono ?_
    rintro e w1 ⟨rfl, hb1⟩
    have h1 := vz_step H0.out hb1
    clear hb1
    go_wp2_with fail
    refine (HGA.out _ h1).mono ?_
    rintro e w2 ⟨rfl, hb2⟩
    replace h1 := vz_step h1 hb2
    clear hb2
    replace h1 := Lib.hid h1
    go_wp2
    go_ret
    exact ⟨rfl, h1.out.2.2⟩
end Go.Proofs.YtfdiopjmohhejaaDoor
