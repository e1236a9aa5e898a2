/- The walk of KeyBegins. Conditions: the numbers fit their kinds; bytealg.MaxLen holds a number. -/
import Derived.Test.YtfdiopjmohhejaaDoorKeyMath2
import Derived.Test.YtfdiopjmohhejaaDoorLawKeyPuts
namespace Go.Proofs.YtfdiopjmohhejaaDoor
open Go.RowKit
set_option linter.unusedVariables false
def Vz (w : World) (A : Option Addr) (la : List Val) (C : Option Addr) (lb : List Val) (W : World) : Prop := Vals W W.heap.size A la ∧ Vals W W.heap.size C lb ∧ Below w.heap.size w W
theorem vz_step {w W W' : World} {A : Option Addr} {la : List Val} {C : Option Addr} {lb : List Val} (h : Vz w A la C lb W) (hb : Below W.heap.size W W') : Vz w A la C lb W' := ⟨vals_step h.1 hb, vals_step h.2.1 hb, bj h.2.2 hb⟩
theorem vals_take {W : World} {B : Nat} {A : Option Addr} {l : List Val} (h : Vals W B A l) (k : Nat) : Vals W B A (l.take k) := by
  rcases h with rfl | ⟨g, o, rfl, hlt, hc⟩
  · exact .inl (by simp)
  · refine .inr ⟨g, o, rfl, hlt, fun j x hx => hc j x ?_⟩
    rw [List.getElem?_take] at hx
    split at hx
    · exact hx
    · cases hx
theorem kputS_cases (l : List Val) : ((∀ x ∈ l, chk x = 0) ∧ kputS l = (bstr (keyL l), 0)) ∨ (∃ E, E ≠ 0 ∧ kputS l = (⟨#[]⟩, E)) := by
  by_cases h : chkL l = 0
  · exact .inl ⟨chkL_mem h, by unfold kputS; rw [if_pos h]⟩
  · exact .inr ⟨chkL l, h, by unfold kputS; rw [if_neg h]; rfl⟩
theorem keyL_lt {l : List Val} (hf : ∀ x ∈ l, Fits x) (hc : ∀ x ∈ l, chk x = 0) : ∀ y ∈ keyL l, y < 256 := by
  intro y hy
  unfold keyL at hy
  obtain ⟨x, hx, hy⟩ := List.mem_flatMap.1 hy
  exact oneK_lt (hf x hx).1 (chk_of (hc x hx)).1 y hy
theorem ne_e {E : Int} (h : E ≠ 0) : (E != 0) = true := by rw [bne_iff_ne]; exact h
set_option maxRecDepth 100000 in
set_option maxHeartbeats 8000000 in
theorem keyBegins_walk (A : Option Addr) (la : List Val) (n c : Nat) (C : Option Addr) (lb : List Val) (k d : Nat) (hn : n = la.length) (hm : n ≤ maxLen) (hf : ∀ x ∈ la, Fits x) (hq0 : n ≤ c) (hn' : k = lb.length) (hm' : k ≤ maxLen) (hf' : ∀ x ∈ lb, Fits x) (hq : k ≤ d) (w : World) (hV : Vals w w.heap.size A la) (hV' : Vals w w.heap.size C lb) (m : Int) (hc0 : w.cell? ⟨0, 0, none⟩ = some (.int .i64 m)) :
    Calls Tryd.prog 9 #[.slice A n c, .slice C k d] w fun e w' => e = .returned (.bool true) ∧ Below w.heap.size w w' := by
  have hlt0 := lt_of_cell hc0
  have hM : ∀ W, Below w.heap.size w W → W.cell? ⟨0, 0, none⟩ = some (.int .i64 m) := fun W hb => (hb.cell (p := ⟨0, 0, none⟩) hlt0).trans hc0
  have hga := fun W (h : Vz w A la C lb W) => great_any A la n c W h.1 hn hm
  have hgb := fun W (h : Vz w A la C lb W) => great_any C lb k d W h.2.1 hn' hm'
  have hwk := fun W (h : Vz w A la C lb W) => works_any m W (hM W h.2.2)
  have H0 : Hid (Vz w A la C lb w) := Lib.hid ⟨hV, hV', Below.refl _ _⟩
  have HWK := Lib.hid hwk
  cases hga' : greatB la
  · cases hgb' : greatB lb
    · rw [hga'] at hga
      rw [hgb'] at hgb
      have hl : n ≤ 60 := by have := great_len hga'; omega
      have hl' : k ≤ 60 := by have := great_len hgb'; omega
      have hpa := fun W (h : Vz w A la C lb W) => kput_row A la n c m W h.1 hn (by omega) hf (hM W h.2.2)
      have hpb := fun W (h : Vz w A la C lb W) => kput_row C lb k d m W h.2.1 hn' (by omega) hf' (hM W h.2.2)
      have HGA := Lib.hid hga
      have HGB := Lib.hid hgb
      clear hga hgb hwk hga' hgb' hM hlt0 hc0 hV hV' hm hm'
      have hcB := kputS_cases lb
      have hcA := kputS_cases la
      rcases hcA with ⟨ca, ea⟩ | ⟨E, hE, ea⟩
      · rcases hcB with ⟨cb, eb⟩ | ⟨F, hF, eb⟩
        · rw [ea] at hpa
          rw [eb] at hpb
          have hsm := fun W (h : Vz w A la C lb W) (b : Bool) (hb : decide (la = lb.take n) = b) (hnk : n ≤ k) => same_any A C la (lb.take n) n c n d b W h.1 (vals_take h.2.1 n) hn (by rw [List.length_take]; omega) (by unfold maxLen; omega) (by unfold maxLen; omega) hb
          have hhp := fun W => Tryd.strings_HasPrefix (bstr (keyL lb)) (bstr (keyL la)) W
          rw [hasPrefix_bstr _ _ (keyL_lt hf ca) (keyL_lt hf' cb)] at hhp
          have hpe : decide (keyL la <+: keyL lb) = decide (la <+: lb) := decide_eq_decide.2 (keyL_pre la lb hf ca hf' cb)
          rw [hpe] at hhp
          by_cases hnk : n ≤ k
          · have hqd : decide (la <+: lb) = decide (la = lb.take n) := decide_eq_decide.2 (by rw [pre_take, ← hn, ← hn', Nat.min_eq_left hnk]; exact ⟨fun h => h.2, fun h => ⟨hnk, h⟩⟩)
            rw [hqd] at hhp
            have hsm2 := fun W h => hsm W h _ rfl hnk
            generalize decide (la = lb.take n) = b at *
            have hnI : (n : Int) ≤ k := by omega
            have hkI : (k : Int) ≤ 60 := by omega
            have hmn : min (n : Int) (k : Int) = n := by omega
            have hdI : (n : Int) ≤ d := by omega
            generalize bstr (keyL la) = X at *
            generalize bstr (keyL lb) = Y at *
            have HPA := Lib.hid hpa
            have HPB := Lib.hid hpb
            have HHP := Lib.hid (fun W => (hhp W).mono (R' := fun e w' => e = .returned (.bool b) ∧ W = w') fun e w' he => ⟨he.1, he.2.symm⟩)
            have HSM := Lib.hid hsm2
            clear hpa hpb hhp hsm hsm2 hqd hpe ca cb ea eb hf hf' hn hn' hl hl' hnk hq hq0
            go_enter Tryd.func9, Tryd.ntmps9
            go_wp2_with fail
            refine (HWK.out _ H0.out).mono ?_
            rintro e w1 ⟨rfl, hb1⟩
            have h1 := vz_step H0.out hb1
            clear hb1
            go_wp2_with fail
            refine (HGA.out _ h1).mono ?_
            rintro e w2 ⟨rfl, hb2⟩
            replace h1 := vz_step h1 hb2
            clear hb2
            go_wp2_with fail
            refine (HGB.out _ h1).mono ?_
            rintro e w3 ⟨rfl, hb3⟩
            replace h1 := vz_step h1 hb3
            clear hb3
            go_wp2_with fail
            refine (HPA.out _ h1).mono ?_
            rintro e w4 ⟨rfl, hb4⟩
            replace h1 := vz_step h1 hb4
            clear hb4
            go_wp2_with fail
            refine (HPB.out _ h1).mono ?_
            rintro e w5 ⟨rfl, hb5⟩
            replace h1 := Lib.hid (vz_step h1 hb5)
            clear hb5
            go_wp2_with fail
            refine (HHP.out _).mono ?_
            rintro e w6 ⟨rfl, rfl⟩
            go_wp2_with fail
            refine (HSM.out _ h1.out).mono ?_
            rintro e w7 ⟨rfl, hb7⟩
            have h7 := Lib.hid (bj h1.out.2.2 hb7)
            clear hb7
            cases b
            all_goals
              go_wp2
              go_ret
              exact ⟨rfl, h7.out⟩
          · have hq1 : decide (la <+: lb) = false := decide_eq_false (by rw [pre_take, ← hn, ← hn']; exact fun h => hnk h.1)
            rw [hq1] at hhp
            have hnI : (k : Int) < n := by omega
            generalize bstr (keyL la) = X at *
            generalize bstr (keyL lb) = Y at *
            have HPA := Lib.hid hpa
            have HPB := Lib.hid hpb
            have HHP := Lib.hid (fun W => (hhp W).mono (R' := fun e w' => e = .returned (.bool false) ∧ W = w') fun e w' he => ⟨he.1, he.2.symm⟩)
            clear hpa hpb hhp hsm hq1 hpe ca cb ea eb hf hf' hn hn' hl hl' hnk hq hq0
            go_enter Tryd.func9, Tryd.ntmps9
            go_wp2_with fail
            refine (HWK.out _ H0.out).mono ?_
            rintro e w1 ⟨rfl, hb1⟩
            have h1 := vz_step H0.out hb1
            clear hb1
            go_wp2_with fail
            refine (HGA.out _ h1).mono ?_
            rintro e w2 ⟨rfl, hb2⟩
            replace h1 := vz_step h1 hb2
            clear hb2
            go_wp2_with fail
            refine (HGB.out _ h1).mono ?_
            rintro e w3 ⟨rfl, hb3⟩
            replace h1 := vz_step h1 hb3
            clear hb3
            go_wp2_with fail
            refine (HPA.out _ h1).mono ?_
            rintro e w4 ⟨rfl, hb4⟩
            replace h1 := vz_step h1 hb4
            clear hb4
            go_wp2_with fail
            refine (HPB.out _ h1).mono ?_
            rintro e w5 ⟨rfl, hb5⟩
            replace h1 := vz_step h1 hb5
            clear hb5
            replace h1 := Lib.hid h1
            go_wp2_with fail
            refine (HHP.out _).mono ?_
            rintro e w6 ⟨rfl, rfl⟩
            go_wp2
            go_ret
            exact ⟨rfl, h1.out.2.2⟩
        · rw [ea] at hpa
          rw [eb] at hpb
          have hFe := ne_e hF
          generalize bstr (keyL la) = X at *
          have HPA := Lib.hid hpa
          have HPB := Lib.hid hpb
          clear hpa hpb ca ea eb hf hf' hn hn' hl hl' hq hq0 hF
          go_enter Tryd.func9, Tryd.ntmps9
          go_wp2_with fail
          refine (HWK.out _ H0.out).mono ?_
          rintro e w1 ⟨rfl, hb1⟩
          have h1 := vz_step H0.out hb1
          clear hb1
          go_wp2_with fail
          refine (HGA.out _ h1).mono ?_
          rintro e w2 ⟨rfl, hb2⟩
          replace h1 := vz_step h1 hb2
          clear hb2
          go_wp2_with fail
          refine (HGB.out _ h1).mono ?_
          rintro e w3 ⟨rfl, hb3⟩
          replace h1 := vz_step h1 hb3
          clear hb3
          go_wp2_with fail
          refine (HPA.out _ h1).mono ?_
          rintro e w4 ⟨rfl, hb4⟩
          replace h1 := vz_step h1 hb4
          clear hb4
          go_wp2_with fail
          refine (HPB.out _ h1).mono ?_
          rintro e w5 ⟨rfl, hb5⟩
          replace h1 := vz_step h1 hb5
          clear hb5
          replace h1 := Lib.hid h1
          go_wp2
          go_ret
          exact ⟨rfl, h1.out.2.2⟩
      · have hEe := ne_e hE
        rw [ea] at hpa
        generalize kputS lb = P at *
        obtain ⟨PX, PE⟩ := P
        simp only at hpb
        have HPA := Lib.hid hpa
        have HPB := Lib.hid hpb
        clear hpa hpb ea hcB hf hf' hn hn' hl hl' hq hq0 hE
        go_enter Tryd.func9, Tryd.ntmps9
        go_wp2_with fail
        refine (HWK.out _ H0.out).mono ?_
        rintro e w1 ⟨rfl, hb1⟩
        have h1 := vz_step H0.out hb1
        clear hb1
        go_wp2_with fail
        refine (HGA.out _ h1).mono ?_
        rintro e w2 ⟨rfl, hb2⟩
        replace h1 := vz_step h1 hb2
        clear hb2
        go_wp2_with fail
        refine (HGB.out _ h1).mono ?_
        rintro e w3 ⟨rfl, hb3⟩
        replace h1 := vz_step h1 hb3
        clear hb3
        go_wp2_with fail
        refine (HPA.out _ h1).mono ?_
        rintro e w4 ⟨rfl, hb4⟩
        replace h1 := vz_step h1 hb4
        clear hb4
        go_wp2_with fail
        refine (HPB.out _ h1).mono ?_
        rintro e w5 ⟨rfl, hb5⟩
        replace h1 := vz_step h1 hb5
        clear hb5
        replace h1 := Lib.hid h1
        go_wp2
        go_ret
        exact ⟨rfl, h1.out.2.2⟩
    · rw [hga'] at hga
      rw [hgb'] at hgb
      have HGA := Lib.hid hga
      have HGB := Lib.hid hgb
      clear hga hgb hwk hga' hgb' hM hlt0 hc0 hV hV' hm hm' hn hn' hf hf' hq hq0
      go_enter Tryd.func9, Tryd.ntmps9
      go_wp2_with fail
      refine (HWK.out _ H0.out).mono ?_
      rintro e w1 ⟨rfl, hb1⟩
      have h1 := vz_step H0.out hb1
      clear hb1
      go_wp2_with fail
      refine (HGA.out _ h1).mono ?_
      rintro e w2 ⟨rfl, hb2⟩
      replace h1 := vz_step h1 hb2
      clear hb2
      go_wp2_with fail
      refine (HGB.out _ h1).mono ?_
      rintro e w3 ⟨rfl, hb3⟩
      replace h1 := vz_step h1 hb3
      clear hb3
      replace h1 := Lib.hid h1
      go_wp2
      go_ret
      exact ⟨rfl, h1.out.2.2⟩
  · rw [hga'] at hga
    have HGA := Lib.hid hga
    clear hga hgb hwk hga' hM hlt0 hc0 hV hV' hm hm' hn hn' hf hf' hq hq0
    go_enter Tryd.func9, Tryd.ntmps9
    go_wp2_with fail
    refine (HWK.out _ H0.out).mono ?_
    rintro e w1 ⟨rfl, hb1⟩
    have h1 := vz_step H0.out hb1
    clear hb1
    go_wp2_with fail
    refine (HGA.out _ h1).mono ?_
    rintro e w2 ⟨rfl, hb2⟩
    replace h1 := vz_step h1 hb2
    clear hb2
    replace h1 := Lib.hid h1
    go_wp2
    go_ret
    exact ⟨rfl, h1.out.2.2⟩

end Go.Proofs.YtfdiopjmohhejaaDoor
