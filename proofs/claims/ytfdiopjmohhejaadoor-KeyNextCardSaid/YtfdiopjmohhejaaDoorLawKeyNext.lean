/- The walk of KeyNext. Conditions: the texts are no longer than a machine has addresses; bytealg.MaxLen holds a number. -/
import Derived.Test.YtfdiopjmohhejaaDoorKeyNext
import Derived.Test.YtfdiopjmohhejaaDoorKeyMath2
import Derived.Deep.RegionWith
namespace Go.Proofs.YtfdiopjmohhejaaDoor
open Go.RowKit
set_option linter.unusedVariables false
theorem bytesLess_ltL (x y : ByteArray) : Go.Op.bytesLess x.toList y.toList = ltL (bts x) (bts y) := by
  rw [ByteArray.toList_eq, ByteArray.toList_eq]
  unfold bts
  generalize x.data.toList = a
  generalize y.data.toList = b
  induction a generalizing b with
  | nil => cases b <;> rfl
  | cons c a ih =>
    cases b with
    | nil => rfl
    | cons d b =>
      simp only [Go.Op.bytesLess, List.map_cons, ltL, ih b]
      congr 1
      congr 1
      rw [Bool.eq_iff_iff, beq_iff_eq, decide_eq_true_iff]
      exact UInt8.toNat_inj.symm
theorem ltL_asym : ∀ (a b : List Nat), ltL a b = true → ltL b a = false ∧ a ≠ b
  | [], [], h => by simp [ltL] at h
  | [], _ :: _, _ => ⟨rfl, by simp⟩
  | _ :: _, [], h => by simp [ltL] at h
  | c :: a, d :: b, h => by
    simp only [ltL, Bool.or_eq_true, Bool.and_eq_true, decide_eq_true_eq] at h
    rcases h with h | ⟨rfl, h⟩
    · refine ⟨?_, ?_⟩
      · simp only [ltL, Bool.or_eq_false_iff, Bool.and_eq_false_iff, decide_eq_false_iff_not]
        exact ⟨by omega, .inl (by omega)⟩
      · intro e
        simp only [List.cons.injEq] at e
        omega
    · obtain ⟨h1, h2⟩ := ltL_asym a b h
      refine ⟨?_, ?_⟩
      · simp [ltL, h1]
      · intro e
        simp only [List.cons.injEq] at e
        exact h2 e.2
theorem hasPrefix_bts (x y : ByteArray) : Lib.hasPrefix y.data.toList x.data.toList = decide (bts x <+: bts y) := by
  have h := hasPrefix_bstr (bts x) (bts y) (bts_lt x) (bts_lt y)
  rw [bstr_bts, bstr_bts] at h
  exact h
theorem count_all (s : ByteArray) (h : ∀ x ∈ bts s, x = 255) : Lib.countB s ⟨#[255]⟩ = s.size := by
  have e : Lib.countB s ⟨#[255]⟩ = s.data.toList.count 255 := Lib.count_one 255 s.data.toList
  rw [e, List.count_eq_length.2 (fun b hb => ?_)]
  · exact Array.length_toList
  · have := h b.toNat (List.mem_map.2 ⟨b, hb, rfl⟩)
    exact UInt8.toNat_inj.1 this.symm
set_option maxRecDepth 100000 in
set_option maxHeartbeats 8000000 in
theorem keyNext_walk (s t : ByteArray) (hs : s.size ≤ 140737488351232) (ht : t.size ≤ 140737488351232) (w : World) (m : Int) (hc0 : w.cell? ⟨0, 0, none⟩ = some (.int .i64 m)) :
    Calls Tryd.prog 8 #[.string s, .string t] w fun e w' => e = .returned (.bool true) ∧ Below w.heap.size w w' := by
  have hlt0 := lt_of_cell hc0
  have hM : ∀ W, Below w.heap.size w W → W.cell? ⟨0, 0, none⟩ = some (.int .i64 m) := fun W hb => (hb.cell (p := ⟨0, 0, none⟩) hlt0).trans hc0
  have HM := Lib.hid hM
  have HWK := Lib.hid (works_any m w hc0)
  have hls := fun W => long_any s W
  have hlt := fun W => long_any t W
  have HLS := Lib.hid (fun W => (hls W).mono (R' := fun e w' => e = .returned (.bool (decide (8192 < s.size))) ∧ W = w') fun e w' he => ⟨he.1, he.2.symm⟩)
  have HLT := Lib.hid (fun W => (hlt W).mono (R' := fun e w' => e = .returned (.bool (decide (8192 < t.size))) ∧ W = w') fun e w' he => ⟨he.1, he.2.symm⟩)
  clear hls hlt hM hlt0 hc0
  by_cases h1 : 8192 < s.size
  · rw [decide_eq_true h1] at HLS
    clear h1 hs ht
    go_enter Tryd.func8, Tryd.ntmps8
    go_wp2_with fail
    refine (HWK.out).mono ?_
    rintro e w1 ⟨rfl, hb1⟩
    go_wp2_with fail
    refine (HLS.out _).mono ?_
    rintro e w2 ⟨rfl, rfl⟩
    go_wp2
    go_ret
    exact ⟨rfl, hb1⟩
  · rw [decide_eq_false h1] at HLS
    by_cases h2 : 8192 < t.size
    · rw [decide_eq_true h2] at HLT
      clear h1 h2 hs ht
      go_enter Tryd.func8, Tryd.ntmps8
      go_wp2_with fail
      refine (HWK.out).mono ?_
      rintro e w1 ⟨rfl, hb1⟩
      go_wp2_with fail
      refine (HLS.out _).mono ?_
      rintro e w2 ⟨rfl, rfl⟩
      go_wp2_with fail
      refine (HLT.out _).mono ?_
      rintro e w3 ⟨rfl, rfl⟩
      go_wp2
      go_ret
      exact ⟨rfl, hb1⟩
    · rw [decide_eq_false h2] at HLT
      have hnx := fun W => knext_any s W hs
      have hhp := fun W => Tryd.strings_HasPrefix t s W
      rw [hasPrefix_bts] at hhp
      have hT := bts_lt t
      have hS := bts_lt s
      have e1 := bytesLess_ltL t s
      cases hN : nextL (bts s) with
      | none =>
        have hz : nextZ (bts s) = (⟨#[]⟩, false) := by unfold nextZ; rw [hN]
        rw [hz] at hnx
        simp only at hnx
        have hp : decide (bts s <+: bts t) = !ltL (bts t) (bts s) := by
          rw [Bool.eq_iff_iff, decide_eq_true_iff, pre_none _ _ hT hN]
          simp
        rw [hp] at hhp
        have hct := fun W (h : Below w.heap.size w W) => Tryd.strings_Count_any s ⟨#[255]⟩ m W (by omega) (HM.out W h) (by decide)
        rw [count_all s (nextL_none hN)] at hct
        generalize ltL (bts t) (bts s) = b at *
        have HNX := Lib.hid hnx
        have HHP := Lib.hid (fun W => (hhp W).mono (R' := fun e w' => e = .returned (.bool !b) ∧ W = w') fun e w' he => ⟨he.1, he.2.symm⟩)
        have HCT := Lib.hid (fun W h => (hct W h).mono (R' := fun e w' => e = .returned (.int .i64 s.size) ∧ W = w') fun e w' he => ⟨he.1, he.2.symm⟩)
        clear hnx hhp hct hp hz hN hT hS h1 h2 hs ht HM
        go_enter Tryd.func8, Tryd.ntmps8
        go_wp2_with fail
        refine (HWK.out).mono ?_
        rintro e w1 ⟨rfl, hb1⟩
        go_wp2_with fail
        refine (HLS.out _).mono ?_
        rintro e w2 ⟨rfl, rfl⟩
        go_wp2_with fail
        refine (HLT.out _).mono ?_
        rintro e w3 ⟨rfl, rfl⟩
        go_wp2_with fail
        refine (HNX.out _).mono ?_
        rintro e w4 ⟨rfl, hb4⟩
        have hb := bj hb1 hb4
        clear hb1 hb4
        go_wp2_with fail
        refine (HCT.out _ hb).mono ?_
        rintro e w5 ⟨rfl, rfl⟩
        go_wp2_with fail
        refine (HHP.out _).mono ?_
        rintro e w6 ⟨rfl, rfl⟩
        cases b
        all_goals
          go_wp2
          go_ret
          exact ⟨rfl, hb⟩
      | some N =>
        have hz : nextZ (bts s) = (bstr N, true) := by unfold nextZ; rw [hN]
        rw [hz] at hnx
        simp only at hnx
        have hNl := nextL_lt hS hN
        obtain ⟨q1, q2⟩ := pre_some _ _ _ hT hN
        obtain ⟨q3, q4⟩ := ltL_asym _ _ q2
        have e2 := bytesLess_ltL t (bstr N)
        have e3 := bytesLess_ltL (bstr N) s
        rw [bts_bstr N hNl] at e2 e3
        rw [q3] at e3
        have e4 := toList_ne (S := bstr N) (T := s) (fun e => q4 (by rw [e, bts_bstr N hNl]))
        have hp : decide (bts s <+: bts t) = (!ltL (bts t) (bts s) && ltL (bts t) N) := by
          rw [Bool.eq_iff_iff, decide_eq_true_iff, q1]
          simp
        rw [hp] at hhp
        generalize ltL (bts t) (bts s) = b at *
        generalize ltL (bts t) N = d at *
        generalize bstr N = X at *
        have HNX := Lib.hid hnx
        have HHP := Lib.hid (fun W => (hhp W).mono (R' := fun e w' => e = .returned (.bool (!b && d)) ∧ W = w') fun e w' he => ⟨he.1, he.2.symm⟩)
        clear hnx hhp hp hz hN hT hS h1 h2 hs ht HM hNl q1 q2 q3 q4
        cases b <;> cases d
        all_goals
          go_enter Tryd.func8, Tryd.ntmps8
          go_wp2_with fail
          refine (HWK.out).mono ?_
          rintro e w1 ⟨rfl, hb1⟩
          go_wp2_with fail
          refine (HLS.out _).mono ?_
          rintro e w2 ⟨rfl, rfl⟩
          go_wp2_with fail
          refine (HLT.out _).mono ?_
          rintro e w3 ⟨rfl, rfl⟩
          go_wp2_with fail
          refine (HNX.out _).mono ?_
          rintro e w4 ⟨rfl, hb4⟩
          have hb := bj hb1 hb4
          clear hb1 hb4
          go_wp2_with fail
          refine (HHP.out _).mono ?_
          rintro e w6 ⟨rfl, rfl⟩
          go_wp2
          go_ret
          exact ⟨rfl, hb⟩
end Go.Proofs.YtfdiopjmohhejaaDoor
