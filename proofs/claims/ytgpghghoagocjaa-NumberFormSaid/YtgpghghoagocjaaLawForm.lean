/- The walk of NumberForm. Condition: the text is no longer than a machine has addresses. -/
import Derived.Test.YtgpghghoagocjaaProg
import Derived.Test.YtgpghghoagocjaaNumFix
import Derived.Test.YtgpghghoagocjaaNumTaken
import Derived.Deep.RegionWith
namespace Go.Proofs.Ytgpghghoagocjaa
open Go.RowKit
theorem takeS_cases (L : List Nat) (hl : ∀ x ∈ L, x < 256) : takeS L = (0, 0, 10) ∨ takeS L = (0, 0, 11) ∨
    ∃ n k, takeS L = (n, k, 0) ∧ 1 ≤ k ∧ k ≤ 9 ∧ k ≤ L.length ∧ n < 18446744073709551616 ∧ putL n = L.take k := by
  rcases h : takeF 0 0 L with _ | ⟨n, k⟩
  · exact .inl (takeS_none h)
  · by_cases hs : sz n = k
    · obtain ⟨h1, h2, h3, h4, h5⟩ := taken_put hl h
      exact .inr (.inr ⟨n, k, takeS_ok h hs, h1, h2, h3, h4, h5 hs⟩)
    · exact .inr (.inl (takeS_bad h hs))
theorem bts_cut (s : ByteArray) (k : Nat) : bts (s.extract 0 k) = (bts s).take k := by
  unfold bts
  rw [← List.map_take]
  simp [ByteArray.data_extract]
theorem bstr_cut {s : ByteArray} {l : List Nat} {k : Nat} (h : l = (bts s).take k) : bstr l = s.extract 0 k := by
  rw [h, ← bts_cut, bstr_bts]
set_option maxRecDepth 100000 in
set_option maxHeartbeats 6000000 in
theorem numberForm_walk (s : ByteArray) (hsR : s.size ≤ 140737488351232) (w : World) :
    Calls Try.prog 9 #[.string s] w fun e w' => e = .returned (.bool true) ∧ Below w.heap.size w w' := by
  have hs : s.size ≤ maxLen := by unfold maxLen; omega
  have hc := takeS_cases (bts s) (bts_lt s)
  rw [bts_length] at hc
  have hs2 := hs
  unfold maxLen at hs2
  go_enter Try.func9, Try.ntmps9
  go_wp2_with fail
  refine (works_any _).mono ?_
  rintro e w1 ⟨rfl, hb1⟩
  go_wp2_with fail
  refine (take_any s _ hs).mono ?_
  rintro e w2 ⟨rfl, hb2⟩
  have hbb := hb1.trans (hb2.mono hb1.size)
  rcases hc with h | h | ⟨n, k, h, h1, h9, hk, hn, hp⟩
  · rw [h]
    clear h
    go_wp2
    go_ret
    exact ⟨rfl, hbb⟩
  · rw [h]
    clear h
    go_wp2
    go_ret
    exact ⟨rfl, hbb⟩
  · rw [h]
    have HP := Lib.hid (bstr_cut hp)
    clear h hp
    have g1 : decide ((1 : Int) ≤ (k : Int)) = true := by simp; omega
    have g4 : (k : Int) ≤ s.size := by omega
    have g5 : (0 : Int) ≤ k := by omega
    go_wp2_with fail
    by_cases h9s : (9 : Int) < s.size
    · have g6 : decide ((k : Int) ≤ 9) = true := by simp; omega
      go_region_with ((go_at_call 12; refine (put_any _ _ hn).mono ?_; rintro e w3 ⟨rfl, hb3⟩; rw [HP.out]))
      go_wp2
      go_ret
      exact ⟨rfl, hbb.drew.trans (Below.mono (by assumption) hbb.size)⟩
    · have g6 : decide ((k : Int) ≤ s.size) = true := by simp; omega
      go_region_with ((go_at_call 12; refine (put_any _ _ hn).mono ?_; rintro e w3 ⟨rfl, hb3⟩; rw [HP.out]))
      go_wp2
      go_ret
      exact ⟨rfl, hbb.drew.trans (Below.mono (by assumption) hbb.size)⟩
end Go.Proofs.Ytgpghghoagocjaa
