/- The walk of RecordTakes. Condition: the text is no longer than a machine has addresses. -/
import Derived.Test.YtnnadlbimhnikaaRecW
import Derived.Test.YtnnadlbimhnikaaRecR2
namespace Go.Proofs.Ytnnadlbimhnikaa
open Go.RowKit
set_option linter.unusedVariables false
set_option maxRecDepth 100000 in
set_option maxHeartbeats 4000000 in
theorem recordTakes_walk (s : ByteArray) (hs : s.size ≤ 140737488351232) (w : World) :
    Calls Try.prog 5 #[.string s] w fun e w' => e = .returned (.bool true) ∧ Below w.heap.size w w' := by
  by_cases hbig : (8192 : Int) < s.size
  · go_enter Try.func5, Try.ntmps5
    go_wp2_with fail
    refine (works_any _).mono ?_
    rintro e w1 ⟨rfl, hb1⟩
    go_wp2
    go_ret
    exact ⟨rfl, hb1⟩
  · have hsI : (s.size : Int) ≤ 8192 := by omega
    clear hbig hs
    go_enter Try.func5, Try.ntmps5
    go_wp2_with fail
    refine (works_any _).mono ?_
    rintro e w1 ⟨rfl, hb1⟩
    go_wp2_with fail
    refine (rtake_any s _).mono ?_
    rintro e w2 ⟨A, n, c, er, l, rfl, hV, hn, h16, hf, hb2, hh⟩
    have hv2 : Vw w A l w2 := ⟨hV, bj hb1 hb2⟩
    have HV2 := Lib.hid hv2
    have HHH := Lib.hid hh
    have HN := Lib.hid hn
    have H16 := Lib.hid h16
    clear hV hv2 hh hn h16 hf hb1 hb2
    go_wp2_with fail
    refine (refTakeR_any s _).mono ?_
    rintro e w3 ⟨A', n', c', er', l', rfl, hV', hn', h16', hf', hb3, hh'⟩
    have hv3 := vw_step HV2.out hb3
    have hh := HHH.out
    have hn := HN.out
    have h16 := H16.out
    have hll : l' = l ∧ er' = er := by
      rcases hh with ⟨h, rfl, rfl⟩ | ⟨h, rfl⟩ <;> rcases hh' with ⟨h', rfl, rfl⟩ | ⟨h', rfl⟩
      · exact ⟨rfl, rfl⟩
      · rw [h] at h'; cases h'
      · rw [h] at h'; cases h'
      · rw [h] at h'; injection h' with h'; exact ⟨h'.symm, rfl⟩
    obtain ⟨rfl, rfl⟩ := hll
    have hsm := same_any A A' l' l' n c n' c' true w3 hv3.1 hV' hn hn' (by unfold maxLen; omega) (by unfold maxLen; omega) (by simp)
    have HSM := Lib.hid hsm
    have HB := Lib.hid hv3.2
    clear hsm hV' hv3 hb3 hn hn' hf' hh hh' h16 h16' HV2 HHH HN H16
    go_wp2_with fail
    refine (HSM.out).mono ?_
    rintro e w4 ⟨rfl, hb4⟩
    go_wp2
    go_ret
    exact ⟨rfl, bj HB.out hb4⟩
end Go.Proofs.Ytnnadlbimhnikaa
