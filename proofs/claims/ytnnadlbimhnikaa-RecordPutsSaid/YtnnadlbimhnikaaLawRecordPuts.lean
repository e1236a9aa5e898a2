/- The walk of RecordPuts. Conditions: the numbers fit their kinds. -/
import Derived.Test.YtnnadlbimhnikaaRecW
import Derived.Test.YtnnadlbimhnikaaRec5
namespace Go.Proofs.Ytnnadlbimhnikaa
open Go.RowKit
set_option linter.unusedVariables false
set_option maxRecDepth 100000 in
set_option maxHeartbeats 4000000 in
theorem recordPuts_walk (A : Option Addr) (l : List Val) (n c : Nat) (hn : n = l.length) (hm : n ≤ maxLen) (hf : ∀ x ∈ l, Fits x) (w : World) (hV : Vals w w.heap.size A l) :
    Calls Try.prog 4 #[.slice A n c] w fun e w' => e = .returned (.bool true) ∧ Below w.heap.size w w' := by
  have hg := fun W (h : Vw w A l W) => great_any A l n c W h.1 hn hm
  have hpt := fun W (h : Vw w A l W) => put_row A l n c W h.1 hn hf
  have hrp := fun W (h : Vw w A l W) => refPut_row A l n c W h.1 hn hf
  have hck := fun W (h : Vw w A l W) => refRCheck_any A l n c W h.1 hn hf
  have hsz := fun W (h : Vw w A l W) => size_row A l n c W h.1 hn hf
  have h0 : Vw w A l w := ⟨hV, Below.refl _ _⟩
  generalize hgb : greatB l = gb at *
  generalize putS l = P at *
  obtain ⟨PX, PE⟩ := P
  simp only at hpt hrp
  have H0 := Lib.hid h0
  have HG := Lib.hid hg
  have HPT := Lib.hid hpt
  have HRP := Lib.hid hrp
  cases gb
  · by_cases hc : chkR l = 0
    · have hal := fun W (h : Vw w A l W) => all_row A l n c W h.1 hn hf hc
      have hz : sizeZ l = ((bstr (recL l)).size : Int) := by unfold sizeZ; rw [if_pos hc, bstr_size]
      rw [hz] at hsz
      rw [hc] at hck
      generalize bstr (recL l) = R at *
      have HAL := Lib.hid hal
      have HSZ := Lib.hid hsz
      have HCK := Lib.hid hck
      clear hal hz hck hsz hg hpt hrp h0 hV hn hm hf hgb hc
      go_enter Try.func4, Try.ntmps4
      go_wp2_with fail
      refine (works_any _).mono ?_
      rintro e w1 ⟨rfl, hb1⟩
      have h1 := vw_step H0.out hb1
      go_wp2_with fail
      refine (HG.out _ h1).mono ?_
      rintro e w2 ⟨rfl, hb2⟩
      have h2 := vw_step h1 hb2
      go_wp2_with fail
      refine (HPT.out _ h2).mono ?_
      rintro e w3 ⟨rfl, hb3⟩
      have h3 := vw_step h2 hb3
      go_wp2_with fail
      refine (HRP.out _ h3).mono ?_
      rintro e w4 ⟨rfl, hb4⟩
      have h4 := vw_step h3 hb4
      go_wp2_with fail
      refine (HCK.out _ h4).mono ?_
      rintro e w5 ⟨rfl, hb5⟩
      have h5 := vw_step h4 hb5
      go_wp2_with fail
      refine (HAL.out _ h5).mono ?_
      rintro e w6 ⟨rfl, hb6⟩
      have h6 := vw_step h5 hb6
      go_wp2_with fail
      refine (HSZ.out _ h6).mono ?_
      rintro e w7 ⟨rfl, hb7⟩
      have h7 := Lib.hid (vw_step h6 hb7)
      clear h1 h2 h3 h4 h5 h6 hb1 hb2 hb3 hb4 hb5 hb6 hb7
      go_wp2
      go_ret
      exact ⟨rfl, h7.out.2⟩
    · have hz : sizeZ l = 0 := by unfold sizeZ; rw [if_neg hc]
      have hne : (chkR l == 0) = false := by rw [beq_eq_false_iff_ne]; exact hc
      rw [hz] at hsz
      generalize chkR l = E at *
      have HSZ := Lib.hid hsz
      have HCK := Lib.hid hck
      clear hz hck hsz hg hpt hrp h0 hV hn hm hf hgb hc
      go_enter Try.func4, Try.ntmps4
      go_wp2_with fail
      refine (works_any _).mono ?_
      rintro e w1 ⟨rfl, hb1⟩
      have h1 := vw_step H0.out hb1
      go_wp2_with fail
      refine (HG.out _ h1).mono ?_
      rintro e w2 ⟨rfl, hb2⟩
      have h2 := vw_step h1 hb2
      go_wp2_with fail
      refine (HPT.out _ h2).mono ?_
      rintro e w3 ⟨rfl, hb3⟩
      have h3 := vw_step h2 hb3
      go_wp2_with fail
      refine (HRP.out _ h3).mono ?_
      rintro e w4 ⟨rfl, hb4⟩
      have h4 := vw_step h3 hb4
      go_wp2_with fail
      refine (HCK.out _ h4).mono ?_
      rintro e w5 ⟨rfl, hb5⟩
      have h5 := vw_step h4 hb5
      go_wp2_with fail
      refine (HSZ.out _ h5).mono ?_
      rintro e w7 ⟨rfl, hb7⟩
      have h7 := Lib.hid (vw_step h5 hb7)
      clear h1 h2 h3 h4 h5 hb1 hb2 hb3 hb4 hb5 hb7
      go_wp2
      go_ret
      exact ⟨rfl, h7.out.2⟩
  · clear hck hsz hg hpt hrp h0 hV hn hm hf hgb
    go_enter Try.func4, Try.ntmps4
    go_wp2_with fail
    refine (works_any _).mono ?_
    rintro e w1 ⟨rfl, hb1⟩
    have h1 := vw_step H0.out hb1
    go_wp2_with fail
    refine (HG.out _ h1).mono ?_
    rintro e w2 ⟨rfl, hb2⟩
    have h2 := vw_step h1 hb2
    go_wp2
    go_ret
    exact ⟨rfl, h2.2⟩
end Go.Proofs.Ytnnadlbimhnikaa
