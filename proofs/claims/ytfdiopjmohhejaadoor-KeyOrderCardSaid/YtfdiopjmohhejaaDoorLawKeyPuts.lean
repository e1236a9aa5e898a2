/- The walk of KeyPuts. Conditions: the numbers fit their kinds; bytealg.MaxLen holds a number. -/
import Derived.Test.YtfdiopjmohhejaaDoorKeyW
import Derived.Test.YtfdiopjmohhejaaDoorKeyR2
namespace Go.Proofs.YtfdiopjmohhejaaDoor
open Go.RowKit
set_option linter.unusedVariables false
theorem great_len {l : List Val} (h : greatB l = false) : l.length ≤ 60 := by
  unfold greatB at h
  simp only [Bool.or_eq_false_iff, decide_eq_false_iff_not] at h
  omega
set_option maxRecDepth 100000 in
set_option maxHeartbeats 4000000 in
theorem keyPuts_walk (A : Option Addr) (l : List Val) (n c : Nat) (hn : n = l.length) (hm : n ≤ maxLen) (hf : ∀ x ∈ l, Fits x) (w : World) (hV : Vals w w.heap.size A l) (m : Int) (hc0 : w.cell? ⟨0, 0, none⟩ = some (.int .i64 m)) :
    Calls Tryd.prog 4 #[.slice A n c] w fun e w' => e = .returned (.bool true) ∧ Below w.heap.size w w' := by
  have hlt0 := lt_of_cell hc0
  have hM : ∀ W, Below w.heap.size w W → W.cell? ⟨0, 0, none⟩ = some (.int .i64 m) := fun W hb => (hb.cell (p := ⟨0, 0, none⟩) hlt0).trans hc0
  have hg := fun W (h : Vw w A l W) => great_any A l n c W h.1 hn hm
  have hwk := fun W (h : Vw w A l W) => works_any m W (hM W h.2)
  have h0 : Vw w A l w := ⟨hV, Below.refl _ _⟩
  have H0 := Lib.hid h0
  have HWK := Lib.hid hwk
  cases hgb : greatB l
  · have hl : n ≤ 1000 := by have := great_len hgb; omega
    have hpt := fun W (h : Vw w A l W) => kput_row A l n c m W h.1 hn (by omega) hf (hM W h.2)
    have hrp := fun W (h : Vw w A l W) => krefPut_row A l n c W h.1 hn hl hf
    rw [hgb] at hg
    generalize kputS l = P at *
    obtain ⟨PX, PE⟩ := P
    simp only at hpt hrp
    have HG := Lib.hid hg
    have HPT := Lib.hid hpt
    have HRP := Lib.hid hrp
    clear hpt hrp hg hwk hgb hl h0 hV hn hm hf hM hlt0 hc0
    go_enter Tryd.func4, Tryd.ntmps4
    go_wp2_with fail
    refine (HWK.out _ H0.out).mono ?_
    rintro e w1 ⟨rfl, hb1⟩
    have h1 := vw_step H0.out hb1
    go_wp2_with fail
    refine (HG.out _ h1).mono ?_
    rintro e w2 ⟨rfl, hb2⟩
    have h2 := vw_step h1 hb2
    go_wp2_with fail
    refine (HPT.out _ h2).mono ?_
    rintro e w3 ⟨rfl, hb3⟩
    have h3 := vw_step h2 hb3
    go_wp2_with fail
    refine (HRP.out _ h3).mono ?_
    rintro e w4 ⟨rfl, hb4⟩
    have h4 := Lib.hid (vw_step h3 hb4)
    clear h1 h2 h3 hb1 hb2 hb3 hb4
    go_wp2
    go_ret
    exact ⟨rfl, h4.out.2⟩
  · rw [hgb] at hg
    have HG := Lib.hid hg
    clear hg hwk hgb h0 hV hn hm hf hM hlt0 hc0
    go_enter Tryd.func4, Tryd.ntmps4
    go_wp2_with fail
    refine (HWK.out _ H0.out).mono ?_
    rintro e w1 ⟨rfl, hb1⟩
    have h1 := vw_step H0.out hb1
    go_wp2_with fail
    refine (HG.out _ h1).mono ?_
    rintro e w2 ⟨rfl, hb2⟩
    have h2 := vw_step h1 hb2
    go_wp2
    go_ret
    exact ⟨rfl, h2.2⟩
end Go.Proofs.YtfdiopjmohhejaaDoor
