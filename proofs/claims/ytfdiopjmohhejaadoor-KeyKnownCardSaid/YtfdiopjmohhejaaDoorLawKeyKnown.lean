/- The walk of KeyKnown: the document's examples. Condition: bytealg.MaxLen holds a number. -/
import Derived.Test.YtfdiopjmohhejaaDoorKeyNext
import Derived.Test.YtfdiopjmohhejaaDoorKeyW
import Derived.Deep.RegionWith
namespace Go.Proofs.YtfdiopjmohhejaaDoor
open Go.RowKit
set_option linter.unusedVariables false
def rowB : List Val := [(0, 0, bstr [])]
def rowC : List Val := [(1, -1, bstr [])]
def rowD : List Val := [(2, 0, bstr [97]), (3, 0, bstr [0])]
def rowE : List Val := [(2, 0, bstr [97]), (0, 0, bstr [])]
theorem rowB_put : kputS rowB = (⟨#[1]⟩, 0) := by unfold kputS; rw [if_pos (by decide)]; decide
theorem rowC_put : kputS rowC = (⟨#[2, 127, 255, 255, 255, 255, 255, 255, 255]⟩, 0) := by unfold kputS; rw [if_pos (by decide)]; decide
theorem rowD_put : kputS rowD = (⟨#[3, 97, 0, 0, 4, 0, 255, 0, 0]⟩, 0) := by unfold kputS; rw [if_pos (by decide)]; decide
theorem rowE_take : takeK (bts ⟨#[3, 97, 0, 0, 1]⟩) = some rowE := by decide
theorem firstE : firstZ (bts ⟨#[3, 97, 0, 0, 1]⟩) = (4, 0) := by decide
def badK : List ByteArray := [⟨#[3, 97, 0]⟩, ⟨#[5]⟩, ⟨#[3, 0, 1, 0, 0]⟩]
theorem bk0 : takeK (bts ⟨#[3, 97, 0]⟩) = none ∧ (⟨#[3, 97, 0]⟩ : ByteArray).size ≤ 1000000 := by decide
theorem bk1 : takeK (bts ⟨#[5]⟩) = none ∧ (⟨#[5]⟩ : ByteArray).size ≤ 1000000 := by decide
theorem bk2 : takeK (bts ⟨#[3, 0, 1, 0, 0]⟩) = none ∧ (⟨#[3, 0, 1, 0, 0]⟩ : ByteArray).size ≤ 1000000 := by decide
theorem badK_take : ∀ j (h : j < 3), takeK (bts (badK[j]'h)) = none ∧ (badK[j]'h).size ≤ 1000000 := by
  intro j h
  match j, h with
  | 0, _ => exact bk0
  | 1, _ => exact bk1
  | 2, _ => exact bk2
theorem fits_of {l : List Val} (h : l.all (fun x => decide (0 ≤ x.1) && decide (x.1 < 256) && decide (-9223372036854775808 ≤ x.2.1) && decide (x.2.1 ≤ 9223372036854775807)) = true) : ∀ x ∈ l, Fits x := by
  intro x hx
  have := List.all_eq_true.1 h x hx
  simp only [Bool.and_eq_true, decide_eq_true_eq] at this
  exact ⟨this.1.1.1, this.1.1.2, this.1.2, this.2⟩
theorem bad_any (s : ByteArray) (h : takeK (bts s) = none) (hs : s.size ≤ 1000000) (W : World) : Calls Tryd.prog 12 #[.string s] W fun e w' => ∃ A c, e = .returned (.tuple #[.slice A 0 c, .int .i64 7]) ∧ Below W.heap.size W w' := by
  refine (ktake_any s W hs).mono ?_
  rintro e w' ⟨A, n, c, er, l, rfl, hV, hn, _, _, hb, hh⟩
  rcases hh with ⟨_, rfl, rfl⟩ | ⟨h2, _⟩
  · subst hn; exact ⟨A, c, rfl, hb⟩
  · rw [h] at h2; cases h2
theorem vwE {w W : World} {b o : Nat} (h : Vw w (some ⟨b, o, none⟩) rowE W) : W.cell? ⟨b, o, none⟩ = some (.int .u8 2) ∧ W.cell? ⟨b, o + 1, none⟩ = some (.int .i64 0) ∧ W.cell? ⟨b, o + 2, none⟩ = some (.string ⟨#[97]⟩) ∧ W.cell? ⟨b, o + 3, none⟩ = some (.int .u8 0) ∧ W.cell? ⟨b, o + 4, none⟩ = some (.int .i64 0) ∧ W.cell? ⟨b, o + 5, none⟩ = some (.string ⟨#[]⟩) := by
  obtain ⟨b', o', he, _, hc⟩ := vals_get h.1 (by simp [rowE])
  simp only [Option.some.injEq, Addr.mk.injEq, and_true] at he
  obtain ⟨rfl, rfl⟩ := he
  obtain ⟨h1, h2, h3⟩ := hc 0 (2, 0, bstr [97]) rfl
  obtain ⟨h4, h5, h6⟩ := hc 1 (0, 0, bstr []) rfl
  exact ⟨h1, h2, h3, h4, h5, h6⟩
theorem next_at (s t : ByteArray) (b : Bool) (hs : s.size ≤ 1000) (h : nextZ (bts s) = (t, b)) (W : World) : Calls Tryd.prog 14 #[.string s] W fun e w' => e = .returned (.tuple #[.string t, .bool b]) ∧ Below W.heap.size W w' := by
  have := knext_any s W (by omega)
  rw [h] at this
  exact this
set_option maxRecDepth 100000 in
set_option maxHeartbeats 8000000 in
theorem keyKnown_walk (w : World) (m : Int) (hc0 : w.cell? ⟨0, 0, none⟩ = some (.int .i64 m)) : Calls Tryd.prog 3 #[] w fun e w' => e = .returned (.bool true) ∧ Below w.heap.size w w' := by
  have hlt0 := lt_of_cell hc0
  have hM : ∀ W, Below w.heap.size w W → W.cell? ⟨0, 0, none⟩ = some (.int .i64 m) := fun W hb => (hb.cell (p := ⟨0, 0, none⟩) hlt0).trans hc0
  have hp0 : ∀ W, Below w.heap.size w W → Calls Tryd.prog 10 #[.slice none 0 0] W fun e w' => e = .returned (.tuple #[.string ⟨#[]⟩, .int .i64 0]) ∧ Below W.heap.size W w' := fun W hb =>
    kput_row none [] 0 0 m W (.inl rfl) rfl (by omega) (fun x hx => by cases hx) (hM W hb)
  have hpb : ∀ (W : World) (g : Nat), Below w.heap.size w W → Blk W g 26 #[.int .u8 0, .int .i64 0, .string ⟨#[]⟩] →
      Calls Tryd.prog 10 #[.slice (some ⟨g, 0, none⟩) 1 1] W fun e w' => e = .returned (.tuple #[.string ⟨#[1]⟩, .int .i64 0]) ∧ Below W.heap.size W w' := fun W g hb hB => by
    have h := kput_row (some ⟨g, 0, none⟩) rowB 1 1 m W (vals_blk hB (fun j x hx => by
      match j, hx with
      | 0, hx => simp [rowB] at hx; subst hx; exact ⟨rfl, rfl, rfl⟩
      | j + 1, hx => simp [rowB] at hx)) rfl (by omega) (fits_of (by decide)) (hM W hb)
    rw [rowB_put] at h
    exact h
  have hpc : ∀ (W : World) (g : Nat), Below w.heap.size w W → Blk W g 26 #[.int .u8 1, .int .i64 (-1), .string ⟨#[]⟩] →
      Calls Tryd.prog 10 #[.slice (some ⟨g, 0, none⟩) 1 1] W fun e w' => e = .returned (.tuple #[.string ⟨#[2, 127, 255, 255, 255, 255, 255, 255, 255]⟩, .int .i64 0]) ∧ Below W.heap.size W w' := fun W g hb hB => by
    have h := kput_row (some ⟨g, 0, none⟩) rowC 1 1 m W (vals_blk hB (fun j x hx => by
      match j, hx with
      | 0, hx => simp [rowC] at hx; subst hx; exact ⟨rfl, rfl, rfl⟩
      | j + 1, hx => simp [rowC] at hx)) rfl (by omega) (fits_of (by decide)) (hM W hb)
    rw [rowC_put] at h
    exact h
  have hpd : ∀ (W : World) (g : Nat), Below w.heap.size w W → Blk W g 26 #[.int .u8 2, .int .i64 0, .string ⟨#[97]⟩, .int .u8 3, .int .i64 0, .string ⟨#[0]⟩] →
      Calls Tryd.prog 10 #[.slice (some ⟨g, 0, none⟩) 2 2] W fun e w' => e = .returned (.tuple #[.string ⟨#[3, 97, 0, 0, 4, 0, 255, 0, 0]⟩, .int .i64 0]) ∧ Below W.heap.size W w' := fun W g hb hB => by
    have h := kput_row (some ⟨g, 0, none⟩) rowD 2 2 m W (vals_blk hB (fun j x hx => by
      match j, hx with
      | 0, hx => simp [rowD] at hx; subst hx; exact ⟨rfl, rfl, rfl⟩
      | 1, hx => simp [rowD] at hx; subst hx; exact ⟨rfl, rfl, rfl⟩
      | j + 2, hx => simp [rowD] at hx)) rfl (by omega) (fits_of (by decide)) (hM W hb)
    rw [rowD_put] at h
    exact h
  have htk : ∀ W : World, Calls Tryd.prog 12 #[.string ⟨#[3, 97, 0, 0, 1]⟩] W fun e w' => ∃ b o c, e = .returned (.tuple #[.slice (some ⟨b, o, none⟩) 2 c, .int .i64 0]) ∧ Vals w' w'.heap.size (some ⟨b, o, none⟩) rowE ∧ Below W.heap.size W w' := fun W => by
    refine (ktake_any _ W (by decide)).mono ?_
    rintro e w' ⟨A, n, c, er, l, rfl, hV, hn, _, _, hb, hh⟩
    rw [rowE_take] at hh
    rcases hh with ⟨h, _⟩ | ⟨h, rfl⟩
    · cases h
    · simp only [Option.some.injEq] at h
      subst h
      obtain ⟨b, o, rfl, _, _⟩ := vals_get hV (by simp [rowE])
      subst hn
      exact ⟨b, o, c, rfl, hV, hb⟩
  have hfi : ∀ W : World, Calls Tryd.prog 13 #[.string ⟨#[3, 97, 0, 0, 1]⟩] W fun e w' => e = .returned (.tuple #[.int .i64 4, .int .i64 0]) ∧ Below W.heap.size W w' := fun W => by
    have h := kfirst_any ⟨#[3, 97, 0, 0, 1]⟩ W (by decide)
    rw [firstE] at h
    exact h
  have hbad := fun (j : Nat) (h : j < 3) W => bad_any _ (badK_take j h).1 (badK_take j h).2 W
  have hn1 := next_at ⟨#[97, 98]⟩ ⟨#[97, 99]⟩ true (by decide) (by decide)
  have hn2 := next_at ⟨#[97, 255]⟩ ⟨#[98]⟩ true (by decide) (by decide)
  have hn3 := next_at ⟨#[255, 255]⟩ ⟨#[]⟩ false (by decide) (by decide)
  have hn4 := next_at ⟨#[]⟩ ⟨#[]⟩ false (by decide) (by decide)
  have HWK := Lib.hid (fun W hb => works_any m W (hM W hb))
  have HP0 := Lib.hid hp0
  have HPB := Lib.hid hpb
  have HPC := Lib.hid hpc
  have HPD := Lib.hid hpd
  have HTK := Lib.hid htk
  have HFI := Lib.hid hfi
  have HBAD := Lib.hid hbad
  have HN1 := Lib.hid hn1
  have HN2 := Lib.hid hn2
  have HN3 := Lib.hid hn3
  have HN4 := Lib.hid hn4
  clear hp0 hpb hpc hpd htk hfi hbad hn1 hn2 hn3 hn4 hM hlt0 hc0
  go_enter Tryd.func3, Tryd.ntmps3
  go_wp2_with fail
  refine (HP0.out _ (Below.refl _ _)).mono ?_
  rintro e w1 ⟨rfl, hb1⟩
  go_wp2_with fail
  refine (HPB.out _ _ (hb1.alloc hb1.size _) (blk_new _ _ _ _ rfl)).mono ?_
  rintro e w2 ⟨rfl, hb2⟩
  replace hb1 := bja _ hb1 hb2
  clear hb2
  go_wp2_with fail
  refine (HPC.out _ _ (hb1.alloc hb1.size _) (blk_new _ _ _ _ rfl)).mono ?_
  rintro e w3 ⟨rfl, hb3⟩
  replace hb1 := bja _ hb1 hb3
  clear hb3
  go_wp2_with fail
  refine (HPD.out _ _ (hb1.alloc hb1.size _) (blk_new _ _ _ _ rfl)).mono ?_
  rintro e w4 ⟨rfl, hb4⟩
  replace hb1 := bja _ hb1 hb4
  clear hb4
  go_wp2_with fail
  refine (HWK.out _ hb1).mono ?_
  rintro e w5 ⟨rfl, hb5⟩
  replace hb1 := bj hb1 hb5
  clear hb5
  go_wp2_with fail
  refine (HTK.out _).mono ?_
  rintro e w6 ⟨b, o, c, rfl, hV, hb6⟩
  have hv6 : Vw w (some ⟨b, o, none⟩) rowE w6 := ⟨hV, bj hb1 hb6⟩
  clear hV hb6 hb1
  go_wp2_with fail
  refine (HFI.out _).mono ?_
  rintro e w7 ⟨rfl, hb7⟩
  have hv7 := vw_step hv6 hb7
  obtain ⟨d0, d1, d2, d3, d4, d5⟩ := vwE hv7
  have HW7 := Lib.hid hv7.2
  clear hb7 hv6 hv7
  go_wp2
  go_loopw [105] (fun i wr => ∃ j : Nat, j ≤ 3 ∧ i = .int .i64 j ∧ Blk wr w7.heap.size 9 #[.string ⟨#[3, 97, 0]⟩, .string ⟨#[5]⟩, .string ⟨#[3, 0, 1, 0, 0]⟩] ∧ Below w.heap.size w wr) (fun i _ => 3 - (intOf i).toNat)
  case atStart => exact ⟨0, by omega, rfl, Blk.new _ _ _, HW7.out.alloc HW7.out.size _⟩
  case round =>
    obtain ⟨j, hj, rfl, hB, hbr⟩ := hrel
    by_cases hj3 : j < 3
    · have hc : wr.cell? ⟨w7.heap.size, j, none⟩ = some (.string (badK[j]'hj3)) := by
        rw [hB.cell]
        match j, hj3 with
        | 0, _ => rfl
        | 1, _ => rfl
        | 2, _ => rfl
      have hbd := HBAD.out j hj3
      generalize badK[j]'hj3 = bs at *
      have hjI : (j : Int) < 3 := by omega
      have HBD := Lib.hid hbd
      have HB := Lib.hid hB
      have HBR := Lib.hid hbr
      clear hbd hB hbr
      go_wp2_with fail
      refine (HBD.out _).mono ?_
      rintro e w5 ⟨A5, c5, rfl, hb5⟩
      go_wp2
      go_roundw
      case rel => exact ⟨j + 1, by omega, by go_num, blk_step HB.out hb5, bj HBR.out hb5⟩
      case measure => simp [intOf]; omega
    · obtain rfl : j = 3 := by omega
      clear hB HW7 d0 d1 d2 d3 d4 d5
      go_wp2_with fail
      refine (HN1.out _).mono ?_
      rintro e w8 ⟨rfl, hb8⟩
      replace hbr := bj hbr hb8
      clear hb8
      go_wp2_with fail
      refine (HN2.out _).mono ?_
      rintro e w9 ⟨rfl, hb9⟩
      replace hbr := bj hbr hb9
      clear hb9
      go_wp2_with fail
      refine (HN3.out _).mono ?_
      rintro e w10 ⟨rfl, hb10⟩
      replace hbr := bj hbr hb10
      clear hb10
      go_wp2_with fail
      refine (HN4.out _).mono ?_
      rintro e w11 ⟨rfl, hb11⟩
      replace hbr := bj hbr hb11
      clear hb11
      go_wp2
      go_ret
      exact ⟨rfl, hbr⟩
end Go.Proofs.YtfdiopjmohhejaaDoor
