/- Layer 13: kind. Conditions: those of each lemma. -/
import Derived.Test.YtibnmkjabpoppaaGreatDoorLx10
namespace Go.Proofs.YtibnmkjabpoppaaGreatDoor
open Go Go.RowKit
set_option linter.unusedVariables false
set_option linter.unusedSimpArgs false
theorem has2x (L : List UInt8) : Lib.hasPrefix L (⟨#[120, 39]⟩ : ByteArray).data.toList = decide ((L.map UInt8.toNat).getD 0 0 = 120 ∧ (L.map UInt8.toNat).getD 1 0 = 39) := by
  have e : ∀ x : UInt8, (x = 120) ↔ x.toNat = 120 := fun x => ⟨fun h => by rw [h]; rfl, fun h => UInt8.toNat_inj.1 (by rw [h]; rfl)⟩
  have e2 : ∀ x : UInt8, (x = 39) ↔ x.toNat = 39 := fun x => ⟨fun h => by rw [h]; rfl, fun h => UInt8.toNat_inj.1 (by rw [h]; rfl)⟩
  unfold Lib.hasPrefix
  match L with
  | [] => rfl
  | [a] => simp [List.isPrefixOf]
  | a :: b :: l =>
    rw [Bool.eq_iff_iff, decide_eq_true_iff]
    simp [List.isPrefixOf, ← e, ← e2]
    constructor
    · rintro ⟨h1, h2⟩; exact ⟨h1.symm, h2.symm⟩
    · rintro ⟨h1, h2⟩; exact ⟨h1.symm, h2.symm⟩
theorem hpx_any (S : ByteArray) (q : Nat) (w : World) : Calls Tryz.prog 39 #[.string (S.extract q S.size), .string ⟨#[120, 39]⟩] w fun e w' => e = .returned (.bool (decide (atB S q = 120 ∧ atB S (q + 1) = 39))) ∧ w = w' := by
  have h := Tryz.strings_HasPrefix (S.extract q S.size) ⟨#[120, 39]⟩ w
  rw [has2x] at h
  have h1 : ((S.extract q S.size).data.toList.map UInt8.toNat) = (bts S).drop q := bts_cutr S q
  rw [h1, drop_hd] at h
  have h2 : ((bts S).drop q).getD 1 0 = atB S (q + 1) := by
    unfold atB
    rw [List.getD_eq_getElem?_getD, List.getElem?_drop, ← List.getD_eq_getElem?_getD]
  rw [h2] at h
  exact h.mono fun _ _ h => ⟨h.1, h.2.symm⟩
/-- the function that takes the token that begins at a place -/
def kindF (c d : Nat) : Nat := if capB (c : Int) = true then 43 else if c = 120 ∧ d = 39 then 44 else if smaB (c : Int) = true then 46 else if digB (c : Int) = true then 48 else if c = 39 then 49 else 50
set_option maxRecDepth 100000 in
set_option maxHeartbeats 8000000 in
theorem kind_any (g : Nat) (S : ByteArray) (p : Nat) (w : World) (h : Rd w g S p) (hp : p ≤ S.size) (hS : S.size ≤ 140737488351232) : Calls Tryz.prog 17 #[.pointer (some ⟨g, 0, none⟩)] w fun e w' => e = .returned (.func (.func (kindF (atB S p) (atB S (p + 1)))) #[.pointer (some ⟨g, 0, none⟩)] #[]) ∧ Below w.heap.size w w' := by
  have hSI : (S.size : Int) ≤ 140737488351232 := by omega
  have hI : (p : Int) ≤ S.size := by omega
  have HP := Lib.hid (fun W => hpx_any S p W)
  have HN := Lib.hid (next_any g S p w h)
  have HD := Lib.hid h
  generalize hc : atB S p = c at *
  generalize hd : atB S (p + 1) = d at *
  clear hc hd h
  obtain ⟨b1, hb1⟩ : ∃ b, capB (c : Int) = b := ⟨_, rfl⟩
  obtain ⟨b2, hb2⟩ : ∃ b, decide (c = 120 ∧ d = 39) = b := ⟨_, rfl⟩
  obtain ⟨b3, hb3⟩ : ∃ b, smaB (c : Int) = b := ⟨_, rfl⟩
  obtain ⟨b4, hb4⟩ : ∃ b, digB (c : Int) = b := ⟨_, rfl⟩
  have HC := Lib.hid (fun W => lcap_any (c : Int) W)
  have HS := Lib.hid (fun W => lsma_any (c : Int) W)
  have HG := Lib.hid (fun W => ldig_any (c : Int) W)
  rw [hb1] at HC
  rw [hb2] at HP
  rw [hb3] at HS
  rw [hb4] at HG
  go_enter Tryz.func17, Tryz.ntmps17
  go_wp2_with fail
  refine (HN.out).mono ?_
  rintro e w1 ⟨rfl, hbl⟩
  have HD1 := Lib.hid (rd_step HD.out hbl)
  have HB1 := Lib.hid hbl
  clear hbl
  go_wp2_with fail
  refine (HC.out _).mono ?_
  rintro e w2 ⟨rfl, rfl⟩
  cases b1 with
  | true =>
    have HRES := Lib.hid (show kindF c d = 43 from if_pos hb1)
    clear hb1 hb2 hb3 hb4
    go_wp2
    go_ret
    exact ⟨by rw [HRES.out]; rfl, HB1.out⟩
  | false =>
    obtain ⟨c0, c1, f0, f1⟩ := rd_cells HD1.out
    go_wp2_with fail
    go_quiet ((go_at_call 39; exact Calls.quiet_of_same ((HP.out _).mono fun _ _ h => ⟨h.1, h.2.symm⟩)))
    rename_i nq
    have HB2 := Lib.hid (bj13 HB1.out (below_drewN (Below.refl _ _) nq))
    have n1 : ¬ capB (c : Int) = true := by rw [hb1]; decide
    cases b2 with
    | true =>
      have HRES := Lib.hid (show kindF c d = 44 by unfold kindF; rw [if_neg n1, if_pos (of_decide_eq_true hb2)])
      clear hb1 hb2 hb3 hb4 n1
      go_wp2
      go_ret
      exact ⟨by rw [HRES.out]; rfl, HB2.out⟩
    | false =>
      have n2 := of_decide_eq_false hb2
      go_wp2_with fail
      refine (HS.out _).mono ?_
      rintro e w3 ⟨rfl, rfl⟩
      cases b3 with
      | true =>
        have HRES := Lib.hid (show kindF c d = 46 by unfold kindF; rw [if_neg n1, if_neg n2, if_pos hb3])
        clear hb1 hb2 hb3 hb4 n1 n2
        go_wp2
        go_ret
        exact ⟨by rw [HRES.out]; rfl, HB2.out⟩
      | false =>
        have n3 : ¬ smaB (c : Int) = true := by rw [hb3]; decide
        go_wp2_with fail
        refine (HG.out _).mono ?_
        rintro e w4 ⟨rfl, rfl⟩
        cases b4 with
        | true =>
          have HRES := Lib.hid (show kindF c d = 48 by unfold kindF; rw [if_neg n1, if_neg n2, if_neg n3, if_pos hb4])
          clear hb1 hb2 hb3 hb4 n1 n2 n3
          go_wp2
          go_ret
          exact ⟨by rw [HRES.out]; rfl, HB2.out⟩
        | false =>
          have n4 : ¬ digB (c : Int) = true := by rw [hb4]; decide
          by_cases h39 : c = 39
          · have HRES := Lib.hid (show kindF c d = 49 by unfold kindF; rw [if_neg n1, if_neg n2, if_neg n3, if_neg n4, if_pos h39])
            clear hb1 hb2 hb3 hb4 n1 n2 n3 n4
            subst h39
            go_wp2
            go_ret
            exact ⟨by rw [HRES.out]; rfl, HB2.out⟩
          · have HRES := Lib.hid (show kindF c d = 50 by unfold kindF; rw [if_neg n1, if_neg n2, if_neg n3, if_neg n4, if_neg h39])
            have hne : ((c : Int) == 39) = false := beq_no13 (by omega)
            clear hb1 hb2 hb3 hb4 n1 n2 n3 n4 h39
            go_wp2
            go_ret
            exact ⟨by rw [HRES.out]; rfl, HB2.out⟩
end Go.Proofs.YtibnmkjabpoppaaGreatDoor
