/- Layer 13: skip. Conditions: those of each lemma. -/
import Derived.Test.YtibnmkjabpoppaaGreatDoorLx4
import Derived.Test.YtibnmkjabpoppaaGreatDoorShelf
import Derived.WalkMore
import Derived.ScopeJumps
namespace Go.Proofs.YtibnmkjabpoppaaGreatDoor
open Go Go.RowKit
set_option linter.unusedVariables false
set_option linter.unusedSimpArgs false
theorem has2 (L : List UInt8) : Lib.hasPrefix L (⟨#[45, 45]⟩ : ByteArray).data.toList = decide ((L.map UInt8.toNat).getD 0 0 = 45 ∧ (L.map UInt8.toNat).getD 1 0 = 45) := by
  have e : ∀ x : UInt8, (x = 45) ↔ x.toNat = 45 := fun x => ⟨fun h => by rw [h]; rfl, fun h => UInt8.toNat_inj.1 (by rw [h]; rfl)⟩
  unfold Lib.hasPrefix
  match L with
  | [] => rfl
  | [a] => simp [List.isPrefixOf]
  | a :: b :: l =>
    rw [Bool.eq_iff_iff, decide_eq_true_iff]
    simp [List.isPrefixOf, ← e]
    constructor
    · rintro ⟨h1, h2⟩; exact ⟨h1.symm, h2.symm⟩
    · rintro ⟨h1, h2⟩; exact ⟨h1.symm, h2.symm⟩
theorem hp_any (S : ByteArray) (q : Nat) (w : World) : Calls Tryz.prog 39 #[.string (S.extract q S.size), .string ⟨#[45, 45]⟩] w fun e w' => e = .returned (.bool (decide (atB S q = 45 ∧ atB S (q + 1) = 45))) ∧ w = w' := by
  have h := Tryz.strings_HasPrefix (S.extract q S.size) ⟨#[45, 45]⟩ w
  rw [has2] at h
  have h1 : ((S.extract q S.size).data.toList.map UInt8.toNat) = (bts S).drop q := bts_cutr S q
  rw [h1, drop_hd] at h
  have h2 : ((bts S).drop q).getD 1 0 = atB S (q + 1) := by
    unfold atB
    rw [List.getD_eq_getElem?_getD, List.getElem?_drop, ← List.getD_eq_getElem?_getD]
  rw [h2] at h
  exact h.mono fun _ _ h => ⟨h.1, h.2.symm⟩
theorem wp_again {P : Program} {a : Act} {w : World} {Q : Exit → Act → World → Prop} {body : Code} (l : Nat) (J : Act → World → Prop) (μ : Act → World → Nat) (h0 : J a w)
    (pass : ∀ a w, J a w → body.wp P (Exit.jump l (fun a' w' => J a' w' ∧ μ a' w' < μ a w) Q) a w) : (Code.scope (Code.seq (.label l) body)).wp P Q a w := by
  refine wp_scope_jumps (rest := .seq .skip body) l J μ (by simp [findLabel]) ?_ (fun a w h => wp_seq (wp_skip (pass a w h)))
  refine wp_seq (wp_label ?_)
  exact wp_mono (pass a w h0) (fun e a w h => by
    cases e with
    | goto l' => exact ⟨h.1, h.2.1⟩
    | _ => exact h)
set_option maxRecDepth 100000 in
set_option maxHeartbeats 8000000 in
theorem skip_any (g : Nat) (S : ByteArray) (p : Nat) (w : World) (h : Rd w g S p) (hp : p ≤ S.size) (hS : S.size ≤ 140737488351232) : Calls Tryz.prog 15 #[.pointer (some ⟨g, 0, none⟩)] w fun e w' => e = .returned (.tuple #[]) ∧ Rd w' g S (p + sk ((bts S).drop p)) ∧ Bx g w w' := by
  have hSI : (S.size : Int) ≤ 140737488351232 := by omega
  obtain ⟨R, hR⟩ : ∃ R, p + sk ((bts S).drop p) = R := ⟨_, rfl⟩
  have HR := Lib.hid hR
  rw [hR]
  clear hR
  have HN := Lib.hid (fun q W hr => next_any g S q W hr)
  have HW := Lib.hid lbla_any
  have HP := Lib.hid (fun q W => hp_any S q W)
  have HD := Lib.hid h
  clear h
  go_enter Tryz.func15, Tryz.ntmps15
  refine wp_again 0 (fun a' W => ∃ (q : Nat) (u2 u3 u4 u5 u6 u7 u8 u9 u10 u11 u12 u13 u14 u15 u16 u17 u18 u19 u20 u21 u22 u23 u24 u25 u26 u27 u28 u29 u30 u31 u32 u33 u34 u35 u36 u37 u38 u39 u40 u41 u42 u43 u44 u45 u46 u47 u48 u49 u50 : Value), a' = { tmps := #[.pointer (some ⟨g, 0, none⟩), undef, u2, u3, u4, u5, u6, u7, u8, u9, u10, u11, u12, u13, u14, u15, u16, u17, u18, u19, u20, u21, u22, u23, u24, u25, u26, u27, u28, u29, u30, u31, u32, u33, u34, u35, u36, u37, u38, u39, u40, u41, u42, u43, u44, u45, u46, u47, u48, u49, u50], defers := [] } ∧ q ≤ S.size ∧ q + sk ((bts S).drop q) = R ∧ Rd W g S q ∧ Bx g w W) (fun _ W => S.size - rdAt g W) ⟨p, _, _, _, _, _, _, _, _, _, _, _, _, _, _, _, _, _, _, _, _, _, _, _, _, _, _, _, _, _, _, _, _, _, _, _, _, _, _, _, _, _, _, _, _, _, _, _, _, _, rfl, hp, HR.out, HD.out, bx_refl _ _⟩ ?_
  rintro a w0 ⟨q0, u2, u3, u4, u5, u6, u7, u8, u9, u10, u11, u12, u13, u14, u15, u16, u17, u18, u19, u20, u21, u22, u23, u24, u25, u26, u27, u28, u29, u30, u31, u32, u33, u34, u35, u36, u37, u38, u39, u40, u41, u42, u43, u44, u45, u46, u47, u48, u49, u50, rfl, hq0, hE0, hr0, hb0⟩
  have HE0 := Lib.hid hE0
  have HR0 := Lib.hid hr0
  have HB0 := Lib.hid hb0
  have M0 := Lib.hid (rd_at hr0)
  clear hE0 hr0 hb0 HD HR hp
  go_wp2
  go_loopw [] (fun wr => ∃ q : Nat, q0 ≤ q ∧ q ≤ S.size ∧ q + sk ((bts S).drop q) = R ∧ Rd wr g S q ∧ Bx g w wr) (fun wr => S.size - rdAt g wr)
  case atStart => exact ⟨q0, Nat.le_refl _, hq0, HE0.out, HR0.out, HB0.out⟩
  case round =>
    clear HE0 HR0 HB0
    obtain ⟨q, hq1, hq2, hE, hr, hb⟩ := hrel
    have HE := Lib.hid hE
    have HRD := Lib.hid hr
    have HB := Lib.hid hb
    clear hE hr hb
    obtain ⟨b, hb⟩ : ∃ b, blaB (atB S q : Int) = b := ⟨_, rfl⟩
    go_wp2_with fail
    refine (HN.out q _ HRD.out).mono ?_
    rintro e w1 ⟨rfl, hb1⟩
    have HRD1 := Lib.hid (rd_step HRD.out hb1)
    have HB1 := Lib.hid (bx_later HB.out hb1)
    clear hb1
    go_wp2_with fail
    refine (HW.out _ _).mono ?_
    rintro e w2 ⟨rfl, rfl⟩
    rw [hb]
    obtain ⟨c0, c1, f0, f1⟩ := rd_cells HRD1.out
    cases b with
    | true =>
      have hqs : q < S.size := by
        refine Nat.lt_of_not_le fun h => ?_
        rw [atB_end S q h] at hb
        revert hb
        decide
      have HQ := Lib.hid (show q + 1 + sk ((bts S).drop (q + 1)) = R by rw [← HE.out, drop_at S q hqs, sk_bla hb]; omega)
      clear hb
      have hI : (q : Int) < S.size := by omega
      go_wp2
      go_roundw
      case rel => exact ⟨q + 1, by omega, by omega, HQ.out, rd_set HRD1.out (q + 1), bx_trans HB1.out (bx_set _ _ _ _)⟩
      case measure =>
        rw [rd_at HRD.out]
        have h2 : rdAt g (w1.setCell ⟨g, 1, none⟩ (.int .i64 ((q : Int) + 1))) = q + 1 := rd_at (rd_set HRD1.out (q + 1))
        rw [h2]
        omega
    | false =>
      have HNB := Lib.hid (show ¬ blaB (atB S q : Int) = true by rw [hb]; decide)
      clear hb
      have hI : (q : Int) ≤ S.size := by omega
      have hp2 := fun W => HP.out q W
      obtain ⟨b2, hb2⟩ : ∃ b2, decide (atB S q = 45 ∧ atB S (q + 1) = 45) = b2 := ⟨_, rfl⟩
      rw [hb2] at hp2
      have HP2 := Lib.hid hp2
      clear hp2
      go_wp2_with fail
      go_quiet ((go_at_call 39; exact Calls.quiet_of_same ((HP2.out _).mono fun _ _ h => ⟨h.1, h.2.symm⟩)))
      rename_i nq
      have HRD2 := Lib.hid (rd_step HRD1.out (below_drewN (Below.refl _ _) nq))
      have HB2 := Lib.hid (bx_later HB1.out (below_drewN (Below.refl _ _) nq))
      cases b2 with
      | false =>
        have hno := of_decide_eq_false hb2
        have HQ := Lib.hid (show q = R by
          rw [← HE.out]
          rcases Nat.lt_or_ge q S.size with h | h
          · rw [drop_at S q h, sk_no HNB.out (by rw [drop_hd]; exact hno)]; rfl
          · rw [List.drop_of_length_le (by rw [bts_length]; exact h)]; rfl)
        clear hb2 hno
        go_wp2
        simp only [Exit.jump]
        refine bodyPost_end (v := .tuple #[]) (by simp [results, Tryz.results15, go_sem]) rfl ?_
        exact ⟨rfl, by rw [← HQ.out]; exact HRD2.out, HB2.out⟩
      | true =>
        obtain ⟨h45, h45b⟩ := of_decide_eq_true hb2
        have hqs : q < S.size := by
          refine Nat.lt_of_not_le fun h => ?_
          rw [atB_end S q h] at h45
          exact absurd h45 (by decide)
        have HDR := Lib.hid (drop_at S q hqs)
        have HM := Lib.hid (show q + rmk ((bts S).drop q) + sk ((bts S).drop (q + rmk ((bts S).drop q))) = R by
          have h0 := HE.out
          have h1 := HDR.out
          have h2 := HNB.out
          have h3 : (List.drop (q + 1) (bts S)).getD 0 0 = 45 := by rw [drop_hd]; exact h45b
          rw [h45] at h1 h2
          have h5 := sk_rem h2 ⟨rfl, h3⟩
          have h6 := congrArg (fun l => sk l = rmk l + sk (l.drop (rmk l))) h1
          have h7 := (Eq.mpr h6 h5 : sk (List.drop q (bts S)) = rmk (List.drop q (bts S)) + sk ((List.drop q (bts S)).drop (rmk (List.drop q (bts S)))))
          rw [List.drop_drop] at h7
          omega)
        have HPOS := Lib.hid (show 1 ≤ rmk ((bts S).drop q) by rw [HDR.out]; exact rmk_pos (by omega))
        clear hb2 h45 h45b HNB HE
        go_wp2
        go_loopw [] (fun wq => ∃ r : Nat, q ≤ r ∧ r ≤ S.size ∧ r + rmk ((bts S).drop r) = q + rmk ((bts S).drop q) ∧ Rd wq g S r ∧ Bx g w wq) (fun wq => S.size - rdAt g wq)
        case atStart => exact ⟨q, Nat.le_refl _, hq2, rfl, HRD2.out, HB2.out⟩
        case round =>
          clear HRD2 HB2 HRD1 HB1 HRD HB HDR c0 c1 f0 f1 HP2
          obtain ⟨r, hr1, hr2, hrE, hrr, hrb⟩ := hrel
          have HRE := Lib.hid hrE
          have HRR := Lib.hid hrr
          have HRB := Lib.hid hrb
          have HRR2 := Lib.hid (rd_drew hrr)
          have HRB2 := Lib.hid (bx_drew hrb)
          obtain ⟨c0, c1, f0, f1⟩ := rd_cells hrr
          clear hrE hrr hrb
          by_cases hrs : r < S.size
          · have hy := atB_at S r hrs
            have hyd := drop_at S r hrs
            have hyI : (r : Int) < S.size := by omega
            generalize hyy : atB S r = y at *
            by_cases hy10 : y = 10
            · subst hy10
              have h0 : rmk ((bts S).drop r) = 0 := by rw [hyd]; unfold rmk; rw [List.takeWhile_cons_of_neg (by simp)]; rfl
              have h1 := HRE.out
              rw [h0, Nat.add_zero] at h1
              have HQ := Lib.hid (show r + sk ((bts S).drop r) = R by
                have h2 := HM.out
                rw [← h1] at h2
                exact h2)
              have hlt : q < r := by have := HPOS.out; omega
              clear hyd hyy h0 h1
              go_wp2_with fail
              go_region
              all_goals
                go_wp2
                refine wp_goto ?_
                refine ⟨rfl, ⟨r, _, _, _, _, _, _, _, _, _, _, _, _, _, _, _, _, _, _, _, _, _, _, _, _, _, _, _, _, _, _, _, _, _, _, _, _, _, _, _, _, _, _, _, _, _, _, _, _, _, rfl, by omega, HQ.out, HRR2.out, HRB2.out⟩, ?_⟩
                have h1 := M0.out
                have h2 := rd_at HRR2.out
                rw [h1, h2]
                omega
            · have hyb : ((y : Int) != 10) = true := by rw [bne_iff_ne]; omega
              have HN2 := Lib.hid (show r + 1 + rmk ((bts S).drop (r + 1)) = q + rmk ((bts S).drop q) by
                rw [← HRE.out, hyd]
                have : rmk (y :: (bts S).drop (r + 1)) = 1 + rmk ((bts S).drop (r + 1)) := by
                  unfold rmk
                  rw [List.takeWhile_cons_of_pos (by simpa using hy10)]
                  simp only [List.length_cons]
                  omega
                rw [this]
                omega)
              clear hyd hy10 hyy
              have M2 := Lib.hid (rd_at HRR.out)
              go_wp2_with fail
              go_region
              all_goals
                obtain ⟨c0, c1, f0, f1⟩ := rd_cells HRR2.out
                go_wp2
                go_roundw
                case rel => exact ⟨r + 1, by omega, by omega, HN2.out, rd_set HRR2.out (r + 1), bx_trans HRB2.out (bx_set _ _ _ _)⟩
                case measure =>
                  rw [M2.out]
                  have h2 : rdAt g (_) = r + 1 := rd_at (rd_set HRR2.out (r + 1))
                  exact Nat.lt_of_lt_of_eq (Nat.lt_of_le_of_lt (Nat.le_of_eq (congrArg (S.size - ·) h2)) (by omega)) rfl
          · obtain rfl : r = S.size := by omega
            have h0 : rmk ((bts S).drop S.size) = 0 := by rw [List.drop_of_length_le (by rw [bts_length]; exact Nat.le_refl _)]; rfl
            have h1 := HRE.out
            rw [h0, Nat.add_zero] at h1
            have HQ := Lib.hid (show S.size + sk ((bts S).drop S.size) = R by
              have h2 := HM.out
              rw [← h1] at h2
              exact h2)
            have hlt : q < S.size := hqs
            clear h0 h1
            go_wp2_with fail
            go_region
            all_goals
              go_wp2
              refine wp_goto ?_
              refine ⟨rfl, ⟨S.size, _, _, _, _, _, _, _, _, _, _, _, _, _, _, _, _, _, _, _, _, _, _, _, _, _, _, _, _, _, _, _, _, _, _, _, _, _, _, _, _, _, _, _, _, _, _, _, _, _, rfl, by omega, HQ.out, HRR2.out, HRB2.out⟩, ?_⟩
              have h1 := M0.out
              have h2 := rd_at HRR2.out
              rw [h1, h2]
              omega
end Go.Proofs.YtibnmkjabpoppaaGreatDoor
