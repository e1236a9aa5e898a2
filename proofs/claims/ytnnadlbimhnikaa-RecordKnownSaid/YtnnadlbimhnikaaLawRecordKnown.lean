/- The walk of RecordKnown. No condition. -/
import Derived.Test.YtnnadlbimhnikaaRecW
namespace Go.Proofs.Ytnnadlbimhnikaa
open Go.RowKit
set_option linter.unusedVariables false
theorem rep_flat1 (c : UInt8) (n : Nat) : Lib.repeatL [c] n = (List.replicate n c.toNat : List Nat).map UInt8.ofNat := by
  induction n with
  | zero => rfl
  | succ n ih => simp [Lib.repeatL, List.replicate_succ] at ih ⊢; try exact ih
def longS : ByteArray := bstr (List.replicate 1000 108)
theorem longS_size : longS.size = 1000 := by unfold longS; rw [bstr_size, List.length_replicate]
def rowA : List Val := [(3, 0, bstr []), (1, -1, bstr [])]
theorem rowA_fits : ∀ x ∈ rowA, Fits x := by
  intro x hx
  simp only [rowA, List.mem_cons, List.mem_nil_iff, or_false] at hx
  rcases hx with rfl | rfl <;> exact ⟨by decide, by decide, by decide, by decide⟩
theorem rowA_put : putS rowA = (bstr [2, 3, 1, 1], 0) := by
  have h : recL rowA = [2, 3, 1, 1] := by decide
  rw [putS_ok (by decide) (by rw [h]; decide), h]
theorem nil_put : putS [] = (bstr [0], 0) := by
  have h : recL [] = [0] := by decide
  rw [putS_ok (by decide) (by rw [h]; decide), h]
theorem one_take : takeR (bts (bstr [1, 0])) = some [(0, 0, bstr [])] := by
  have h : recL [(0, 0, bstr [])] = [1, 0] := by decide
  rw [bts_bstr _ (by decide), ← h]
  exact takeR_put _ (by intro x hx; rw [List.mem_singleton.1 hx]; exact ⟨by decide, by decide, by decide, by decide⟩) (by decide) (by rw [h]; decide)
def longV : Val := (2, 0, longS)
def row4 : List Val := [longV, longV, longV, longV]
theorem longV_fits : Fits longV := ⟨by decide, by decide, by decide, by decide⟩
theorem row4_fits : ∀ x ∈ row4, Fits x := by
  intro x hx
  simp only [row4, List.mem_cons, List.mem_nil_iff, or_false] at hx
  rcases hx with rfl | rfl | rfl | rfl <;> exact longV_fits
theorem longV_chk : chk longV = 0 := by
  unfold chk longV
  simp only [longS_size]
  rw [if_neg (by omega), if_neg (by omega)]
theorem row4_chk : chkR row4 = 0 := by
  unfold chkR
  rw [if_neg (by simp [row4])]
  exact chkL_zero (by
    intro x hx
    simp only [row4, List.mem_cons, List.mem_nil_iff, or_false] at hx
    rcases hx with rfl | rfl | rfl | rfl <;> exact longV_chk)
theorem longV_tag : tagN longV = 2002 := by unfold tagN longV; simp [longS_size]
theorem row4_len : (recL row4).length = 4009 := by
  have h1 : (putL (tagN longV)).length = 2 := by rw [putL_length, longV_tag]; decide
  have h2 : (bodyL longV).length = 1000 := by
    unfold bodyL longV
    rw [if_neg (by decide), bts_length, longS_size]
  rw [recL_len]
  simp only [row4, tagsL, bodsL, List.flatMap_cons, List.flatMap_nil, List.length_append, List.length_nil, h1, h2]
theorem row4_put : putS row4 = (⟨#[]⟩, 3) := putS_long row4_chk (by rw [row4_len]; omega)
theorem row4_size : sizeZ row4 = 4009 := by unfold sizeZ; rw [if_pos row4_chk, row4_len]; rfl
theorem row17_chk : chkR (List.replicate 17 zeroV) = 90 := by unfold chkR; rw [if_pos (by simp)]
theorem row17_put : putS (List.replicate 17 zeroV) = (⟨#[]⟩, 90) := by rw [putS_bad (by rw [row17_chk]; omega), row17_chk]
theorem row17_size : sizeZ (List.replicate 17 zeroV) = 0 := by unfold sizeZ; rw [row17_chk]; rfl
theorem row17_fits : ∀ x ∈ List.replicate 17 zeroV, Fits x := by
  intro x hx
  rw [(List.mem_replicate.1 hx).2]
  exact ⟨by decide, by decide, by decide, by decide⟩
def badS : List ByteArray := [⟨#[1, 0, 9]⟩, ⟨#[1]⟩, ⟨#[1, 4, 97, 98]⟩, ⟨#[]⟩, ⟨#[17]⟩, ⟨#[1, 255, 255, 255, 255, 255, 255, 255, 255, 255]⟩]
theorem bad2 : takeR (bts ⟨#[1, 4, 97, 98]⟩) = none := by decide +kernel
theorem bad5 : takeR (bts ⟨#[1, 255, 255, 255, 255, 255, 255, 255, 255, 255]⟩) = none := by decide +kernel
theorem badS_take : ∀ j (h : j < 6), takeR (bts (badS[j]'h)) = none := by
  intro j h
  match j, h with
  | 0, _ => rfl
  | 1, _ => rfl
  | 2, _ => exact bad2
  | 3, _ => rfl
  | 4, _ => rfl
  | 5, _ => exact bad5
theorem bad_any (s : ByteArray) (h : takeR (bts s) = none) (W : World) : Calls Try.prog 9 #[.string s] W fun e w' => ∃ A c, e = .returned (.tuple #[.slice A 0 c, .int .i64 7]) ∧ Below W.heap.size W w' := by
  refine (rtake_any s W).mono ?_
  rintro e w' ⟨A, n, c, er, l, rfl, hV, hn, _, _, hb, hh⟩
  rcases hh with ⟨_, rfl, rfl⟩ | ⟨h2, _⟩
  · subst hn; exact ⟨A, c, rfl, hb⟩
  · rw [h] at h2; cases h2
/-- the block of the long value stands -/
def Kl (w : World) (g : Nat) (S : ByteArray) (W : World) : Prop := Blk W g 26 #[.int .u8 2, .int .i64 0, .string S] ∧ Below w.heap.size w W
theorem kl_step {w W W' : World} {g : Nat} {S : ByteArray} (h : Kl w g S W) (hb : Below W.heap.size W W') : Kl w g S W' := ⟨blk_step h.1 hb, bj h.2 hb⟩
theorem kl_new {w W : World} (S : ByteArray) (h : Below w.heap.size w W) : Kl w W.heap.size S (W.alloc (.cells #[.int .u8 2, .int .i64 0, .string S] 26)) := ⟨Blk.new _ _ _, h.alloc h.size _⟩
theorem klS {w W : World} {g : Nat} {S : ByteArray} (h : Kl w g S W) : W.cell? ⟨g, 0, none⟩ = some (.int .u8 2) ∧ W.cell? ⟨g, 1, none⟩ = some (.int .i64 0) ∧ W.cell? ⟨g, 2, none⟩ = some (.string S) := ⟨h.1.cell 0, h.1.cell 1, h.1.cell 2⟩
set_option maxRecDepth 100000 in
set_option maxHeartbeats 8000000 in
theorem recordKnown_walk (w : World) : Calls Try.prog 3 #[] w fun e w' => e = .returned (.bool true) ∧ Below w.heap.size w w' := by
  have hp0 : ∀ W, Calls Try.prog 8 #[.slice none 0 0] W fun e w' => e = .returned (.tuple #[.string ⟨#[0]⟩, .int .i64 0]) ∧ Below W.heap.size W w' := fun W => by
    have h := put_row none [] 0 0 W (.inl rfl) rfl (fun x hx => by cases hx)
    rw [nil_put] at h
    exact h
  have hp2 : ∀ (W : World) (g : Nat), Blk W g 26 #[.int .u8 3, .int .i64 0, .string ⟨#[]⟩, .int .u8 1, .int .i64 (-1), .string ⟨#[]⟩] →
      Calls Try.prog 8 #[.slice (some ⟨g, 0, none⟩) 2 2] W fun e w' => e = .returned (.tuple #[.string ⟨#[2, 3, 1, 1]⟩, .int .i64 0]) ∧ Below W.heap.size W w' := fun W g hB => by
    have h := put_row (some ⟨g, 0, none⟩) rowA 2 2 W (vals_blk hB (fun j x hx => by
      match j, hx with
      | 0, hx => simp [rowA] at hx; subst hx; exact ⟨rfl, rfl, rfl⟩
      | 1, hx => simp [rowA] at hx; subst hx; exact ⟨rfl, rfl, rfl⟩
      | j + 2, hx => simp [rowA] at hx)) rfl rowA_fits
    rw [rowA_put] at h
    exact h
  have ht1 : ∀ W : World, Calls Try.prog 9 #[.string ⟨#[1, 0]⟩] W fun e w' => ∃ b o c, e = .returned (.tuple #[.slice (some ⟨b, o, none⟩) 1 c, .int .i64 0]) ∧ Vals w' w'.heap.size (some ⟨b, o, none⟩) [(0, 0, bstr [])] ∧ Below W.heap.size W w' := fun W => by
    refine (rtake_any (bstr [1, 0]) W).mono ?_
    rintro e w' ⟨A, n, c, er, l, rfl, hV, hn, _, _, hb, hh⟩
    rw [one_take] at hh
    rcases hh with ⟨h, _⟩ | ⟨h, rfl⟩
    · cases h
    · simp only [Option.some.injEq] at h
      subst h
      obtain ⟨b, o, rfl, _, _⟩ := vals_get hV (by simp)
      subst hn
      exact ⟨b, o, c, rfl, hV, hb⟩
  have hbad := fun (j : Nat) (h : j < 6) W => bad_any _ (badS_take j h) W
  have hrep := fun W => Try.strings_Repeat (bstr [108]) 1000 W (by omega) (by rw [bstr_size]; simp)
  have e0 : (bstr [108]).data.toList = [UInt8.ofNat 108] := rfl
  rw [e0, rep_flat1, show (UInt8.ofNat 108).toNat = 108 from rfl, show (⟨((List.replicate 1000 108 : List Nat).map UInt8.ofNat).toArray⟩ : ByteArray) = longS from rfl, show (bstr [108] : ByteArray) = ⟨#[108]⟩ from rfl] at hrep
  have htx := fun W => text_val longS W
  obtain ⟨iv, hv1, hv2, hv3, hv4⟩ := info_parts (show (Try.prog.info? 26).map (fun i => (i.zero, i.size, i.bytes)) = some (some (.agg #[.int .u8 0, .int .i64 0, .string ⟨#[]⟩]), 3, 32) by kernel_rfl)
  have hmk : ∀ W, (Instr.makeSlice 27 (.int .i64 17) (.int .i64 17)).run Try.prog W = .ok (.slice (some ⟨W.heap.size, 0, none⟩) 17 17) (W.alloc (.cells (madeCells #[.int .u8 0, .int .i64 0, .string ⟨#[]⟩] (17 * 3)) 26)) := fun W => by
    have hr := run_make (P := Try.prog) W 27 26 iv _ Try.underlying27 hv1 hv2 .i64 .i64 17 17 (by omega) (Int.le_refl _) (by rw [hv4]; omega) (by omega)
    rw [hv3] at hr
    exact hr
  have hp17 : ∀ (W : World) (g : Nat), RowB W g (List.replicate 17 zeroV) → Calls Try.prog 8 #[.slice (some ⟨g, 0, none⟩) 17 17] W fun e w' => e = .returned (.tuple #[.string ⟨#[]⟩, .int .i64 90]) ∧ Below W.heap.size W w' := fun W g hB => by
    have h := put_row (some ⟨g, 0, none⟩) (List.replicate 17 zeroV) 17 17 W (rowB_vals hB) (by simp) row17_fits
    rw [row17_put] at h
    exact h
  have hs17 : ∀ (W : World) (g : Nat), RowB W g (List.replicate 17 zeroV) → Calls Try.prog 13 #[.slice (some ⟨g, 0, none⟩) 17 17] W fun e w' => e = .returned (.int .i64 0) ∧ Below W.heap.size W w' := fun W g hB => by
    have h := size_row (some ⟨g, 0, none⟩) (List.replicate 17 zeroV) 17 17 W (rowB_vals hB) (by simp) row17_fits
    rw [row17_size] at h
    exact h
  have hv4' : ∀ (W : World) (g : Nat), Blk W g 26 #[.int .u8 2, .int .i64 0, .string longS, .int .u8 2, .int .i64 0, .string longS, .int .u8 2, .int .i64 0, .string longS, .int .u8 2, .int .i64 0, .string longS] → Vals W W.heap.size (some ⟨g, 0, none⟩) row4 := fun W g hB =>
    vals_blk hB (fun j x hx => by
      match j, hx with
      | 0, hx => simp [row4] at hx; subst hx; exact ⟨rfl, rfl, rfl⟩
      | 1, hx => simp [row4] at hx; subst hx; exact ⟨rfl, rfl, rfl⟩
      | 2, hx => simp [row4] at hx; subst hx; exact ⟨rfl, rfl, rfl⟩
      | 3, hx => simp [row4] at hx; subst hx; exact ⟨rfl, rfl, rfl⟩
      | j + 4, hx => simp [row4] at hx)
  have hp4 : ∀ (W : World) (g : Nat), Blk W g 26 #[.int .u8 2, .int .i64 0, .string longS, .int .u8 2, .int .i64 0, .string longS, .int .u8 2, .int .i64 0, .string longS, .int .u8 2, .int .i64 0, .string longS] →
      Calls Try.prog 8 #[.slice (some ⟨g, 0, none⟩) 4 4] W fun e w' => e = .returned (.tuple #[.string ⟨#[]⟩, .int .i64 3]) ∧ Below W.heap.size W w' := fun W g hB => by
    have h := put_row (some ⟨g, 0, none⟩) row4 4 4 W (hv4' W g hB) rfl row4_fits
    rw [row4_put] at h
    exact h
  have hs4 : ∀ (W : World) (g : Nat), Blk W g 26 #[.int .u8 2, .int .i64 0, .string longS, .int .u8 2, .int .i64 0, .string longS, .int .u8 2, .int .i64 0, .string longS, .int .u8 2, .int .i64 0, .string longS] →
      Calls Try.prog 13 #[.slice (some ⟨g, 0, none⟩) 4 4] W fun e w' => e = .returned (.int .i64 4009) ∧ Below W.heap.size W w' := fun W g hB => by
    have h := size_row (some ⟨g, 0, none⟩) row4 4 4 W (hv4' W g hB) rfl row4_fits
    rw [row4_size] at h
    exact h
  generalize longS = LS at *
  have HP0 := Lib.hid hp0
  have HP2 := Lib.hid hp2
  have HT1 := Lib.hid ht1
  have HBAD := Lib.hid hbad
  have HREP := Lib.hid hrep
  have HTX := Lib.hid htx
  have HP17 := Lib.hid hp17
  have HS17 := Lib.hid hs17
  have HP4 := Lib.hid hp4
  have HS4 := Lib.hid hs4
  have HMK := Lib.hid hmk
  clear hp0 hp2 ht1 hbad hrep htx hp17 hs17 hp4 hs4 hmk hv4' e0
  go_enter Try.func3, Try.ntmps3
  go_wp2_with fail
  refine (HP0.out _).mono ?_
  rintro e w1 ⟨rfl, hb1⟩
  go_wp2_with fail
  refine (HP2.out _ _ (blk_new _ _ _ _ rfl)).mono ?_
  rintro e w2 ⟨rfl, hb2⟩
  have hw2 : Below w.heap.size w w2 := bja _ hb1 hb2
  clear hb1 hb2
  go_wp2_with fail
  refine (HT1.out _).mono ?_
  rintro e w3 ⟨b, o, c, rfl, hV, hb3⟩
  have hv3 : Vw w (some ⟨b, o, none⟩) [(0, 0, bstr [])] w3 := ⟨hV, bj hw2 hb3⟩
  clear hV hb3 hw2
  go_wp2_with fail
  refine (works_any _).mono ?_
  rintro e w4 ⟨rfl, hb4⟩
  have hv4 := vw_step hv3 hb4
  have hcs : w4.cell? ⟨b, o, none⟩ = some (.int .u8 0) ∧ w4.cell? ⟨b, o + 1, none⟩ = some (.int .i64 0) ∧ w4.cell? ⟨b, o + 2, none⟩ = some (.string ⟨#[]⟩) := by
    obtain ⟨b', o', he, _, hc⟩ := vals_get hv4.1 (by simp)
    simp only [Option.some.injEq, Addr.mk.injEq, and_true] at he
    obtain ⟨rfl, rfl⟩ := he
    exact hc 0 (0, 0, bstr []) rfl
  obtain ⟨c0, c1, c2⟩ := hcs
  have HW4 := Lib.hid hv4.2
  clear hv3 hb4 hv4
  go_wp2
  go_loopw [57] (fun i wr => ∃ j : Nat, j ≤ 6 ∧ i = .int .i64 j ∧ Blk wr w4.heap.size 9 #[.string ⟨#[1, 0, 9]⟩, .string ⟨#[1]⟩, .string ⟨#[1, 4, 97, 98]⟩, .string ⟨#[]⟩, .string ⟨#[17]⟩, .string ⟨#[1, 255, 255, 255, 255, 255, 255, 255, 255, 255]⟩] ∧ Below w.heap.size w wr) (fun i _ => 6 - (intOf i).toNat)
  case atStart => exact ⟨0, by omega, rfl, Blk.new _ _ _, HW4.out.alloc HW4.out.size _⟩
  case round =>
    obtain ⟨j, hj, rfl, hB, hbr⟩ := hrel
    by_cases hj6 : j < 6
    · have hc : wr.cell? ⟨w4.heap.size, j, none⟩ = some (.string (badS[j]'hj6)) := by
        rw [hB.cell]
        match j, hj6 with
        | 0, _ => rfl
        | 1, _ => rfl
        | 2, _ => rfl
        | 3, _ => rfl
        | 4, _ => rfl
        | 5, _ => rfl
      have hbd := HBAD.out j hj6
      generalize badS[j]'hj6 = bs at *
      have hjI : (j : Int) < 6 := by omega
      have HBD := Lib.hid hbd
      have HB := Lib.hid hB
      have HBR := Lib.hid hbr
      clear hbd hB hbr
      go_wp2_with fail
      refine (HBD.out _).mono ?_
      rintro e w5 ⟨A5, c5, rfl, hb5⟩
      go_wp2
      go_roundw
      case rel => exact ⟨j + 1, by omega, by go_num, blk_step HB.out hb5, bj HBR.out hb5⟩
      case measure => simp [intOf]; omega
    · obtain rfl : j = 6 := by omega
      clear hB HW4 c0 c1 c2
      go_wp2_with fail
      refine (HREP.out _).mono ?_
      rintro e w5 ⟨rfl, hb5⟩
      go_wp2_with fail
      refine (HTX.out _).mono ?_
      rintro e w6 ⟨rfl, hb6⟩
      have hk6 := kl_new LS (bj (bj hbr hb5) hb6)
      clear hb5 hb6 hbr
      have hmk6 := HMK.out (w6.alloc (.cells #[.int .u8 2, .int .i64 0, .string LS] 26))
      have hr7 : RowB ((w6.alloc (.cells #[.int .u8 2, .int .i64 0, .string LS] 26)).alloc (.cells (madeCells #[.int .u8 0, .int .i64 0, .string ⟨#[]⟩] (17 * 3)) 26)) (w6.heap.size + 1) (List.replicate 17 zeroV) := by
        have h := rowB_new (w6.alloc (.cells #[.int .u8 2, .int .i64 0, .string LS] 26)) 17
        simpa using h
      have hk7 := kl_step hk6 ((Below.refl _ _).alloc (Nat.le_refl _) (.cells (madeCells #[.int .u8 0, .int .i64 0, .string ⟨#[]⟩] (17 * 3)) 26))
      have HR7 := Lib.hid hr7
      have HK7 := Lib.hid hk7
      clear hk6 hr7 hk7
      go_wp2_with fail
      clear hmk6
      refine (HP17.out _ _ HR7.out).mono ?_
      rintro e w8 ⟨rfl, hb8⟩
      have hk8 := kl_step HK7.out hb8
      obtain ⟨d0, d1, d2⟩ := klS hk8
      clear hb8
      go_wp2_with fail
      refine (HP4.out _ _ (blk_new _ _ _ _ rfl)).mono ?_
      rintro e w9 ⟨rfl, hb9⟩
      have hk9 := kl_step hk8 (bja _ (Below.refl _ _) hb9)
      clear d0 d1 d2 hk8 hb9
      obtain ⟨d0, d1, d2⟩ := klS hk9
      go_wp2_with fail
      refine (HS4.out _ _ (blk_new _ _ _ _ rfl)).mono ?_
      rintro e w10 ⟨rfl, hb10⟩
      have hk10 := kl_step hk9 (bja _ (Below.refl _ _) hb10)
      clear d0 d1 d2 hk9 hb10
      have hmk10 := HMK.out w10
      have HR10 := Lib.hid (rowB_new w10 17)
      have HK10 := Lib.hid hk10
      clear hk10
      go_wp2_with fail
      clear hmk10
      refine (HS17.out _ _ HR10.out).mono ?_
      rintro e w11 ⟨rfl, hb11⟩
      have HB11 := Lib.hid (bj HK10.out.2 (bja _ (Below.refl _ _) hb11))
      clear hb11
      go_wp2
      go_ret
      exact ⟨rfl, HB11.out⟩
end Go.Proofs.Ytnnadlbimhnikaa
