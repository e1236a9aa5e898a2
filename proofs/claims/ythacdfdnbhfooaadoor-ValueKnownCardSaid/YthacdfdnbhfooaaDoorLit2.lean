/- value.Literal. Conditions: the numbers fit their kinds; the laid variables hold what they should. -/
import Derived.Test.YthacdfdnbhfooaaDoorLit1
namespace Go.Proofs.YthacdfdnbhfooaaDoor
open Go.RowKit
set_option linter.unusedVariables false
theorem chk_ne7 {x : Val} (h : chk x ≠ 0) : (chk x != 0) = true := by rw [bne_iff_ne]; exact h
theorem blk3 {W : World} {g : Nat} {k q : Int} {s : ByteArray} (h : Blk W g 24 #[.int .u8 k, .int .i64 q, .string s]) : W.cell? ⟨g, 0, none⟩ = some (.int .u8 k) ∧ W.cell? ⟨g, 1, none⟩ = some (.int .i64 q) ∧ W.cell? ⟨g, 2, none⟩ = some (.string s) := ⟨h.cell 0, h.cell 1, h.cell 2⟩
set_option maxRecDepth 100000 in
set_option maxHeartbeats 4000000 in
theorem lit_bad (p q : Int) (s : ByteArray) (w : World) (hf : Fits (p, q, s)) (hc : chk (p, q, s) ≠ 0) :
    Calls Tryd.prog 10 #[valV (p, q, s)] w fun e w' => e = .returned (.string ⟨#[]⟩) ∧ Below w.heap.size w w' := by
  have hck := fun W => check_any (p, q, s) W hf
  have hz' := chk_ne7 hc
  generalize chk (p, q, s) = E at *
  have HCK := Lib.hid hck
  clear hck hc hf
  go_enter Tryd.func10, Tryd.ntmps10
  go_wp2_with fail
  refine (HCK.out _).mono ?_
  rintro e w1 ⟨rfl, hb1⟩
  go_wp2
  go_ret
  exact ⟨rfl, bja _ (Below.refl _ _) hb1⟩
theorem check0 {x : Val} (hf : Fits x) (hc : chk x = 0) (W : World) : Calls Tryd.prog 23 #[valV x] W fun e w' => e = .returned (.int .i64 0) ∧ Below W.heap.size W w' := by
  have h := check_any x W hf
  rw [hc] at h
  exact h
theorem chk_z1 (q : Int) : chk (1, q, ⟨#[]⟩) = 0 := by
  have e : (⟨#[]⟩ : ByteArray).size = 0 := rfl
  unfold chk
  rw [if_neg (by simp only; omega), if_neg (by simp only; omega)]
theorem chk_z23 {k : Int} {s : ByteArray} (hk : k = 2 ∨ k = 3) (hs : s.size ≤ 1000) : chk (k, 0, s) = 0 := by
  unfold chk
  rw [if_neg (by simp only; omega), if_neg (by simp only; omega)]
theorem fits_z23 {k : Int} {s : ByteArray} (hk : k = 2 ∨ k = 3) : Fits (k, 0, s) := ⟨by simp only; omega, by simp only; omega, by simp, by simp⟩
/-- behind the check: the value stands, the builder is new -/
theorem lit_at {w w1 : World} {p q : Int} {s : ByteArray} (hb1 : Below (w.alloc (.cells #[.int .u8 p, .int .i64 q, .string s] 24)).heap.size (w.alloc (.cells #[.int .u8 p, .int .i64 q, .string s] 24)) w1) :
    Blk (w1.alloc (.cells #[.pointer none, .slice none 0 0] 45)) w.heap.size 24 #[.int .u8 p, .int .i64 q, .string s] ∧ Ob w w1.heap.size [] (w1.alloc (.cells #[.pointer none, .slice none 0 0] 45)) :=
  ⟨(blk_at hb1).alloc _, ob_new (bja _ (Below.refl _ _) hb1)⟩
set_option maxRecDepth 100000 in
set_option maxHeartbeats 4000000 in
theorem lit_0 (w : World) :
    Calls Tryd.prog 10 #[valV (0, 0, ⟨#[]⟩)] w fun e w' => e = .returned (.string (bstr nulL)) ∧ Below w.heap.size w w' := by
  have HCK := Lib.hid (check0 (x := (0, 0, ⟨#[]⟩)) ⟨by simp, by simp, by simp, by simp⟩ (by decide))
  go_enter Tryd.func10, Tryd.ntmps10
  go_wp2_with fail
  refine (HCK.out _).mono ?_
  rintro e w1 ⟨rfl, hb1⟩
  obtain ⟨hv, ho⟩ := lit_at hb1
  obtain ⟨d1, d2, d3⟩ := blk3 hv
  have HB := Lib.hid ho.2
  clear hv ho hb1
  go_wp2
  go_ret
  exact ⟨rfl, HB.out⟩
set_option maxRecDepth 100000 in
set_option maxHeartbeats 4000000 in
theorem lit_1 (q : Int) (w : World) (hG : Gl w) (h0 : -9223372036854775808 ≤ q) (h1 : q ≤ 9223372036854775807) :
    Calls Tryd.prog 10 #[valV (1, q, ⟨#[]⟩)] w fun e w' => e = .returned (.string (bstr (itoL q))) ∧ Below w.heap.size w w' := by
  have HCK := Lib.hid (check0 (x := (1, q, ⟨#[]⟩)) ⟨by simp, by simp, h0, h1⟩ (chk_z1 q))
  have HFM := Lib.hid (fun W (hb : Below w.heap.size w W) => fmt_any q W (gl_below hG hb) h0 h1)
  generalize bstr (itoL q) = R at *
  clear hG h0 h1
  go_enter Tryd.func10, Tryd.ntmps10
  go_wp2_with fail
  refine (HCK.out _).mono ?_
  rintro e w1 ⟨rfl, hb1⟩
  obtain ⟨hv, ho⟩ := lit_at hb1
  obtain ⟨d1, d2, d3⟩ := blk3 hv
  have HB := Lib.hid ho.2
  clear hv ho hb1
  go_wp2_with fail
  refine (HFM.out _ HB.out).mono ?_
  rintro e w2 ⟨rfl, hb2⟩
  go_wp2
  go_ret
  exact ⟨rfl, bj HB.out hb2⟩
set_option maxRecDepth 100000 in
set_option maxHeartbeats 4000000 in
theorem lit_2 (s : ByteArray) (w : World) (hG : Gl w) (hs : s.size ≤ 1000) :
    Calls Tryd.prog 10 #[valV (2, 0, s)] w fun e w' => e = .returned (.string (bstr (39 :: (dqL (bts s) ++ [39])))) ∧ Below w.heap.size w w' := by
  have HCK := Lib.hid (check0 (x := (2, 0, s)) (fits_z23 (by omega)) (chk_z23 (by omega) hs))
  have hdq := fun W (hb : Below w.heap.size w W) => dq_any s W (gl_below hG hb) hs
  have HR := Lib.hid (show bstr ((([] ++ [(39 : Int).toNat]) ++ bts (bstr (dqL (bts s)))) ++ [(39 : Int).toNat]) = bstr (39 :: (dqL (bts s) ++ [39])) by
    rw [bts_bstr _ (dqL_lt (bts_lt s))]; simp)
  have hl : (bstr (dqL (bts s))).size ≤ 2000 := by
    have := (dqL_le (bts s)).2
    rw [bts_length] at this
    rw [bstr_size]; omega
  generalize bstr (dqL (bts s)) = X at *
  have hq1 := fun W b (h : Ob w b [] W) => ob_wb 39 h (by omega) (by omega) (by simp)
  have hws := fun W b (h : Ob w b ([] ++ [(39 : Int).toNat]) W) => ob_ws X h (by simp; omega)
  have hq2 := fun W b (h : Ob w b (([] ++ [(39 : Int).toNat]) ++ bts X) W) => ob_wb 39 h (by omega) (by omega) (by rw [List.length_append, bts_length]; simp; omega)
  have HDQ := Lib.hid hdq
  have HQ1 := Lib.hid hq1
  have HWS := Lib.hid hws
  have HQ2 := Lib.hid hq2
  clear hG hdq hq1 hws hq2 hl
  go_enter Tryd.func10, Tryd.ntmps10
  go_wp2_with fail
  refine (HCK.out _).mono ?_
  rintro e w1 ⟨rfl, hb1⟩
  obtain ⟨hv, ho⟩ := lit_at hb1
  obtain ⟨d1, d2, d3⟩ := blk3 hv
  have HV := Lib.hid hv
  have HO := Lib.hid ho
  clear hv ho hb1
  go_wp2_with fail
  refine (HQ1.out _ _ HO.out).mono ?_
  rintro e w2 ⟨rfl, ho2, hoth⟩
  obtain ⟨e1, e2, e3⟩ := blk3 (hoth _ _ _ (by decide) (by decide) HV.out)
  have HO2 := Lib.hid ho2
  clear ho2 hoth
  go_wp2_with fail
  refine (HDQ.out _ HO2.out.2).mono ?_
  rintro e w3 ⟨rfl, hb3⟩
  have HO3 := Lib.hid (ob_step HO2.out hb3)
  clear hb3
  go_wp2_with fail
  refine (HWS.out _ _ HO3.out).mono ?_
  rintro e w4 ⟨rfl, ho4, hoth⟩
  have HO4 := Lib.hid ho4
  clear ho4 hoth
  go_wp2_with fail
  refine (HQ2.out _ _ HO4.out).mono ?_
  rintro e w5 ⟨rfl, ho5, hoth⟩
  have HO5 := Lib.hid ho5
  clear ho5 hoth
  go_wp2_with fail
  refine (ob_str HO5.out).mono ?_
  rintro e w6 ⟨rfl, hb6⟩
  go_wp2
  go_ret
  exact ⟨rstr HR.out, hb6⟩
theorem hexL_app (a b : List Nat) : hexL (a ++ b) = hexL a ++ hexL b := by
  induction a with
  | nil => rfl
  | cons c r ih => simp [hexL, ih]
def hexS : ByteArray := ⟨#[48, 49, 50, 51, 52, 53, 54, 55, 56, 57, 97, 98, 99, 100, 101, 102]⟩
theorem hex_get (k : Nat) (h : k < 16) (h' : k < (⟨#[48, 49, 50, 51, 52, 53, 54, 55, 56, 57, 97, 98, 99, 100, 101, 102]⟩ : ByteArray).size) : ((⟨#[48, 49, 50, 51, 52, 53, 54, 55, 56, 57, 97, 98, 99, 100, 101, 102]⟩ : ByteArray)[k]'h').toNat = hexc k := by
  rcases k with _ | _ | _ | _ | _ | _ | _ | _ | _ | _ | _ | _ | _ | _ | _ | _ | n
  all_goals first | (exfalso; omega) | rfl
set_option maxRecDepth 100000 in
set_option maxHeartbeats 4000000 in
theorem lit_3 (s : ByteArray) (w : World) (hs : s.size ≤ 1000) :
    Calls Tryd.prog 10 #[valV (3, 0, s)] w fun e w' => e = .returned (.string (bstr (120 :: 39 :: (hexL (bts s) ++ [39])))) ∧ Below w.heap.size w w' := by
  have HCK := Lib.hid (check0 (x := (3, 0, s)) (fits_z23 (by omega)) (chk_z23 (by omega) hs))
  have hws := fun W b (h : Ob w b [] W) => ob_ws ⟨#[120, 39]⟩ h (by have : (⟨#[120, 39]⟩ : ByteArray).size = 2 := rfl; simp; omega)
  have HWS := Lib.hid hws
  have hsI : (s.size : Int) ≤ 1000 := by omega
  clear hws
  go_enter Tryd.func10, Tryd.ntmps10
  go_wp2_with fail
  refine (HCK.out _).mono ?_
  rintro e w1 ⟨rfl, hb1⟩
  obtain ⟨hv, ho⟩ := lit_at hb1
  obtain ⟨d1, d2, d3⟩ := blk3 hv
  have HV := Lib.hid hv
  have HO := Lib.hid ho
  clear hv ho hb1
  go_wp2_with fail
  refine (HWS.out _ _ HO.out).mono ?_
  rintro e w2 ⟨rfl, ho2, hoth⟩
  obtain ⟨e1, e2, e3⟩ := blk3 (hoth _ _ _ (by decide) (by decide) HV.out)
  have HO2 := Lib.hid ho2
  have hcv := Lib.run_convert_string_bytes (P := Tryd.prog) w2 9 43 5 s (u := .string) Tryd.underlying9 Tryd.underlying43 Tryd.underlying5
  have HX := Lib.hid (obx_new s ho2)
  have HC := Lib.hid (fun L W (h : Obx w w1.heap.size L w2.heap.size (.cells (Lib.bytesCells w2 5 s) 5 ((Lib.bytesCells w2 5 s).size, (Lib.bytesCells w2 5 s).size + 1)) W) => obx_cell rfl h)
  generalize grownCap w2 s.size 0 5 = cap at *
  generalize Lib.bytesWorld w2 5 s = W3 at *
  generalize (Obj.cells (Lib.bytesCells w2 5 s) 5 ((Lib.bytesCells w2 5 s).size, (Lib.bytesCells w2 5 s).size + 1)) = O at *
  clear ho2 hoth
  go_wp2_with fail
  generalize w1.heap.size = gb at *
  generalize w2.heap.size = g2 at *
  clear hcv e1 e2 e3 d1 d2 d3 HV HO HO2
  go_loopw [32] (fun i W => ∃ j : Nat, j ≤ s.size ∧ i = .int .i64 j ∧ Obx w gb (120 :: 39 :: hexL ((bts s).take j)) g2 O W) (fun i _ => s.size - (intOf i).toNat)
  case atStart => exact ⟨0, by omega, rfl, HX.out⟩
  case round =>
    clear HX
    obtain ⟨j, hj, rfl, hx⟩ := hrel
    have hlen : (120 :: 39 :: hexL ((bts s).take j)).length ≤ 2002 := by
      have h1 := hexL_len ((bts s).take j)
      rw [List.length_take] at h1
      simp; omega
    by_cases hjn : j < s.size
    · have hc0 := HC.out _ _ hx j hjn
      have h256 := bts_getD_lt s j
      have htk : hexL ((bts s).take (j + 1)) = hexL ((bts s).take j) ++ [hexc ((bts s).getD j 0 / 16), hexc ((bts s).getD j 0 % 16)] := by
        rw [List.take_succ_eq_append_getElem (by rw [bts_length]; exact hjn), List.getD_eq_getElem?_getD, List.getElem?_eq_getElem (by rw [bts_length]; exact hjn), hexL_app]; rfl
      generalize (bts s).getD j 0 = c at *
      have hwb := fun (x : Nat) L W (hx : x < 256) (hl : L.length ≤ 5000) (h : Obx w gb L g2 O W) => obx_wb (x : Int) h (by omega) (by omega) (by omega)
      have HWB := Lib.hid hwb
      have jI0 : (0 : Int) ≤ j := by omega
      have jI1 : (j : Int) < s.size := by omega
      have HXX := Lib.hid hx
      have HL := Lib.hid hlen
      have HK := Lib.hid htk
      clear hx hlen htk hwb
      go_wp2_with fail
      refine (HWB.out _ _ _ (by rw [hex_get _ (by omega)]; unfold hexc; split <;> omega) (by have := HL.out; omega) HXX.out).mono ?_
      rintro e w4 ⟨rfl, hx4, hoth⟩
      have HX4 := Lib.hid hx4
      clear hx4 hoth
      go_wp2_with fail
      refine (HWB.out _ _ _ (by rw [hex_get _ (by omega)]; unfold hexc; split <;> omega) (by have := HL.out; rw [List.length_append]; simp only [List.length_cons, List.length_nil] at this ⊢; omega) HX4.out).mono ?_
      rintro e w5 ⟨rfl, hx5, hoth⟩
      have HX5 := Lib.hid hx5
      clear hx5 hoth
      go_wp2
      go_roundw
      case rel =>
        refine ⟨j + 1, by omega, by go_num, ?_⟩
        have h5 := HX5.out
        rw [Int.toNat_natCast, Int.toNat_natCast, hex_get _ (by omega), hex_get _ (by omega)] at h5
        rw [HK.out]
        simpa using h5
      case measure => simp [intOf]; omega
    · obtain rfl : j = s.size := by omega
      have hall : (bts s).take s.size = bts s := List.take_of_length_le (by rw [bts_length]; exact Nat.le_refl _)
      rw [hall] at hx hlen
      have ho := obx_ob hx
      have HO := Lib.hid ho
      have hq := ob_wb 39 ho (by omega) (by omega) (by omega)
      have HQ := Lib.hid hq
      clear hx hall ho hq hlen
      go_wp2_with fail
      refine (HQ.out).mono ?_
      rintro e w5 ⟨rfl, ho5, hoth⟩
      have HO5 := Lib.hid ho5
      clear ho5 hoth
      go_wp2_with fail
      refine (ob_str HO5.out).mono ?_
      rintro e w6 ⟨rfl, hb6⟩
      go_wp2
      go_ret
      exact ⟨by simp, hb6⟩
theorem lit_any (x : Val) (w : World) (hG : Gl w) (hf : Fits x) :
    Calls Tryd.prog 10 #[valV x] w fun e w' => e = .returned (.string (bstr (litL x))) ∧ Below w.heap.size w w' := by
  obtain ⟨p, q, s⟩ := x
  by_cases hc : chk (p, q, s) = 0
  · obtain ⟨k1, k2, k3, k4⟩ := chk_of hc
    obtain ⟨f1, f2, f3, f4⟩ := hf
    simp only at k1 k2 k3 k4 f1 f2 f3 f4
    unfold litL
    rw [if_neg (by rw [hc]; simp)]
    simp only
    by_cases p0 : p = 0
    · subst p0
      have e1 := k2 (by omega)
      have e2 := empty_of (k3 (by omega))
      subst e1 e2
      rw [if_pos rfl]
      exact lit_0 w
    · rw [if_neg p0]
      by_cases p1 : p = 1
      · subst p1
        have e2 := empty_of (k3 (by omega))
        subst e2
        rw [if_pos rfl]
        exact lit_1 q w hG f3 f4
      · rw [if_neg p1]
        have e1 := k2 p1
        subst e1
        by_cases p2 : p = 2
        · subst p2
          rw [if_pos rfl]
          exact lit_2 s w hG k4
        · obtain rfl : p = 3 := by omega
          rw [if_neg p2]
          exact lit_3 s w k4
  · have h := lit_bad p q s w hf hc
    unfold litL
    rw [if_pos hc]
    exact h
end Go.Proofs.YthacdfdnbhfooaaDoor
