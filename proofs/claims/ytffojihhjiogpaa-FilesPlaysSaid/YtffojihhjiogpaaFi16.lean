/- Layer 3: files.copied. Conditions: those of each lemma. -/
import Derived.Test.YtffojihhjiogpaaFi15
namespace Go.Proofs.Ytffojihhjiogpaa
open Go.RowKit Go Go.Maps
set_option linter.unusedVariables false
set_option linter.unusedSimpArgs false
def flCell (fl : Nat → Fl) (M : Nat → Option Nat) (j : Nat) : Value := if j % 2 = 0 then .int .i64 ((fl (j / 2)).length : Nat) else .map (M (j / 2))
def flL (fl : Nat → Fl) (M : Nat → Option Nat) : List Value := (List.range 16).map (flCell fl M)
theorem flL_get (fl : Nat → Fl) (M : Nat → Option Nat) {j : Nat} (h : j < 16) : (flL fl M)[j]? = some (flCell fl M j) := by simp [flL, h]
theorem flL_length (fl : Nat → Fl) (M : Nat → Option Nat) : (flL fl M).length = 16 := by simp [flL]
theorem flL_one (fl : Nat → Fl) (M : Nat → Option Nat) : ∀ v ∈ flL fl M, v.oneCell' = true := fun v hv => by
  obtain ⟨j, _, rfl⟩ := List.mem_map.1 hv
  unfold flCell
  split <;> rfl
def updM (M : Nat → Option Nat) (i : Nat) (b : Option Nat) (k : Nat) : Option Nat := if k = i then b else M k
theorem updM_same (M : Nat → Option Nat) (i : Nat) (b : Option Nat) : updM M i b i = b := if_pos rfl
theorem updM_other (M : Nat → Option Nat) {i k : Nat} (b : Option Nat) (h : k ≠ i) : updM M i b k = M k := if_neg h
theorem flL_set (fl : Nat → Fl) (M : Nat → Option Nat) (i : Nat) (b : Option Nat) (hi : i < 8) : (flL fl M).toArray.setIfInBounds (i * 2 + 1) (.map b) = (flL fl (updM M i b)).toArray := by
  rw [List.setIfInBounds_toArray]
  congr 1
  apply List.ext_getElem?
  intro k
  rw [List.getElem?_set, flL_length]
  by_cases hk : k < 16
  · rw [flL_get _ _ hk, flL_get _ _ hk]
    by_cases e : i * 2 + 1 = k
    · subst e
      rw [if_pos rfl, if_pos hk]
      unfold flCell
      rw [if_neg (by omega), show (i * 2 + 1) / 2 = i by omega, updM_same]
    · rw [if_neg e]
      unfold flCell
      by_cases h2 : k % 2 = 0
      · rw [if_pos h2, if_pos h2]
      · rw [if_neg h2, if_neg h2, updM_other _ _ (by omega)]
  · rw [if_neg (by omega), List.getElem?_eq_none (by rw [flL_length]; omega), List.getElem?_eq_none (by rw [flL_length]; omega)]
theorem flL_congr {fl : Nat → Fl} {M M' : Nat → Option Nat} (h : ∀ k, k < 8 → M k = M' k) : flL fl M = flL fl M' := by
  unfold flL
  apply List.map_congr_left
  intro j hj
  have := List.mem_range.1 hj
  unfold flCell
  split
  · rfl
  · rw [h _ (by omega)]
/-- what copied leaves: files that stand like these, in blocks from B on -/
structure Cp (B : Nat) (fl : Nat → Fl) (M : Nat → Option Nat) (n : Nat) (W : World) : Prop where
  fl : ∀ k, k < n → FL W (M k) (fl k)
  new : ∀ k, k < n → ∀ b, M k = some b → B ≤ b
  ap : ∀ k j, k < n → j < n → k ≠ j → ∀ b, M k = some b → M j ≠ some b
theorem cp_step {B : Nat} {fl : Nat → Fl} {M : Nat → Option Nat} {n : Nat} {W W' : World} (h : Cp B fl M n W) (hb : Below W.heap.size W W') : Cp B fl M n W' :=
  ⟨fun k hk => fm_keep (h.fl k hk) (fun b e => hb.block b (by have := h.fl k hk; rw [e] at this; exact fm_lt this)), h.new, h.ap⟩
theorem cp_snoc {B : Nat} {fl : Nat → Fl} {M : Nat → Option Nat} {n : Nat} {W W' : World} (h : Cp B fl M n W) (hb : Below W.heap.size W W') (m' : Option Nat) (hfl : FL W' m' (fl n)) (hnew : ∀ b, m' = some b → W.heap.size ≤ b) (hB : B ≤ W.heap.size) :
    Cp B fl (updM M n m') (n + 1) W' := by
  have hlt : ∀ k, k < n → ∀ b, M k = some b → b < W.heap.size := fun k hk b e => by have := h.fl k hk; rw [e] at this; exact fm_lt this
  have h2 := cp_step h hb
  refine ⟨fun k hk => ?_, fun k hk b hb => ?_, fun k j hk hj hkj b hb2 => ?_⟩
  · by_cases e : k = n
    · subst e; rw [updM_same]; exact hfl
    · rw [updM_other _ _ e]; exact h2.fl k (by omega)
  · by_cases e : k = n
    · subst e; rw [updM_same] at hb; exact Nat.le_trans hB (hnew b hb)
    · rw [updM_other _ _ e] at hb; exact h2.new k (by omega) b hb
  · by_cases e : k = n
    · subst e
      rw [updM_same] at hb2
      rw [updM_other _ _ (fun e => hkj e.symm)]
      intro h3
      have := hnew b hb2
      have := hlt j (by omega) b h3
      omega
    · rw [updM_other _ _ e] at hb2
      by_cases e2 : j = n
      · subst e2
        rw [updM_same]
        intro h3
        have := hnew b h3
        have := hlt k (by omega) b hb2
        omega
      · rw [updM_other _ _ e2]; exact h2.ap k j (by omega) (by omega) hkj b hb2
theorem cp_more {B n : Nat} {fl : Nat → Fl} {M M' : Nat → Option Nat} {W : World} (h : Cp B fl M n W) (he : ∀ k, k < n → M' k = M k) : Cp B fl M' n W :=
  ⟨fun k hk => by rw [he k hk]; exact h.fl k hk, fun k hk b hb => h.new k hk b (by rw [← he k hk]; exact hb), fun k j hk hj hkj b hb => by rw [he j hj]; exact h.ap k j hk hj hkj b (by rw [← he k hk]; exact hb)⟩
set_option maxRecDepth 100000 in
set_option maxHeartbeats 4000000 in
theorem copied_any (fl : Nat → Fl) (M : Nat → Option Nat) (w : World) (hfl : ∀ k, k < 8 → FL w (M k) (fl k)) :
    Calls Try.prog 47 #[.agg (flL fl M).toArray] w fun e w' => ∃ M', e = .returned (.agg (flL fl M').toArray) ∧ Cp w.heap.size fl M' 8 w' ∧ Below w.heap.size w w' := by
  have hx0 := Blk.new w 67 (flL fl M).toArray
  have HFL := Lib.hid hfl
  clear hfl
  go_enter Try.func47, Try.ntmps47
  go_wp2
  go_loopw [4] (fun v wr => ∃ (i : Nat) (M' : Nat → Option Nat), i ≤ 8 ∧ v = .int .i64 i ∧ Blk wr w.heap.size 67 (flL fl M').toArray ∧ (∀ k, i ≤ k → M' k = M k) ∧ Cp (w.heap.size + 2) fl M' i wr ∧ Below w.heap.size w wr ∧ (∃ cur, Blk wr (w.heap.size + 1) 67 cur ∧ cur.size = 16) ∧ w.heap.size + 2 ≤ wr.heap.size) (fun v _ => 8 - (intOf v).toNat)
  case atStart =>
    refine ⟨0, M, by omega, rfl, (Blk.new w 67 (flL fl M).toArray).alloc _, fun _ _ => rfl, ⟨fun k hk => absurd hk (Nat.not_lt_zero k), fun k hk => absurd hk (Nat.not_lt_zero k), fun k j hk => absurd hk (Nat.not_lt_zero k)⟩, bj one_alloc one_alloc, ⟨_, blk_new _ _ _ _ (by simp), rfl⟩, by simp⟩
  case round =>
    clear hx0
    obtain ⟨i, M', hi, rfl, hblk, hM, hcp, hb, ⟨cur, hcur, hcs⟩, hsz⟩ := hrel
    by_cases hlt : i < 8
    · have y1 : wr.cell? ⟨w.heap.size, i * 2 + 1, none⟩ = some (.map (M i)) := by
        rw [hblk.cell, List.getElem?_toArray, flL_get _ _ (by omega)]
        unfold flCell
        rw [if_neg (by omega), show (i * 2 + 1) / 2 = i by omega, hM i (Nat.le_refl _)]
      have hfl2 : FL wr (M i) (fl i) := fm_keep (HFL.out i hlt) (fun b e => hb.block b (by have := HFL.out i hlt; rw [e] at this; exact fm_lt this))
      have HCL := Lib.hid (mclone_sec hfl2)
      have HBK := Lib.hid hblk
      have HMM := Lib.hid hM
      have HCP := Lib.hid hcp
      have HB := Lib.hid hb
      have HCU := Lib.hid (And.intro hcur hcs)
      have HSZ := Lib.hid hsz
      have iI : (i : Int) < 8 := by omega
      clear hblk hM hcp hb hcur hcs hfl2 hsz
      go_wp2_with fail
      refine (HCL.out).mono ?_
      rintro e w2 ⟨m', rfl, hfl3, hnew, hb2⟩
      have hb2k : Blk w2 w.heap.size 67 (flL fl M').toArray := blk_step HBK.out hb2
      have z1 : w2.cell? ⟨w.heap.size, i * 2 + 1, none⟩ = some (.map (M i)) := by rw [World.cell?_of_block (hb2.block w.heap.size HBK.out.lt)]; exact y1
      have z2 : w2.frozen? ⟨w.heap.size, i * 2 + 1, none⟩ = false := hb2k.frozen _
      have hbe : ∀ b, m' = some b → b ≠ w.heap.size := fun b e => by have := hnew b e; have := HSZ.out; omega
      have HEND := Lib.hid (show Blk (w2.setCell ⟨w.heap.size, i * 2 + 1, none⟩ (.map m')) w.heap.size 67 (flL fl (updM M' i m')).toArray ∧ (∀ k, i + 1 ≤ k → updM M' i m' k = M k) ∧ Cp (w.heap.size + 2) fl (updM M' i m') (i + 1) (w2.setCell ⟨w.heap.size, i * 2 + 1, none⟩ (.map m')) ∧ Below w.heap.size w (w2.setCell ⟨w.heap.size, i * 2 + 1, none⟩ (.map m')) ∧ (∃ cur, Blk (w2.setCell ⟨w.heap.size, i * 2 + 1, none⟩ (.map m')) (w.heap.size + 1) 67 cur ∧ cur.size = 16) ∧ w.heap.size + 2 ≤ (w2.setCell ⟨w.heap.size, i * 2 + 1, none⟩ (.map m')).heap.size by
        have hc2 := cp_snoc HCP.out hb2 m' hfl3 hnew HSZ.out
        refine ⟨by rw [← flL_set fl M' i m' hlt]; exact hb2k.set_ _ _, fun k hk => by rw [updM_other _ _ (by omega)]; exact HMM.out k (by omega), ?_, (bj HB.out hb2).setCell (Nat.le_refl _) _, ⟨cur, (blk_step HCU.out.1 hb2).far (p := ⟨w.heap.size, i * 2 + 1, none⟩) (by show w.heap.size + 1 ≠ w.heap.size; omega) _, HCU.out.2⟩, by simp [World.setCell]; exact Nat.le_trans HSZ.out hb2.size⟩
        exact ⟨fun k hk => fm_keep (hc2.fl k hk) (fun b e => Below.heap_setCell _ _ _ _ (fun e2 => by have := hc2.new k hk b e; simp at e2; omega)), hc2.new, hc2.ap⟩)
      clear hfl3 hnew hb2 hb2k y1 hbe
      go_wp2
      go_roundw
      case rel => exact ⟨i + 1, updM M' i m', by omega, by go_num, HEND.out.1, HEND.out.2.1, HEND.out.2.2.1, HEND.out.2.2.2.1, HEND.out.2.2.2.2.1, HEND.out.2.2.2.2.2⟩
      case measure => simp [intOf]; omega
    · obtain rfl : i = 8 := by omega
      have hr1 : wr.rangeAt w.heap.size 0 (flL fl M') := fun k v hv => by rw [hblk.cell, Nat.zero_add]; simpa using hv
      have hu := Try.underlying67
      have hs16 : (Try.prog.info? 67).map (·.size) = some (flL fl M').length := by rw [flL_length]; kernel_rfl
      have hth : wr.there (w.heap.size + 1) 0 16 := fun k hk => ⟨by rw [hcur.cell, Nat.zero_add, Array.getElem?_eq_getElem (by omega)]; rfl, hcur.frozen _⟩
      have hs16a : (Try.prog.info? 67).map (·.size) = some (flL fl M').toArray.size := by rw [List.size_toArray, flL_length]; kernel_rfl
      obtain ⟨cur', k1, k2, k3, k4⟩ := blk_setCells (t := 67) (flL fl M') 0 wr cur hcur (by rw [flL_length]; omega)
      have hc' : cur' = (flL fl M').toArray := by
        apply Array.ext_getElem?
        intro k
        by_cases hk : k < 16
        · have := k4 k (by rw [flL_length]; exact hk)
          rw [Nat.zero_add] at this
          rw [this, List.getElem?_toArray]
        · rw [Array.getElem?_eq_none (by omega), Array.getElem?_eq_none (by rw [List.size_toArray, flL_length]; omega)]
      rw [hc'] at k1
      have hf := fr_setCells (b := w.heap.size + 1) (flL fl M') 0 wr
      have HEND := Lib.hid (show Blk (wr.setCells (w.heap.size + 1) 0 (flL fl M').toArray.toList) (w.heap.size + 1) 67 (flL fl M').toArray ∧ Cp w.heap.size fl M' 8 (wr.setCells (w.heap.size + 1) 0 (flL fl M').toArray.toList) ∧ Below w.heap.size w (wr.setCells (w.heap.size + 1) 0 (flL fl M').toArray.toList) from
        ⟨k1, ⟨fun k hk => fm_keep (hcp.fl k hk) (fun b e => hf.block b (by have := hcp.fl k hk; rw [e] at this; exact fm_lt this) (fun e2 => by have := hcp.new k hk b e; omega)), fun k hk b e => by have := hcp.new k hk b e; omega, hcp.ap⟩, hb.trans (fr_below hf (fun k hk => by omega) (by omega))⟩)
      have hst : (storeCells ⟨w.heap.size + 1, 0, none⟩ (flL fl M')).run Try.prog wr = .ok () (wr.setCells (w.heap.size + 1) 0 (flL fl M')) := by
        have := run_storeCells_cells (P := Try.prog) (w.heap.size + 1) 0 (flL fl M') 0 wr (fun j hj => by have := (hth j (by rw [flL_length] at hj; exact hj)).1; simpa using this) (fun j hj => by have := (hth j (by rw [flL_length] at hj; exact hj)).2; simpa using this) (fun v hv => flL_one _ _ v hv)
        simpa using this
      have hl16 := flL_length fl M'
      clear hblk hM hcp hb hcur hcs k1 k2 k3 k4 hc' hf hth
      go_wp2_with (first | (refine wpList_load_mid rfl 67 (.tmp 1) rfl w.heap.size 0 rfl (flL fl M') _ hr1 hu rfl hs16 ?_))
      refine bodyPost_ret (v := .agg (flL fl M').toArray) ?hres rfl ?hpost
      case hres => exact results_cell_row (p := 2) (ty := 67) (by kernel_rfl) _ _ (w.heap.size + 1) 67 _ (0, 0) _ rfl HEND.out.1 hu rfl hs16a
      case hpost => exact ⟨M', rfl, HEND.out.2.1, HEND.out.2.2⟩
end Go.Proofs.Ytffojihhjiogpaa
