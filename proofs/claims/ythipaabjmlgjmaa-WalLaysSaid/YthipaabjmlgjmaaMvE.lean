/- Layer 5: a Crash, and what it wants. Conditions: those of each lemma. -/
import Derived.Test.YthipaabjmlgjmaaMvD
namespace Go.Proofs.Ythipaabjmlgjmaa
open Go.RowKit Go Go.Maps
set_option linter.unusedVariables false
set_option linter.unusedSimpArgs false
theorem mclone_run {W : World} {b : Nat} {es : Array MapEntry} {clock : Nat} (hb : W.heap[b]? = some (.map es clock)) (t : TypeId) :
    (callFunc 79 #[.iface t (.map (some b))]).run Try.prog W = .ok (.value (.iface t (.map (some W.heap.size)))) (W.alloc (.map es clock)) := by
  rw [run_callFunc_extern (show Try.prog.funcs[79]? = some Try.f79 by kernel_rfl) (by kernel_rfl) (by kernel_rfl) (by kernel_rfl) (e := Extern.MapsClone.clone) (by kernel_rfl), run_maps_clone_sl W t hb]
  rfl
set_option maxRecDepth 100000 in
set_option maxHeartbeats 4000000 in
theorem mclone_sec {W : World} {m : Option Nat} {pres : Nat → Prop} {val : Nat → Sec} (h : FM W m pres val) :
    Calls Try.prog 78 #[.map m] W fun e w' => ∃ m', e = .returned (.map m') ∧ FM w' m' pres val ∧ (∀ b, m' = some b → W.heap.size ≤ b) ∧ Below W.heap.size W w' := by
  cases m with
  | none =>
    have hq := map_nil none
    go_enter Try.func78, Try.ntmps78
    go_wp2
    go_ret
    exact ⟨none, rfl, h, fun b hb => (by cases hb), Below.refl _ _⟩
  | some b =>
    obtain ⟨D, n, ⟨es, clock, hb, F, hs, hD⟩, hk⟩ := h
    have hq := map_nil (some b)
    have hcl := mclone_run hb 64
    have hta : ∀ W', (Instr.typeAssert (.iface 64 (.map (some W.heap.size))) 20 64 false).run Try.prog W' = .ok (.map (some W.heap.size)) W' := fun W' => run_typeAssert_map_sl W' 64 20 _ _ _ Try.underlying64
    have HE := Lib.hid (show FM (W.alloc (.map es clock)) (some W.heap.size) pres val from ⟨D, n, ⟨es, clock, (MapKept.heap_alloc W _).1, F, hs, hD⟩, hk⟩)
    clear hb F hs hD hk
    go_enter Try.func78, Try.ntmps78
    go_wp2
    go_ret
    exact ⟨some W.heap.size, rfl, HE.out, fun b hb => (by injection hb with hb; omega), one_alloc⟩
theorem map_nil_e (p : Option Nat) (w : World) : (binOp .eql 63 (.map p) (.map none)).run Try.prog w = .ok (.bool p.isNone) w := Go.Proofs.run_eql_map_nil_sl w 63 _ _ p Try.underlying63
set_option maxRecDepth 100000 in
set_option maxHeartbeats 4000000 in
theorem mclone_arm {W : World} {b n : Nat} {R : Value → Option (DataW Value × List MemPlace)} {D : DataW Value} (h : W.ownsMap Try.prog 3 R b n D) :
    Calls Try.prog 54 #[.map (some b)] W fun e w' => ∃ b', e = .returned (.map (some b')) ∧ w'.ownsMap Try.prog 3 R b' n D ∧ W.heap.size ≤ b' ∧ Below W.heap.size W w' := by
  obtain ⟨es, clock, hb, F, hs, hD⟩ := h
  have hq := map_nil_e (some b)
  have hcl := mclone_run hb 63
  have hta : ∀ W', (Instr.typeAssert (.iface 63 (.map (some W.heap.size))) 20 63 false).run Try.prog W' = .ok (.map (some W.heap.size)) W' := fun W' => run_typeAssert_map_sl W' 63 20 _ _ _ Try.underlying63
  have HE := Lib.hid (show (W.alloc (.map es clock)).ownsMap Try.prog 3 R W.heap.size n D from ⟨es, clock, (MapKept.heap_alloc W _).1, F, hs, hD⟩)
  clear hb F hs hD
  go_enter Try.func54, Try.ntmps54
  go_wp2
  go_ret
  exact ⟨W.heap.size, rfl, HE.out, Nat.le_refl _, one_alloc⟩
theorem own_base {w : World} {base e size n : Nat} {v : Value} {xs : List Value} (h : w.ownsRow base e size v n xs) : w.ownsRow 0 e size v n xs := by
  refine ⟨h.1, ?_⟩
  rcases h.2 with h1 | ⟨g, cap, cur, hv, _, rest⟩
  · exact .inl h1
  · exact .inr ⟨g, cap, cur, hv, Nat.zero_le _, rest⟩
theorem slice_nil (a : Option Addr) (n c : Nat) (w : World) : (binOp .eql 68 (.slice a n c) (.slice none 0 0)).run Try.prog w = .ok (.bool a.isNone) w := Lib.run_eql_slice_nil w _ _ a n c 0 0 Try.underlying68
set_option maxRecDepth 100000 in
set_option maxHeartbeats 4000000 in
theorem sclone_any {W : World} {A : Option Addr} {n c : Nat} {l : List Ch} (h : W.ownsRow 0 99 67 (.slice A n c) n (chsL l)) (hl : ∀ x ∈ l, ChOk x) (hn : n = l.length) (hn8 : n ≤ 8192000000) :
    Calls Try.prog 53 #[.slice A n c] W fun e w' => ∃ A' c', e = .returned (.slice A' n c') ∧ w'.ownsRow 0 99 67 (.slice A' n c') n (chsL l) ∧ (∀ z, (Value.slice A' n c').ownBlock = some z → W.heap.size ≤ z) ∧ Below W.heap.size W w' := by
  have hlen : ∀ x ∈ l, (chL x).length = 67 := fun x hx => chL_length (hl x hx)
  cases A with
  | none =>
    have h0 : n = 0 := by
      rcases h.2 with ⟨_, h1⟩ | ⟨g, cap, cur, hv, _⟩
      · exact h1
      · cases hv
    subst h0
    have hq := slice_nil none 0 c
    have HO := Lib.hid (show W.ownsRow 0 99 67 (.slice none 0 0) 0 (chsL l) by
      have : l = [] := List.eq_nil_of_length_eq_zero hn.symm
      subst this
      exact World.ownsRow_nil _ _ _ _)
    clear h hl hlen hn
    go_enter Try.func53, Try.ntmps53
    go_wp2
    go_ret
    exact ⟨none, 0, rfl, HO.out, fun z hz => (by cases hz), Below.refl _ _⟩
  | some a =>
    have hq := slice_nil (some a) n c
    obtain ⟨iv, hv1, hv2, hv3, hv4⟩ := info_parts ch_info
    have hm := World.ownsRow_made (base := W.heap.size) (e := 99) (size := 67) W #[] 0 (Nat.le_refl _) (Nat.zero_le _) (by simp)
    have hrd : Reads W W.heap.size 67 (some a) n (chsL l) := by
      have hrd := Reads.of_own h
      exact hrd
    have hrd2 := hrd.alloc (Nat.le_refl _) (.cells #[] 99)
    have HL := Lib.hid hl
    clear h hl hlen hn hrd
    go_enter Try.func53, Try.ntmps53
    go_wp2_with (at_builtin; refine wpList_append_any _ rfl (.tmp 5) (.tmp 6) 68 rfl W.heap.size 99 iv _ 67 88 Try.underlying68 hv1 hv2 hv3 hv4 (by kernel_rfl) (by omega) (.slice (some ⟨W.heap.size, 0, none⟩) 0 0) 0 [] rfl hm W.heap.size (some a) n c (chsL l) rfl hrd2 (chsL_one l) (by simp only [maxLen]; omega) (by omega) (by simp) ?_; intro v1 w4 hown1 hg1 hat1; obtain ⟨A1, c1, rfl⟩ := own_form hown1; (have HO1 := Lib.hid hown1); (have HG1 := Lib.hid hg1); clear hown1 hg1 hat1)
    go_ret
    have hO := HO1.out
    rw [Nat.zero_add] at hO
    refine ⟨A1, c1, rfl, by simpa using own_base hO, fun z hz => (hO.lt z hz).1, ?_⟩
    exact (one_alloc (w := W)).trans (((Below.refl W.heap.size (W.alloc (.cells #[] 99))).grown HG1.out (by simp) (fun k hk => (hm.lt k hk).1)))
end Go.Proofs.Ythipaabjmlgjmaa
namespace Go.Proofs.Ythipaabjmlgjmaa
open Go.RowKit Go Go.Maps
set_option linter.unusedVariables false
set_option linter.unusedSimpArgs false
def flCell (fl : Nat → Fl) (M : Nat → Option Nat) (j : Nat) : Value := if j % 2 = 0 then .int .i64 ((fl (j / 2)).length : Nat) else .map (M (j / 2))
def flL (fl : Nat → Fl) (M : Nat → Option Nat) : List Value := (List.range 16).map (flCell fl M)
theorem flL_get (fl : Nat → Fl) (M : Nat → Option Nat) {j : Nat} (h : j < 16) : (flL fl M)[j]? = some (flCell fl M j) := by simp [flL, h]
theorem flL_length (fl : Nat → Fl) (M : Nat → Option Nat) : (flL fl M).length = 16 := by simp [flL]
theorem flL_one (fl : Nat → Fl) (M : Nat → Option Nat) : ∀ v ∈ flL fl M, v.oneCell' = true := fun v hv => by
  obtain ⟨j, _, rfl⟩ := List.mem_map.1 hv
  unfold flCell
  split <;> rfl
def updM (M : Nat → Option Nat) (i : Nat) (b : Option Nat) (k : Nat) : Option Nat := if k = i then b else M k
theorem updM_same (M : Nat → Option Nat) (i : Nat) (b : Option Nat) : updM M i b i = b := if_pos rfl
theorem updM_other (M : Nat → Option Nat) {i k : Nat} (b : Option Nat) (h : k ≠ i) : updM M i b k = M k := if_neg h
theorem flL_set (fl : Nat → Fl) (M : Nat → Option Nat) (i : Nat) (b : Option Nat) (hi : i < 8) : (flL fl M).toArray.setIfInBounds (i * 2 + 1) (.map b) = (flL fl (updM M i b)).toArray := by
  rw [List.setIfInBounds_toArray]
  congr 1
  apply List.ext_getElem?
  intro k
  rw [List.getElem?_set, flL_length]
  by_cases hk : k < 16
  · rw [flL_get _ _ hk, flL_get _ _ hk]
    by_cases e : i * 2 + 1 = k
    · subst e
      rw [if_pos rfl, if_pos hk]
      unfold flCell
      rw [if_neg (by omega), show (i * 2 + 1) / 2 = i by omega, updM_same]
    · rw [if_neg e]
      unfold flCell
      by_cases h2 : k % 2 = 0
      · rw [if_pos h2, if_pos h2]
      · rw [if_neg h2, if_neg h2, updM_other _ _ (by omega)]
  · rw [if_neg (by omega), List.getElem?_eq_none (by rw [flL_length]; omega), List.getElem?_eq_none (by rw [flL_length]; omega)]
theorem flL_congr {fl : Nat → Fl} {M M' : Nat → Option Nat} (h : ∀ k, k < 8 → M k = M' k) : flL fl M = flL fl M' := by
  unfold flL
  apply List.map_congr_left
  intro j hj
  have := List.mem_range.1 hj
  unfold flCell
  split
  · rfl
  · rw [h _ (by omega)]
/-- what copied leaves: files that stand like these, in blocks from B on -/
structure Cp (B : Nat) (fl : Nat → Fl) (M : Nat → Option Nat) (n : Nat) (W : World) : Prop where
  fl : ∀ k, k < n → FL W (M k) (fl k)
  new : ∀ k, k < n → ∀ b, M k = some b → B ≤ b
  ap : ∀ k j, k < n → j < n → k ≠ j → ∀ b, M k = some b → M j ≠ some b
theorem cp_step {B : Nat} {fl : Nat → Fl} {M : Nat → Option Nat} {n : Nat} {W W' : World} (h : Cp B fl M n W) (hb : Below W.heap.size W W') : Cp B fl M n W' :=
  ⟨fun k hk => fm_keep (h.fl k hk) (fun b e => hb.block b (by have := h.fl k hk; rw [e] at this; exact fm_lt this)), h.new, h.ap⟩
theorem cp_snoc {B : Nat} {fl : Nat → Fl} {M : Nat → Option Nat} {n : Nat} {W W' : World} (h : Cp B fl M n W) (hb : Below W.heap.size W W') (m' : Option Nat) (hfl : FL W' m' (fl n)) (hnew : ∀ b, m' = some b → W.heap.size ≤ b) (hB : B ≤ W.heap.size) :
    Cp B fl (updM M n m') (n + 1) W' := by
  have hlt : ∀ k, k < n → ∀ b, M k = some b → b < W.heap.size := fun k hk b e => by have := h.fl k hk; rw [e] at this; exact fm_lt this
  have h2 := cp_step h hb
  refine ⟨fun k hk => ?_, fun k hk b hb => ?_, fun k j hk hj hkj b hb2 => ?_⟩
  · by_cases e : k = n
    · subst e; rw [updM_same]; exact hfl
    · rw [updM_other _ _ e]; exact h2.fl k (by omega)
  · by_cases e : k = n
    · subst e; rw [updM_same] at hb; exact Nat.le_trans hB (hnew b hb)
    · rw [updM_other _ _ e] at hb; exact h2.new k (by omega) b hb
  · by_cases e : k = n
    · subst e
      rw [updM_same] at hb2
      rw [updM_other _ _ (fun e => hkj e.symm)]
      intro h3
      have := hnew b hb2
      have := hlt j (by omega) b h3
      omega
    · rw [updM_other _ _ e] at hb2
      by_cases e2 : j = n
      · subst e2
        rw [updM_same]
        intro h3
        have := hnew b h3
        have := hlt k (by omega) b hb2
        omega
      · rw [updM_other _ _ e2]; exact h2.ap k j (by omega) (by omega) hkj b hb2
theorem cp_more {B n : Nat} {fl : Nat → Fl} {M M' : Nat → Option Nat} {W : World} (h : Cp B fl M n W) (he : ∀ k, k < n → M' k = M k) : Cp B fl M' n W :=
  ⟨fun k hk => by rw [he k hk]; exact h.fl k hk, fun k hk b hb => h.new k hk b (by rw [← he k hk]; exact hb), fun k j hk hj hkj b hb => by rw [he j hj]; exact h.ap k j hk hj hkj b (by rw [← he k hk]; exact hb)⟩
set_option maxRecDepth 100000 in
set_option maxHeartbeats 4000000 in
theorem copied_any (fl : Nat → Fl) (M : Nat → Option Nat) (w : World) (hfl : ∀ k, k < 8 → FL w (M k) (fl k)) :
    Calls Try.prog 52 #[.agg (flL fl M).toArray] w fun e w' => ∃ M', e = .returned (.agg (flL fl M').toArray) ∧ Cp w.heap.size fl M' 8 w' ∧ Below w.heap.size w w' := by
  have hx0 := Blk.new w 67 (flL fl M).toArray
  have HFL := Lib.hid hfl
  clear hfl
  go_enter Try.func52, Try.ntmps52
  go_wp2
  go_loopw [4] (fun v wr => ∃ (i : Nat) (M' : Nat → Option Nat), i ≤ 8 ∧ v = .int .i64 i ∧ Blk wr w.heap.size 67 (flL fl M').toArray ∧ (∀ k, i ≤ k → M' k = M k) ∧ Cp (w.heap.size + 2) fl M' i wr ∧ Below w.heap.size w wr ∧ (∃ cur, Blk wr (w.heap.size + 1) 67 cur ∧ cur.size = 16) ∧ w.heap.size + 2 ≤ wr.heap.size) (fun v _ => 8 - (intOf v).toNat)
  case atStart =>
    refine ⟨0, M, by omega, rfl, (Blk.new w 67 (flL fl M).toArray).alloc _, fun _ _ => rfl, ⟨fun k hk => absurd hk (Nat.not_lt_zero k), fun k hk => absurd hk (Nat.not_lt_zero k), fun k j hk => absurd hk (Nat.not_lt_zero k)⟩, bj one_alloc one_alloc, ⟨_, blk_new _ _ _ _ (by simp), rfl⟩, by simp⟩
  case round =>
    clear hx0
    obtain ⟨i, M', hi, rfl, hblk, hM, hcp, hb, ⟨cur, hcur, hcs⟩, hsz⟩ := hrel
    by_cases hlt : i < 8
    · have y1 : wr.cell? ⟨w.heap.size, i * 2 + 1, none⟩ = some (.map (M i)) := by
        rw [hblk.cell, List.getElem?_toArray, flL_get _ _ (by omega)]
        unfold flCell
        rw [if_neg (by omega), show (i * 2 + 1) / 2 = i by omega, hM i (Nat.le_refl _)]
      have hfl2 : FL wr (M i) (fl i) := fm_keep (HFL.out i hlt) (fun b e => hb.block b (by have := HFL.out i hlt; rw [e] at this; exact fm_lt this))
      have HCL := Lib.hid (mclone_sec hfl2)
      have HBK := Lib.hid hblk
      have HMM := Lib.hid hM
      have HCP := Lib.hid hcp
      have HB := Lib.hid hb
      have HCU := Lib.hid (And.intro hcur hcs)
      have HSZ := Lib.hid hsz
      have iI : (i : Int) < 8 := by omega
      clear hblk hM hcp hb hcur hcs hfl2 hsz
      go_wp2_with fail
      refine (HCL.out).mono ?_
      rintro e w2 ⟨m', rfl, hfl3, hnew, hb2⟩
      have hb2k : Blk w2 w.heap.size 67 (flL fl M').toArray := blk_step HBK.out hb2
      have z1 : w2.cell? ⟨w.heap.size, i * 2 + 1, none⟩ = some (.map (M i)) := by rw [World.cell?_of_block (hb2.block w.heap.size HBK.out.lt)]; exact y1
      have z2 : w2.frozen? ⟨w.heap.size, i * 2 + 1, none⟩ = false := hb2k.frozen _
      have hbe : ∀ b, m' = some b → b ≠ w.heap.size := fun b e => by have := hnew b e; have := HSZ.out; omega
      have HEND := Lib.hid (show Blk (w2.setCell ⟨w.heap.size, i * 2 + 1, none⟩ (.map m')) w.heap.size 67 (flL fl (updM M' i m')).toArray ∧ (∀ k, i + 1 ≤ k → updM M' i m' k = M k) ∧ Cp (w.heap.size + 2) fl (updM M' i m') (i + 1) (w2.setCell ⟨w.heap.size, i * 2 + 1, none⟩ (.map m')) ∧ Below w.heap.size w (w2.setCell ⟨w.heap.size, i * 2 + 1, none⟩ (.map m')) ∧ (∃ cur, Blk (w2.setCell ⟨w.heap.size, i * 2 + 1, none⟩ (.map m')) (w.heap.size + 1) 67 cur ∧ cur.size = 16) ∧ w.heap.size + 2 ≤ (w2.setCell ⟨w.heap.size, i * 2 + 1, none⟩ (.map m')).heap.size by
        have hc2 := cp_snoc HCP.out hb2 m' hfl3 hnew HSZ.out
        refine ⟨by rw [← flL_set fl M' i m' hlt]; exact hb2k.set_ _ _, fun k hk => by rw [updM_other _ _ (by omega)]; exact HMM.out k (by omega), ?_, (bj HB.out hb2).setCell (Nat.le_refl _) _, ⟨cur, (blk_step HCU.out.1 hb2).far (p := ⟨w.heap.size, i * 2 + 1, none⟩) (by show w.heap.size + 1 ≠ w.heap.size; omega) _, HCU.out.2⟩, by simp [World.setCell]; exact Nat.le_trans HSZ.out hb2.size⟩
        exact ⟨fun k hk => fm_keep (hc2.fl k hk) (fun b e => Below.heap_setCell _ _ _ _ (fun e2 => by have := hc2.new k hk b e; simp at e2; omega)), hc2.new, hc2.ap⟩)
      clear hfl3 hnew hb2 hb2k y1 hbe
      go_wp2
      go_roundw
      case rel => exact ⟨i + 1, updM M' i m', by omega, by go_num, HEND.out.1, HEND.out.2.1, HEND.out.2.2.1, HEND.out.2.2.2.1, HEND.out.2.2.2.2.1, HEND.out.2.2.2.2.2⟩
      case measure => simp [intOf]; omega
    · obtain rfl : i = 8 := by omega
      have hr1 : wr.rangeAt w.heap.size 0 (flL fl M') := fun k v hv => by rw [hblk.cell, Nat.zero_add]; simpa using hv
      have hu := Try.underlying67
      have hs16 : (Try.prog.info? 67).map (·.size) = some (flL fl M').length := by rw [flL_length]; kernel_rfl
      have hth : wr.there (w.heap.size + 1) 0 16 := fun k hk => ⟨by rw [hcur.cell, Nat.zero_add, Array.getElem?_eq_getElem (by omega)]; rfl, hcur.frozen _⟩
      have hs16a : (Try.prog.info? 67).map (·.size) = some (flL fl M').toArray.size := by rw [List.size_toArray, flL_length]; kernel_rfl
      obtain ⟨cur', k1, k2, k3, k4⟩ := blk_setCells (t := 67) (flL fl M') 0 wr cur hcur (by rw [flL_length]; omega)
      have hc' : cur' = (flL fl M').toArray := by
        apply Array.ext_getElem?
        intro k
        by_cases hk : k < 16
        · have := k4 k (by rw [flL_length]; exact hk)
          rw [Nat.zero_add] at this
          rw [this, List.getElem?_toArray]
        · rw [Array.getElem?_eq_none (by omega), Array.getElem?_eq_none (by rw [List.size_toArray, flL_length]; omega)]
      rw [hc'] at k1
      have hf := fr_setCells (b := w.heap.size + 1) (flL fl M') 0 wr
      have HEND := Lib.hid (show Blk (wr.setCells (w.heap.size + 1) 0 (flL fl M').toArray.toList) (w.heap.size + 1) 67 (flL fl M').toArray ∧ Cp w.heap.size fl M' 8 (wr.setCells (w.heap.size + 1) 0 (flL fl M').toArray.toList) ∧ Below w.heap.size w (wr.setCells (w.heap.size + 1) 0 (flL fl M').toArray.toList) from
        ⟨k1, ⟨fun k hk => fm_keep (hcp.fl k hk) (fun b e => hf.block b (by have := hcp.fl k hk; rw [e] at this; exact fm_lt this) (fun e2 => by have := hcp.new k hk b e; omega)), fun k hk b e => by have := hcp.new k hk b e; omega, hcp.ap⟩, hb.trans (fr_below hf (fun k hk => by omega) (by omega))⟩)
      have hst : (storeCells ⟨w.heap.size + 1, 0, none⟩ (flL fl M')).run Try.prog wr = .ok () (wr.setCells (w.heap.size + 1) 0 (flL fl M')) := by
        have := run_storeCells_cells (P := Try.prog) (w.heap.size + 1) 0 (flL fl M') 0 wr (fun j hj => by have := (hth j (by rw [flL_length] at hj; exact hj)).1; simpa using this) (fun j hj => by have := (hth j (by rw [flL_length] at hj; exact hj)).2; simpa using this) (fun v hv => flL_one _ _ v hv)
        simpa using this
      have hl16 := flL_length fl M'
      clear hblk hM hcp hb hcur hcs k1 k2 k3 k4 hc' hf hth
      go_wp2_with (first | (refine wpList_load_mid rfl 67 (.tmp 1) rfl w.heap.size 0 rfl (flL fl M') _ hr1 hu rfl hs16 ?_))
      refine bodyPost_ret (v := .agg (flL fl M').toArray) ?hres rfl ?hpost
      case hres => exact results_cell_row (p := 2) (ty := 67) (by kernel_rfl) _ _ (w.heap.size + 1) 67 _ (0, 0) _ rfl HEND.out.1 hu rfl hs16a
      case hpost => exact ⟨M', rfl, HEND.out.2.1, HEND.out.2.2⟩
end Go.Proofs.Ythipaabjmlgjmaa
namespace Go.Proofs.Ythipaabjmlgjmaa
open Go.RowKit Go Go.Maps
set_option linter.unusedVariables false
set_option linter.unusedSimpArgs false
/-- of the loose changes those that are kept -/
def kept : List Bool → List Ch → List Ch
  | b :: k, c :: l => (if b then [c] else []) ++ kept k l
  | _, _ => []
theorem kept_nil (l : List Ch) : kept [] l = [] := by cases l <;> rfl
theorem kept_snoc : ∀ (k : List Bool) (l : List Ch) (x : Ch), kept k (l ++ [x]) = kept k l ++ (if k.getD l.length false then [x] else [])
  | [], l, x => by rw [kept_nil, kept_nil]; rfl
  | b :: k, [], x => by cases b <;> simp [kept]
  | b :: k, c :: l, x => by
    have := kept_snoc k l x
    rw [List.cons_append, kept, kept, this, List.append_assoc, List.length_cons, List.getD_cons_succ]
theorem kept_sub : ∀ (k : List Bool) (l : List Ch), ∀ x ∈ kept k l, x ∈ l
  | [], l, x, h => by rw [kept_nil] at h; cases h
  | b :: k, [], x, h => by cases h
  | b :: k, c :: l, x, h => by
    rw [kept] at h
    rcases List.mem_append.1 h with h1 | h1
    · cases b with
      | true => simp at h1; subst h1; exact List.mem_cons_self ..
      | false => simp at h1
    · exact List.mem_cons_of_mem _ (kept_sub k l x h1)
/-- a slice of truths as it is read -/
def BsAt (W : World) (A : Option Addr) (l : List Bool) : Prop := l = [] ∨ ∃ b o, A = some ⟨b, o, none⟩ ∧ b < W.heap.size ∧ ∀ j v, l[j]? = some v → W.cell? ⟨b, o + j, none⟩ = some (.bool v)
theorem bs_fr {S : Nat → Prop} {w W : World} {A : Option Addr} {l : List Bool} (h : BsAt w A l) (hf : Fr S w W) (hA : l ≠ [] → ∀ a, A = some a → ¬ S a.block) : BsAt W A l := by
  rcases h with h | ⟨b, o, rfl, hb, hc⟩
  · exact .inl h
  by_cases hl : l = []
  · exact .inl hl
  · refine .inr ⟨b, o, rfl, Nat.lt_of_lt_of_le hb hf.size, fun j v hv => ?_⟩
    exact (World.cell?_of_block (a := ⟨b, o + j, none⟩) (hf.block b hb (hA hl _ rfl))).trans (hc j v hv)
/-- the disk behind a crash -/
def crash1 (d : Dk) : Dk := ⟨fun i => if i < 8 then d.fl (8 + i) else d.fl i, [], fun _ => 0, -1, d.ops, false⟩
def crashD (d : Dk) (k : List Bool) : Dk := crash1 (doneAll 1 d (kept k d.loose))
def nowF (d : Dk) : Dk := { d with fl := fun i => if i < 8 then d.fl (8 + i) else d.fl i }
def Mm.now (m : Mm) (M' : Nat → Option Nat) : Mm := { m with M := fun i => if i < 8 then M' i else m.M i }
theorem sure_cells {W : World} {g : Nat} {m : Mm} {d : Dk} (hg : Blk W g 70 (dkA d m)) (s : Nat) (hs : s < 2) : W.rangeAt g (16 * s) (flL (fun k => d.fl (8 * s + k)) (fun k => m.M (8 * s + k))) := fun j v hv => by
  have hj : j < 16 := by have := (List.getElem?_eq_some_iff.1 hv).1; rwa [flL_length] at this
  rw [flL_get _ _ hj] at hv
  injection hv with hv
  subst hv
  rw [hg.cell, dkA_get _ _ (by omega)]
  unfold dkCell flCell
  rw [if_pos (by omega)]
  by_cases h2 : j % 2 = 0
  · rw [if_pos (by omega), if_pos h2, show (16 * s + j) / 2 = 8 * s + j / 2 by omega]
  · rw [if_neg (by omega), if_neg h2, show (16 * s + j) / 2 = 8 * s + j / 2 by omega]
theorem now_at {W w2 : World} {S : Nat → Prop} {g : Nat} {m : Mm} {d : Dk} {N : Nat} (h : DkAt W S g m d N) {M' : Nat → Option Nat} (hc : Cp W.heap.size (fun k => d.fl (8 + k)) M' 8 w2) (hb : Below W.heap.size W w2) :
    DkAt (w2.setCells g 0 (flL (fun k => d.fl (8 + k)) M')) (fun b => S b ∨ ∃ i, i < 8 ∧ M' i = some b) g (m.now M') (nowF d) N := by
  have h2 := dkAt_below h hb
  have hgl : g < W.heap.size := h.lt _ h.sg
  have hf := fr_setCells (b := g) (flL (fun k => d.fl (8 + k)) M') 0 w2
  obtain ⟨cur', k1, k2, k3, k4⟩ := blk_setCells (t := 70) (flL (fun k => d.fl (8 + k)) M') 0 w2 (dkA d m) h2.blk (by rw [flL_length]; show _ ≤ ((List.range 37).map (dkCell d m)).toArray.size; simp)
  have hMn : ∀ i, i < 8 → (m.now M').M i = M' i := fun i hi => if_pos hi
  have hMo : ∀ i, ¬ i < 8 → (m.now M').M i = m.M i := fun i hi => if_neg hi
  have hfn : ∀ i, i < 8 → (nowF d).fl i = d.fl (8 + i) := fun i hi => if_pos hi
  have hfo : ∀ i, ¬ i < 8 → (nowF d).fl i = d.fl i := fun i hi => if_neg hi
  have hcur : cur' = dkA (nowF d) (m.now M') := by
    apply Array.ext_getElem?
    intro k
    by_cases hk : k < 16
    · have := k4 k (by rw [flL_length]; exact hk)
      rw [Nat.zero_add] at this
      rw [this, flL_get _ _ hk, dkA_get _ _ (by omega)]
      rcases Nat.mod_two_eq_zero_or_one k with h3 | h3
      · obtain ⟨i, rfl⟩ : ∃ i, k = 2 * i := ⟨k / 2, by omega⟩
        rw [cell_len _ _ (by omega), hfn i (by omega)]
        unfold flCell
        rw [if_pos h3, show 2 * i / 2 = i by omega]
      · obtain ⟨i, rfl⟩ : ∃ i, k = 2 * i + 1 := ⟨k / 2, by omega⟩
        rw [cell_map _ _ (by omega), hMn i (by omega)]
        unfold flCell
        rw [if_neg (by omega), show (2 * i + 1) / 2 = i by omega]
    · rw [k3 k (by rw [flL_length]; omega)]
      by_cases hk2 : k < 37
      · rw [dkA_get _ _ hk2, dkA_get _ _ hk2]
        by_cases h1 : k < 32
        · rcases Nat.mod_two_eq_zero_or_one k with h3 | h3
          · obtain ⟨i, rfl⟩ : ∃ i, k = 2 * i := ⟨k / 2, by omega⟩
            rw [cell_len _ _ (by omega), cell_len _ _ (by omega), hfo i (by omega)]
          · obtain ⟨i, rfl⟩ : ∃ i, k = 2 * i + 1 := ⟨k / 2, by omega⟩
            rw [cell_map _ _ (by omega), cell_map _ _ (by omega), hMo i (by omega)]
        · unfold dkCell
          rw [if_neg h1, if_neg h1]; rfl
      · rw [Array.getElem?_eq_none (by simp [dkA] at k2 ⊢; omega), Array.getElem?_eq_none (by simp [dkA]; omega)]
  rw [hcur] at k1
  have hkeep : ∀ b, S b → b ≠ g → (w2.setCells g 0 (flL (fun k => d.fl (8 + k)) M')).heap[b]? = w2.heap[b]? := fun b hs hbg => hf.block b (h2.lt b hs) hbg
  have hnS : ∀ i b, i < 8 → M' i = some b → ¬ S b := fun i b hi e hs => by have := hc.new i hi b e; have := h.lt b hs; omega
  obtain ⟨D, n, hn, ho, hk⟩ := h2.arm
  refine ⟨k1, fun i hi => ?_, fun i hi => ?_, fun i j hi hj hij b hb3 => ?_, ⟨D, n, hn, arm_block ho (hkeep m.ga h.sa (dkAt_ga h)), hk⟩, fun i hi e => ?_, own_block h2.loo (fun z hz => hkeep z (h.sl z hz) (h.ng z hz)), h.chs, h.ng, .inl h.sg, fun i hi b e => ?_, .inl h.sa, fun z hz => .inl (h.sl z hz), fun b hs => ?_, h.cN, h.pw⟩
  · by_cases hi8 : i < 8
    · rw [hMn i hi8, hfn i hi8]
      exact fm_keep (hc.fl i hi8) (fun b e => hf.block b (by have := hc.fl i hi8; rw [e] at this; exact fm_lt this) (fun e2 => by have := hc.new i hi8 b e; omega))
    · rw [hMo i hi8, hfo i hi8]
      exact fm_keep (h2.fl i hi) (fun b e => hkeep b (h.sm i hi b e) (fun e2 => dkAt_m_g h hi (by rw [e, e2])))
  · by_cases hi8 : i < 8
    · rw [hfn i hi8]; exact h.ok _ (by omega)
    · rw [hfo i hi8]; exact h.ok i hi
  · by_cases hi8 : i < 8
    · rw [hMn i hi8] at hb3
      by_cases hj8 : j < 8
      · rw [hMn j hj8]; exact hc.ap i j hi8 hj8 hij b hb3
      · rw [hMo j hj8]; exact fun e => hnS i b hi8 hb3 (h.sm j hj b e)
    · rw [hMo i hi8] at hb3
      by_cases hj8 : j < 8
      · rw [hMn j hj8]; exact fun e => hnS j b hj8 e (h.sm i hi b hb3)
      · rw [hMo j hj8]; exact h.ap i j hi hj hij b hb3
  · by_cases hi8 : i < 8
    · rw [hMn i hi8] at e; exact hnS i _ hi8 e h.sa
    · rw [hMo i hi8] at e; exact h.ga i hi e
  · by_cases hi8 : i < 8
    · rw [hMn i hi8] at e; exact .inr ⟨i, hi8, e⟩
    · rw [hMo i hi8] at e; exact .inl (h.sm i hi b e)
  · rcases hs with hs | ⟨i, hi, e⟩
    · exact Nat.lt_of_lt_of_le (h2.lt b hs) hf.size
    · have := hc.fl i hi
      rw [e] at this
      exact Nat.lt_of_lt_of_le (fm_lt this) hf.size
theorem arm_clear {W : World} {S : Nat → Prop} {g : Nat} {m : Mm} {d : Dk} {N : Nat} (h : DkAt W S g m d N) (ty : TypeId) :
    ∃ W', (Builtin.clear_ #[63] ty #[.map (some m.ga)]).run Try.prog W = .ok (.tuple #[]) W' ∧ DkAt W' S g m { d with armed := fun _ => 0 } N ∧ Fr (fun b => some m.ga = some b) W W' := by
  obtain ⟨D, n, hn, ⟨es, clock, hb, F, hs, hD⟩, hk⟩ := h.arm
  have hrun : (Builtin.clear_ #[63] ty #[.map (some m.ga)]).run Try.prog W = .ok (.tuple #[]) (Go.ChangeMaps.setBlock W m.ga (.map #[] clock)) := by
    simp [Builtin.clear_, run_underlying Try.underlying63, MapKept.run_getObj_map hb, MapKept.run_setObj_map _ hb, Result.andThen]
    rfl
  have hfr : Fr (fun b => some m.ga = some b) W (Go.ChangeMaps.setBlock W m.ga (.map #[] clock)) :=
    fr_grown (row := some m.ga) (fr_refl _ _) ⟨rfl, rfl, rfl, by simp [Go.ChangeMaps.setBlock], fun i _ hi => Go.ChangeMaps.heap_setBlock_other hb _ (fun e => hi (by rw [e]))⟩ (fun z hz => .inl hz)
  refine ⟨_, hrun, dkAt_arm h _ N ⟨Nat.le_refl _, h.cN.2.2⟩ ⟨.map [], 0, Nat.zero_le _, ⟨#[], clock, Go.ChangeMaps.heap_setBlock_same hb _, ⟨by simp, Go.MapKept.stamped_empty clock, by simp⟩, Nat.le_refl _, rfl⟩, fun k => rfl⟩ hfr, hfr⟩
end Go.Proofs.Ythipaabjmlgjmaa
namespace Go.Proofs.Ythipaabjmlgjmaa
open Go.RowKit Go Go.Maps
set_option linter.unusedVariables false
set_option linter.unusedSimpArgs false
/-- behind the loop -/
theorem crash_end {w wr w2 W5 : World} {S S2 : Nat → Prop} {g : Nat} {m2 : Mm} {d2 : Dk} {N : Nat} {M' : Nat → Option Nat} (hat : DkAt wr S2 g m2 d2 N) (hs2 : ∀ b, S2 b → S b ∨ w.heap.size ≤ b) (hf2 : Fr S w wr)
    (hc : Cp wr.heap.size (fun k => d2.fl (8 + k)) M' 8 w2) (hb : Below wr.heap.size wr w2) :
    ∃ W5, (Builtin.clear_ #[63] 0 #[.map (some m2.ga)]).run Try.prog ((w2.setCells g 0 (flL (fun k => d2.fl (8 + k)) M')).setCell ⟨g, 32, none⟩ (.slice none 0 0)) = .ok (.tuple #[]) W5 ∧
      W5.cell? ⟨g, 34, none⟩ = some (.int .i64 d2.power) ∧ W5.cell? ⟨g, 36, none⟩ = some (.bool d2.off) ∧ W5.frozen? ⟨g, 34, none⟩ = false ∧ W5.frozen? ⟨g, 36, none⟩ = false ∧
      DkR w S g (crash1 d2) N ((W5.setCell ⟨g, 34, none⟩ (.int .i64 (-1))).setCell ⟨g, 36, none⟩ (.bool false)) := by
  have h3 := now_at hat hc hb
  have hll : (Value.slice (none : Option Addr) 0 0).ownBlock = none := rfl
  have h4 : DkAt ((w2.setCells g 0 (flL (fun k => d2.fl (8 + k)) M')).setCell ⟨g, 32, none⟩ (.slice none 0 0)) _ g _ { nowF d2 with loose := [] } N :=
    dkAt_loose h3 [] none 0 N (World.ownsRow_nil _ _ _ _) (fun c hc => by cases hc) (by rw [← dkA_loose (nowF d2) (m2.now M') [] none 0 _ rfl]; exact h3.blk.set_ 32 _) (fr_set (fr_refl _ _) (p := ⟨g, 32, none⟩) (.inl (.inl rfl)) _) (fun z hz => by cases hz) ⟨Nat.le_refl _, Nat.zero_le _, hat.cN.2.2⟩
  obtain ⟨W5, hrun, h5, hf5⟩ := arm_clear h4 0
  obtain ⟨y2, y3, y4, y5, y6, z2, z3, z4, z5, z6⟩ := dk_more h5.blk
  have h6 := pow_at h5 (-1) (by decide)
  have h7 := off_at h6 false
  refine ⟨W5, hrun, y4, y6, z4, z6, _, ⟨_, h7⟩, ?_, fun b hs => ?_⟩
  · have hgS : S g ∨ w.heap.size ≤ g := hs2 g hat.sg
    have f2 : Fr S w w2 := fr_step hf2 hb
    have f3 : Fr S w (w2.setCells g 0 (flL (fun k => d2.fl (8 + k)) M')) := fr_trans f2 (fr_setCells (b := g) _ 0 w2) (fun b hb => by rw [hb]; exact hgS)
    have f4 : Fr S w _ := fr_set f3 (p := ⟨g, 32, none⟩) hgS (.slice none 0 0)
    have f5 : Fr S w W5 := fr_trans f4 hf5 (fun b hb => by injection hb with hb; rw [← hb]; exact hs2 _ hat.sa)
    exact fr_set (fr_set f5 (p := ⟨g, 34, none⟩) hgS _) (p := ⟨g, 36, none⟩) hgS _
  · rcases hs with (hs | ⟨i, hi, e⟩) | hs
    · exact hs2 b hs
    · exact .inr (Nat.le_trans hf2.size (hc.new i hi b e))
    · cases hs
end Go.Proofs.Ythipaabjmlgjmaa
