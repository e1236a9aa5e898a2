/- Layer 5: Copy; what a law knows of a disk. Conditions: those of each lemma. -/
import Derived.Test.YthipaabjmlgjmaaMvE
namespace Go.Proofs.Ythipaabjmlgjmaa
open Go.RowKit Go Go.Maps
set_option linter.unusedVariables false
set_option linter.unusedSimpArgs false
theorem copy_nil (w : World) : Calls Try.prog 23 #[.pointer none] w fun e w' => e = .returned (.pointer none) ∧ w = w' := by
  go_enter Try.func23, Try.ntmps23
  go_wp2
  go_ret
  exact ⟨rfl, rfl⟩
def dkL (d : Dk) (m : Mm) : List Value := (List.range 37).map (dkCell d m)
theorem dkL_length (d : Dk) (m : Mm) : (dkL d m).length = 37 := by simp [dkL]
theorem dkL_one (d : Dk) (m : Mm) : ∀ v ∈ dkL d m, v.oneCell' = true := fun v hv => by
  obtain ⟨j, _, rfl⟩ := List.mem_map.1 hv
  unfold dkCell
  split
  · split <;> rfl
  · split
    · rfl
    · split
      · rfl
      · split
        · rfl
        · split <;> rfl
def bothM (M0 M1 : Nat → Option Nat) (i : Nat) : Option Nat := if i < 8 then M0 i else M1 (i - 8)
theorem both_lo (M0 M1 : Nat → Option Nat) {i : Nat} (h : i < 8) : bothM M0 M1 i = M0 i := if_pos h
theorem both_hi (M0 M1 : Nat → Option Nat) {i : Nat} (h : ¬ i < 8) : bothM M0 M1 i = M1 (i - 8) := if_neg h
/-- both rows of files are laid into a disk -/
theorem copy_blk {W : World} {g : Nat} {d : Dk} {m : Mm} (h : Blk W g 70 (dkA d m)) (M0 M1 : Nat → Option Nat) :
    Blk ((W.setCells g 0 (flL (fun k => d.fl (8 * 0 + k)) M0)).setCells g 16 (flL (fun k => d.fl (8 * 1 + k)) M1)) g 70 (dkA d { m with M := bothM M0 M1 }) := by
  have h37 : (dkA d m).size = 37 := by simp [dkA]
  obtain ⟨c1, k1, k2, k3, k4⟩ := blk_setCells (t := 70) (flL (fun k => d.fl (8 * 0 + k)) M0) 0 W (dkA d m) h (by rw [flL_length, h37]; omega)
  obtain ⟨c2, l1, l2, l3, l4⟩ := blk_setCells (t := 70) (flL (fun k => d.fl (8 * 1 + k)) M1) 16 _ c1 k1 (by rw [flL_length, k2, h37]; omega)
  have e : c2 = dkA d { m with M := bothM M0 M1 } := by
    apply Array.ext_getElem?
    intro k
    by_cases hk : k < 37
    · rw [dkA_get _ _ hk]
      by_cases h1 : k < 16
      · have := k4 k (by rw [flL_length]; exact h1)
        rw [Nat.zero_add] at this
        rw [l3 k (by omega), this, flL_get _ _ h1]
        rcases Nat.mod_two_eq_zero_or_one k with h3 | h3
        · obtain ⟨i, rfl⟩ : ∃ i, k = 2 * i := ⟨k / 2, by omega⟩
          rw [cell_len _ _ (by omega)]
          unfold flCell
          rw [if_pos h3, show 2 * i / 2 = i by omega]
          show some (Value.int .i64 ((d.fl (8 * 0 + i)).length : Nat)) = _
          rw [show 8 * 0 + i = i by omega]
        · obtain ⟨i, rfl⟩ : ∃ i, k = 2 * i + 1 := ⟨k / 2, by omega⟩
          rw [cell_map _ _ (by omega)]
          unfold flCell
          rw [if_neg (by omega), show (2 * i + 1) / 2 = i by omega]
          show _ = some (Value.map (bothM M0 M1 i))
          rw [both_lo _ _ (by omega)]
      · by_cases h2 : k < 32
        · obtain ⟨q, rfl⟩ : ∃ q, k = 16 + q := ⟨k - 16, by omega⟩
          rw [l4 q (by rw [flL_length]; omega), flL_get _ _ (by omega)]
          rcases Nat.mod_two_eq_zero_or_one q with h3 | h3
          · obtain ⟨i, rfl⟩ : ∃ i, q = 2 * i := ⟨q / 2, by omega⟩
            rw [show 16 + 2 * i = 2 * (8 + i) by omega, cell_len _ _ (by omega)]
            unfold flCell
            rw [if_pos h3, show 2 * i / 2 = i by omega]
          · obtain ⟨i, rfl⟩ : ∃ i, q = 2 * i + 1 := ⟨q / 2, by omega⟩
            rw [show 16 + (2 * i + 1) = 2 * (8 + i) + 1 by omega, cell_map _ _ (by omega)]
            unfold flCell
            rw [if_neg (by omega), show (2 * i + 1) / 2 = i by omega]
            show _ = some (Value.map (bothM M0 M1 (8 + i)))
            rw [both_hi _ _ (by omega), show 8 + i - 8 = i by omega]
        · rw [l3 k (by rw [flL_length]; omega), k3 k (by rw [flL_length]; omega), dkA_get _ _ hk]
          unfold dkCell
          rw [if_neg h2, if_neg h2]
    · rw [Array.getElem?_eq_none (by omega), Array.getElem?_eq_none (by simp [dkA]; omega)]
  rw [e] at l1
  exact l1
theorem dkA_ga (d : Dk) (m : Mm) (b : Nat) : (dkA d m).setIfInBounds 33 (.map (some b)) = dkA d { m with ga := b } := by
  refine dkA_set _ _ fun k hk => ?_
  by_cases e : k = 33
  · subst e; rfl
  · rw [if_neg e]
    unfold dkCell
    by_cases h1 : k < 32
    · rw [if_pos h1, if_pos h1]
    · rw [if_neg h1, if_neg h1]
      by_cases e2 : k = 32
      · subst e2; rfl
      · rw [if_neg e2, if_neg e2, if_neg e, if_neg e]
/-- the copy, whole -/
theorem copy_end {w V : World} {S : Nat → Prop} {g g' : Nat} {m : Mm} {d : Dk} {N : Nat} (h : DkAt w S g m d N) {M0 M1 : Nat → Option Nat} {ga B0 B1 B3 : Nat} {A : Option Addr} {c : Nat}
    (hblk : Blk V g' 70 (dkA d ⟨bothM M0 M1, ga, A, c⟩)) (h0 : Cp B0 (fun k => d.fl (8 * 0 + k)) M0 8 V) (h1 : Cp B1 (fun k => d.fl (8 * 1 + k)) M1 8 V) (hlt0 : ∀ k, k < 8 → ∀ b, M0 k = some b → b < B1) (hlt3 : ∀ k, k < 8 → ∀ b, (M0 k = some b ∨ M1 k = some b) → b < B3)
    (harm : ∃ D n, n ≤ N ∧ V.ownsMap (H := Value) Try.prog 3 (plainElem Try.prog 25) ga n D ∧ ∀ k : Int, D.atKey (ki k) (.lit (.int .i64 0)) = .lit (.int .i64 (d.armed k))) (hga : B3 ≤ ga)
    (hown : V.ownsRow 0 99 67 (.slice A d.loose.length c) d.loose.length (chsL d.loose)) (hownb : ∀ z, (Value.slice A d.loose.length c).ownBlock = some z → g' < z) (hg' : w.heap.size ≤ g') (hB0 : g' < B0) (hB1 : g' < B1) (hB3 : g' < B3) :
    ∃ S', DkS V S' g' d N ∧ ∀ b, S' b → w.heap.size ≤ b := by
  obtain ⟨D, n, hn, ho, hk⟩ := harm
  refine ⟨fun b => b = g' ∨ (∃ i, i < 16 ∧ bothM M0 M1 i = some b) ∨ b = ga ∨ (Value.slice A d.loose.length c).ownBlock = some b, ⟨⟨bothM M0 M1, ga, A, c⟩, ⟨hblk, fun i hi => ?_, h.ok, fun i j hi hj hij b hb => ?_, ⟨D, n, hn, ho, hk⟩, fun i hi e => ?_, hown, h.chs, fun z hz e => ?_, .inl rfl, fun i hi b e => .inr (.inl ⟨i, hi, e⟩), .inr (.inr (.inl rfl)), fun z hz => .inr (.inr (.inr hz)), fun b hs => ?_, h.cN, h.pw⟩⟩, fun b hs => ?_⟩
  · show FL V (bothM M0 M1 i) (d.fl i)
    by_cases hi8 : i < 8
    · rw [both_lo _ _ hi8]
      have := h0.fl i hi8
      rwa [show 8 * 0 + i = i by omega] at this
    · rw [both_hi _ _ hi8]
      have := h1.fl (i - 8) (by omega)
      rwa [show 8 * 1 + (i - 8) = i by omega] at this
  · show bothM M0 M1 j ≠ some b
    have hb : bothM M0 M1 i = some b := hb
    by_cases hi8 : i < 8
    · rw [both_lo _ _ hi8] at hb
      by_cases hj8 : j < 8
      · rw [both_lo _ _ hj8]; exact h0.ap i j hi8 hj8 hij b hb
      · rw [both_hi _ _ hj8]
        intro e
        have := h1.new (j - 8) (by omega) b e
        have := hlt0 i hi8 b hb
        omega
    · rw [both_hi _ _ hi8] at hb
      by_cases hj8 : j < 8
      · rw [both_lo _ _ hj8]
        intro e
        have := h1.new (i - 8) (by omega) b hb
        have := hlt0 j hj8 b e
        omega
      · rw [both_hi _ _ hj8]; exact h1.ap (i - 8) (j - 8) (by omega) (by omega) (by omega) b hb
  · have e : bothM M0 M1 i = some ga := e
    by_cases hi8 : i < 8
    · rw [both_lo _ _ hi8] at e
      have := hlt3 i hi8 ga (.inl e)
      omega
    · rw [both_hi _ _ hi8] at e
      have := hlt3 (i - 8) (by omega) ga (.inr e)
      omega
  · have := hownb z hz
    omega
  · rcases hs with rfl | ⟨i, hi, e⟩ | rfl | e
    · exact hblk.lt
    · by_cases hi8 : i < 8
      · rw [both_lo _ _ hi8] at e
        have := h0.fl i hi8
        rw [e] at this
        exact fm_lt this
      · rw [both_hi _ _ hi8] at e
        have := h1.fl (i - 8) (by omega)
        rw [e] at this
        exact fm_lt this
    · exact ho.lt
    · exact (hown.lt b e).2
  · rcases hs with rfl | ⟨i, hi, e⟩ | rfl | e
    · exact hg'
    · by_cases hi8 : i < 8
      · rw [both_lo _ _ hi8] at e
        have := h0.new i hi8 b e
        omega
      · rw [both_hi _ _ hi8] at e
        have := h1.new (i - 8) (by omega) b e
        omega
    · omega
    · have := hownb b e
      omega
/-- what holds while the copy's files are made -/
def Kp (w : World) (g' : Nat) (V : World) : Prop := Below w.heap.size w V ∧ ∃ cur, Blk V g' 70 cur ∧ cur.size = 37
theorem kp_step {w V V' : World} {g' : Nat} (h : Kp w g' V) (hb : Below V.heap.size V V') : Kp w g' V' := by
  obtain ⟨h1, cur, h2, h3⟩ := h
  exact ⟨bj h1 hb, cur, blk_step h2 hb, h3⟩
theorem kp_set {w V : World} {g' : Nat} (h : Kp w g' V) (hg : w.heap.size ≤ g') (o : Nat) (vs : List Value) (ho : o + vs.length ≤ 37) : Kp w g' (V.setCells g' o vs) := by
  obtain ⟨h1, cur, h2, h3⟩ := h
  obtain ⟨cur', k1, k2, _, _⟩ := blk_setCells (t := 70) vs o V cur h2 (by omega)
  exact ⟨h1.trans (fr_below (fr_setCells vs o V) (fun k hk => by omega) h1.size), cur', k1, by omega⟩
theorem kp_S {w V : World} {S : Nat → Prop} {g g' : Nat} {m : Mm} {d : Dk} {N : Nat} (hm : DkAt w S g m d N) (h : Kp w g' V) :
    V.rangeAt g 0 (flL (fun k => d.fl (8 * 0 + k)) (fun k => m.M (8 * 0 + k))) ∧ V.rangeAt g 16 (flL (fun k => d.fl (8 * 1 + k)) (fun k => m.M (8 * 1 + k))) ∧ V.there g' 0 16 ∧ V.there g' 16 16 := by
  obtain ⟨h1, cur, h2, h3⟩ := h
  have hg : Blk V g 70 (dkA d m) := hm.blk.below h1 (hm.lt _ hm.sg)
  exact ⟨sure_cells hg 0 (by omega), sure_cells hg 1 (by omega), fun k hk => ⟨by rw [h2.cell, Array.getElem?_eq_getElem (by omega)]; rfl, h2.frozen _⟩, fun k hk => ⟨by rw [h2.cell, Array.getElem?_eq_getElem (by omega)]; rfl, h2.frozen _⟩⟩
theorem kp_S2 {w V : World} {S : Nat → Prop} {g g' : Nat} {m : Mm} {d : Dk} {N : Nat} {F0 F1 : Nat → Fl} {G0 G1 : Nat → Option Nat} (hF : F0 = (fun k => d.fl (8 * 0 + k)) ∧ G0 = (fun k => m.M (8 * 0 + k)) ∧ F1 = (fun k => d.fl (8 * 1 + k)) ∧ G1 = (fun k => m.M (8 * 1 + k))) (hm : DkAt w S g m d N) (h : Kp w g' V) :
    V.rangeAt g 0 (flL F0 G0) ∧ V.rangeAt g 16 (flL F1 G1) ∧ V.there g' 0 16 ∧ V.there g' 16 16 := by
  obtain ⟨rfl, rfl, rfl, rfl⟩ := hF
  exact kp_S hm h
theorem fl_below {w V : World} {S : Nat → Prop} {g : Nat} {m : Mm} {d : Dk} {N : Nat} (hm : DkAt w S g m d N) (s : Nat) (hs : s < 2) (hb : Below w.heap.size w V) : ∀ k, k < 8 → FL V (m.M (8 * s + k)) (d.fl (8 * s + k)) :=
  fun k hk => fm_keep (hm.fl _ (by omega)) (fun b e => hb.block b (hm.lt _ (hm.sm _ (by omega) b e)))
theorem cp_fr {B g' : Nat} {fl : Nat → Fl} {M : Nat → Option Nat} {n : Nat} {W W' : World} (h : Cp B fl M n W) (hf : Fr (fun x => x = g') W W') (hg : g' < B) : Cp B fl M n W' :=
  ⟨fun k hk => fm_keep (h.fl k hk) (fun b e => hf.block b (by have := h.fl k hk; rw [e] at this; exact fm_lt this) (fun e2 => by have := h.new k hk b e; omega)), h.new, h.ap⟩
theorem cp_lt {B : Nat} {fl : Nat → Fl} {M : Nat → Option Nat} {n : Nat} {W : World} (h : Cp B fl M n W) {k b : Nat} (hk : k < n) (e : M k = some b) : b < W.heap.size := by
  have := h.fl k hk
  rw [e] at this
  exact fm_lt this
set_option maxRecDepth 100000 in
set_option maxHeartbeats 8000000 in
theorem copy_any (S : Nat → Prop) (g : Nat) (d : Dk) (N : Nat) (w : World) (h : DkS w S g d N) :
    Calls Try.prog 23 #[.pointer (some ⟨g, 0, none⟩)] w fun e w' => ∃ g' S', e = .returned (.pointer (some ⟨g', 0, none⟩)) ∧ DkS w' S' g' d N ∧ (∀ b, S' b → w.heap.size ≤ b) ∧ Below w.heap.size w w' := by
  obtain ⟨m, hm⟩ := h
  have hrg : w.rangeAt g 0 (dkL d m) := fun j v hv => by rw [hm.blk.cell, Nat.zero_add]; unfold dkA; simpa [dkL] using hv
  have hu := Try.underlying70
  have hs37 : (Try.prog.info? 70).map (·.size) = some (dkL d m).length := by rw [dkL_length]; kernel_rfl
  have hs37a : (Try.prog.info? 70).map (·.size) = some (dkL d m).toArray.size := by rw [List.size_toArray, dkL_length]; kernel_rfl
  have hst : (storeCells ⟨w.heap.size, 0, none⟩ (dkL d m)).run Try.prog (w.alloc (.cells #[.int .i64 0, .map none, .int .i64 0, .map none, .int .i64 0, .map none, .int .i64 0, .map none, .int .i64 0, .map none, .int .i64 0, .map none, .int .i64 0, .map none, .int .i64 0, .map none, .int .i64 0, .map none, .int .i64 0, .map none, .int .i64 0, .map none, .int .i64 0, .map none, .int .i64 0, .map none, .int .i64 0, .map none, .int .i64 0, .map none, .int .i64 0, .map none, .slice none 0 0, .map none, .int .i64 0, .int .i64 0, .bool false] 70)) = .ok () (w.alloc (.cells (dkL d m).toArray 70)) :=
    run_storeCells_new (P := Try.prog) w 70 #[.int .i64 0, .map none, .int .i64 0, .map none, .int .i64 0, .map none, .int .i64 0, .map none, .int .i64 0, .map none, .int .i64 0, .map none, .int .i64 0, .map none, .int .i64 0, .map none, .int .i64 0, .map none, .int .i64 0, .map none, .int .i64 0, .map none, .int .i64 0, .map none, .int .i64 0, .map none, .int .i64 0, .map none, .int .i64 0, .map none, .int .i64 0, .map none, .slice none 0 0, .map none, .int .i64 0, .int .i64 0, .bool false] (dkL d m).toArray hs37a (by show _ = (dkL d m).length; rw [dkL_length]; kernel_rfl) (all_oneCell_toArray (dkL_one d m))
  have hl37 := dkL_length d m
  have HM := Lib.hid hm
  have HRG := Lib.hid hrg
  clear hm
  go_enter Try.func23, Try.ntmps23
  go_wp2_with (first | (refine wpList_load_mid rfl 70 (.tmp 7) rfl g 0 rfl (dkL d m) _ hrg hu rfl hs37 ?_))
  have HKA := Lib.hid (show Kp w w.heap.size (w.alloc (.cells (dkL d m).toArray 70)).drew from ⟨bj one_alloc (Below.refl _ _).drew, _, (Blk.new w 70 (dkL d m).toArray).drew, by rw [List.size_toArray, dkL_length]⟩)
  obtain ⟨F0, G0, F1, G1, hF⟩ : ∃ (F0 : Nat → _) (G0 : Nat → _) (F1 : Nat → _) (G1 : Nat → _), F0 = (fun k => d.fl (8 * 0 + k)) ∧ G0 = (fun k => m.M (8 * 0 + k)) ∧ F1 = (fun k => d.fl (8 * 1 + k)) ∧ G1 = (fun k => m.M (8 * 1 + k)) := ⟨_, _, _, _, rfl, rfl, rfl, rfl⟩
  have HC0 := Lib.hid (fun V (hb : Below w.heap.size w V) => copied_any F0 G0 V (by rw [hF.1, hF.2.1]; exact fl_below HM.out 0 (by omega) hb))
  have HC1 := Lib.hid (fun V (hb : Below w.heap.size w V) => copied_any F1 G1 V (by rw [hF.2.2.1, hF.2.2.2]; exact fl_below HM.out 1 (by omega) hb))
  have EF := Lib.hid hF
  clear hF
  have hu2 := Try.underlying67
  have hi0 : (Try.prog.info? 67).map (·.size) = some (flL F0 G0).length := by rw [flL_length]; kernel_rfl
  have hi1 : (Try.prog.info? 67).map (·.size) = some (flL F1 G1).length := by rw [flL_length]; kernel_rfl
  have hi16 : (Try.prog.info? 67).map (·.size) = some 16 := by kernel_rfl
  clear hrg hs37 hs37a hst hl37 hu
  -- region 4
  refine wp_region_held_drew (S := (fun V => V.rangeAt g 0 (flL F0 G0) ∧ V.rangeAt g 16 (flL F1 G1) ∧ V.there w.heap.size 0 16 ∧ V.there w.heap.size 16 16)) (by kernel_rfl) (kp_S2 EF.out HM.out HKA.out) (fun hHeld => ?_)
  refine wpAnyH_take (i := 0) (v := ?_) rfl (by kernel_rfl) (by kernel_rfl) (by kernel_rfl) (fun _ _ _ h => h) (Or.inl ⟨by rfl, ?hy0⟩) (by assumption) ?_
  case hy0 => intro w1 hSw; go_simp; try with_reducible rfl
  try simp only [Act.put, List.getElem_toArray, List.getElem_cons_succ, List.getElem_cons_zero, List.setIfInBounds_toArray, List.set_cons_zero, List.set_cons_succ]
  refine wpAnyH_take (i := 1) (v := ?_) rfl (by kernel_rfl) (by kernel_rfl) (by kernel_rfl) (fun _ _ _ h => h) (Or.inl ⟨by rfl, ?hy1⟩) (by assumption) ?_
  case hy1 => intro w1 hSw; go_simp; try with_reducible rfl
  try simp only [Act.put, List.getElem_toArray, List.getElem_cons_succ, List.getElem_cons_zero, List.setIfInBounds_toArray, List.set_cons_zero, List.set_cons_succ]
  refine wpAnyH_take (i := 2) (v := ?_) rfl (by kernel_rfl) (by kernel_rfl) (by kernel_rfl) (fun _ _ _ h => h) (Or.inl ⟨by rfl, ?hy2⟩) (by assumption) ?_
  case hy2 => intro w1 hSw; go_simp; try with_reducible rfl
  try simp only [Act.put, List.getElem_toArray, List.getElem_cons_succ, List.getElem_cons_zero, List.setIfInBounds_toArray, List.set_cons_zero, List.set_cons_succ]
  refine wpAnyH_take (i := 3) (v := .agg (flL F0 G0).toArray) rfl (by kernel_rfl) (by kernel_rfl) (by kernel_rfl) (fun _ _ _ h => h) (yieldsIf_load_mid (by rfl) _ _ rfl g 0 rfl (flL F0 G0) _ (fun w hSw => hSw.1) hu2 rfl hi0) (by assumption) ?_
  try simp only [Act.put, List.getElem_toArray, List.getElem_cons_succ, List.getElem_cons_zero, List.setIfInBounds_toArray, List.set_cons_zero, List.set_cons_succ]
  refine wpAnyH_take (i := 5) (v := ?_) rfl (by kernel_rfl) (by kernel_rfl) (by kernel_rfl) (fun _ _ _ h => h) (Or.inl ⟨by rfl, ?hy5⟩) (by assumption) ?_
  case hy5 => intro w1 hSw; go_simp; try with_reducible rfl
  try simp only [Act.put, List.getElem_toArray, List.getElem_cons_succ, List.getElem_cons_zero, List.setIfInBounds_toArray, List.set_cons_zero, List.set_cons_succ]
  refine wpAnyH_take (i := 6) (v := ?_) rfl (by kernel_rfl) (by kernel_rfl) (by kernel_rfl) (fun _ _ _ h => h) (Or.inl ⟨by rfl, ?hy6⟩) (by assumption) ?_
  case hy6 => intro w1 hSw; go_simp; try with_reducible rfl
  try simp only [Act.put, List.getElem_toArray, List.getElem_cons_succ, List.getElem_cons_zero, List.setIfInBounds_toArray, List.set_cons_zero, List.set_cons_succ]
  refine wpAnyH_take (i := 7) (v := ?_) rfl (by kernel_rfl) (by kernel_rfl) (by kernel_rfl) (fun _ _ _ h => h) (Or.inl ⟨by rfl, ?hy7⟩) (by assumption) ?_
  case hy7 => intro w1 hSw; go_simp; try with_reducible rfl
  try simp only [Act.put, List.getElem_toArray, List.getElem_cons_succ, List.getElem_cons_zero, List.setIfInBounds_toArray, List.set_cons_zero, List.set_cons_succ]
  refine wpAnyH_take (i := 8) (v := .agg (flL F1 G1).toArray) rfl (by kernel_rfl) (by kernel_rfl) (by kernel_rfl) (fun _ _ _ h => h) (yieldsIf_load_mid (by rfl) _ _ rfl g 16 rfl (flL F1 G1) _ (fun w hSw => hSw.2.1) hu2 rfl hi1) (by assumption) ?_
  try simp only [Act.put, List.getElem_toArray, List.getElem_cons_succ, List.getElem_cons_zero, List.setIfInBounds_toArray, List.set_cons_zero, List.set_cons_succ]
  refine wpAnyH_ready (rs := [4]) (by kernel_rfl) (by simp) ?_
  refine AllReadyH.cons rfl (fun K hK => ?_) AllReadyH.nil
  go_simp
  refine (HC0.out _ HKA.out.1).mono ?_
  rintro e w0 ⟨M0, rfl, hc0, hb0⟩
  dsimp only
  have HK1 := Lib.hid (kp_step HKA.out hb0)
  have HCP0 := Lib.hid (And.intro hc0 hb0)
  clear hHeld
  refine hK.out _ _ (kp_S2 EF.out HM.out HK1.out) (fun hHeld => ?_)
  clear hK K hc0 hb0
  try simp only [Act.put, List.getElem_toArray, List.getElem_cons_succ, List.getElem_cons_zero, List.setIfInBounds_toArray, List.set_cons_zero, List.set_cons_succ]
  refine wpAnyH_ready (rs := [9]) (by kernel_rfl) (by simp) ?_
  refine AllReadyH.cons rfl (fun K hK => ?_) AllReadyH.nil
  go_simp
  refine (HC1.out _ HK1.out.1).mono ?_
  rintro e w1 ⟨M1, rfl, hc1, hb1⟩
  dsimp only
  have HK2 := Lib.hid (kp_step HK1.out hb1)
  have HCP1 := Lib.hid (And.intro hc1 hb1)
  clear hHeld
  refine hK.out _ _ (kp_S2 EF.out HM.out HK2.out) (fun hHeld => ?_)
  clear hK K hc1 hb1
  try simp only [Act.put, List.getElem_toArray, List.getElem_cons_succ, List.getElem_cons_zero, List.setIfInBounds_toArray, List.set_cons_zero, List.set_cons_succ]
  have hl0 := flL_length F0 M0
  have hl1 := flL_length F1 M1
  have HK3 := Lib.hid (kp_set HK2.out (Nat.le_refl _) 0 (flL F0 M0) (by rw [hl0]; omega))
  obtain ⟨W5, eW5⟩ : ∃ W5, W5 = w1.setCells w.heap.size 0 (flL F0 M0) := ⟨_, rfl⟩
  rw [← eW5] at HK3
  have HK4 := Lib.hid (kp_set HK3.out (Nat.le_refl _) 16 (flL F1 M1) (by rw [hl1]; omega))
  obtain ⟨W6, eW6⟩ : ∃ W6, W6 = W5.setCells w.heap.size 16 (flL F1 M1) := ⟨_, rfl⟩
  rw [← eW6] at HK4
  refine wpAnyH_take (i := 10) (v := ?_) rfl (by kernel_rfl) (by kernel_rfl) (by kernel_rfl) (fun _ _ _ h => h) (Or.inl ⟨by rfl, ?hy10⟩) (by assumption) ?_
  case hy10 => intro w1 hSw; go_simp; try with_reducible rfl
  try simp only [Act.put, List.getElem_toArray, List.getElem_cons_succ, List.getElem_cons_zero, List.setIfInBounds_toArray, List.set_cons_zero, List.set_cons_succ]
  refine wpAnyH_ready (rs := [11]) (by kernel_rfl) (by simp) ?_
  apply AllReadyH.cons
  case ho => rfl
  rotate_left 1
  · exact AllReadyH.nil
  intro K hK
  rw [if_pos (by rfl)]
  have hz0 : (flL F0 M0).toArray.size = 16 := by rw [List.size_toArray, hl0]
  have hth0 := (show w1.there w.heap.size 0 (flL F0 M0).toArray.size by rw [hz0]; exact (kp_S2 EF.out HM.out HK2.out).2.2.1)
  have hsz0 : (Try.prog.info? 67).map (·.size) = some (flL F0 M0).toArray.size := by rw [hz0]; exact hi16
  refine wp_store_mid _ _ _ rfl w.heap.size 0 (flL F0 M0).toArray rfl rfl hth0 hsz0 (all_oneCell_toArray (flL_one _ _)) ?_
  clear hHeld
  try simp only [Act.put, List.getElem_toArray, List.getElem_cons_succ, List.getElem_cons_zero, List.setIfInBounds_toArray, List.set_cons_zero, List.set_cons_succ, List.toList_toArray]
  rw [← eW5]
  refine hK.out _ _ (kp_S2 EF.out HM.out HK3.out) (fun hHeld => ?_)
  clear hK K
  try simp only [Act.put, List.getElem_toArray, List.getElem_cons_succ, List.getElem_cons_zero, List.setIfInBounds_toArray, List.set_cons_zero, List.set_cons_succ]
  refine wpAnyH_take (i := 12) (v := ?_) rfl (by kernel_rfl) (by kernel_rfl) (by kernel_rfl) (fun _ _ _ h => h) (Or.inl ⟨by rfl, ?hy12⟩) (by assumption) ?_
  case hy12 => intro w1 hSw; go_simp; try with_reducible rfl
  try simp only [Act.put, List.getElem_toArray, List.getElem_cons_succ, List.getElem_cons_zero, List.setIfInBounds_toArray, List.set_cons_zero, List.set_cons_succ]
  refine wpAnyH_ready (rs := [13]) (by kernel_rfl) (by simp) ?_
  apply AllReadyH.cons
  case ho => rfl
  rotate_left 1
  · exact AllReadyH.nil
  intro K hK
  rw [if_pos (by rfl)]
  have hz1 : (flL F1 M1).toArray.size = 16 := by rw [List.size_toArray, hl1]
  have hth1 := (show W5.there w.heap.size 16 (flL F1 M1).toArray.size by rw [hz1]; exact (kp_S2 EF.out HM.out HK3.out).2.2.2)
  have hsz1 : (Try.prog.info? 67).map (·.size) = some (flL F1 M1).toArray.size := by rw [hz1]; exact hi16
  refine wp_store_mid _ _ _ rfl w.heap.size 16 (flL F1 M1).toArray rfl rfl hth1 hsz1 (all_oneCell_toArray (flL_one _ _)) ?_
  clear hHeld
  try simp only [Act.put, List.getElem_toArray, List.getElem_cons_succ, List.getElem_cons_zero, List.setIfInBounds_toArray, List.set_cons_zero, List.set_cons_succ, List.toList_toArray]
  rw [← eW6]
  refine hK.out _ _ (kp_S2 EF.out HM.out HK4.out) (fun hHeld => ?_)
  clear hK K
  try simp only [Act.put, List.getElem_toArray, List.getElem_cons_succ, List.getElem_cons_zero, List.setIfInBounds_toArray, List.set_cons_zero, List.set_cons_succ]
  refine wpAnyH_done (by kernel_rfl) ?_ _
  clear hth0 hsz0 hz0 hth1 hsz1 hz1 hHeld
  have hE := EF.out
  have EE := EF
  have HM6 := Lib.hid (dkAt_below HM.out HK4.out.1)
  have hglt : g < w.heap.size := HM.out.lt _ HM.out.sg
  have HB6 := Lib.hid (show Blk W6 w.heap.size 70 (dkA d { m with M := bothM M0 M1 }) from by
    rw [eW6, eW5, hE.1, hE.2.2.1]
    exact copy_blk (blk_step (blk_step (Blk.new w 70 (dkL d m).toArray).drew HCP0.out.2) HCP1.out.2) M0 M1)
  have HF6 := Lib.hid (show Fr (fun x => x = w.heap.size) w1 W6 from by
    rw [eW6, eW5]
    exact fr_trans (fr_setCells _ _ _) (fr_setCells _ _ _) (fun b hb => .inl hb))
  have hc32 : W6.cell? ⟨g, 32, none⟩ = some (.slice m.A d.loose.length m.cap) := by rw [HM6.out.blk.cell, dkA_get _ _ (by omega)]; rfl
  have HSC := Lib.hid (sclone_any HM6.out.loo HM6.out.chs rfl (by have := HM6.out.cN; omega))
  clear EF hl0 hl1 eW5 eW6 hi0 hi1 hi16 hu2 hE
  go_wp2_with (first
    | (go_at_call 53
       go_loud (
         refine HSC.out.mono ?_
         rintro e w7 ⟨A', c', rfl, ho7, hz7, hb7⟩
         have HB7 := Lib.hid (blk_step HB6.out hb7)
         have HM7 := Lib.hid (dkAt_below HM6.out hb7)
         have HO7 := Lib.hid (And.intro ho7 (And.intro hz7 hb7))
         have k32 : w7.cell? ⟨w.heap.size, 32, none⟩ = some (.slice m.A d.loose.length m.cap) := by rw [HB7.out.cell, dkA_get _ _ (by omega)]; rfl
         have z32 : w7.frozen? ⟨w.heap.size, 32, none⟩ = false := HB7.out.frozen _
         have k33 : w7.cell? ⟨w.heap.size, 33, none⟩ = some (.map (some m.ga)) := by rw [HB7.out.cell, dkA_get _ _ (by omega)]; rfl
         have g33 : w7.cell? ⟨g, 33, none⟩ = some (.map (some m.ga)) := by rw [HM7.out.blk.cell, dkA_get _ _ (by omega)]; rfl
         have hne : ¬ g = w.heap.size := by omega
         have hne2 : ¬ w.heap.size = g := by omega
         have HF8 := Lib.hid (show Fr (fun x => x = w.heap.size) w7 (w7.setCell ⟨w.heap.size, 32, none⟩ (.slice A' d.loose.length c')) from fr_set (p := ⟨w.heap.size, 32, none⟩) (fr_refl (fun x => x = w.heap.size) w7) (.inl rfl) _)
         have HM8 := Lib.hid (dkAt_below HM.out ((bj HK4.out.1 hb7).trans (fr_below HF8.out (fun k hk => by omega) (bj HK4.out.1 hb7).size)))
         have HB8 := Lib.hid (show Blk (w7.setCell ⟨w.heap.size, 32, none⟩ (.slice A' d.loose.length c')) w.heap.size 70 (dkA d ⟨bothM M0 M1, m.ga, A', c'⟩) from by
           have := HB7.out.set_ 32 (.slice A' d.loose.length c')
           rwa [dkA_loose d _ d.loose A' c' _ rfl] at this)
         obtain ⟨D, na, hna, hoA, hkA⟩ := HM8.out.arm
         have HMC := Lib.hid (mclone_arm hoA)
         have HAR := Lib.hid (And.intro hna hkA)
         clear hna hoA hkA ho7 hz7 hb7))
    | (go_at_call 54; refine HMC.out.mono ?_; rintro e w9 ⟨b9, rfl, ho9, hb9, hw9⟩
       have HB9 := Lib.hid (blk_step HB8.out hw9)
       have HO9 := Lib.hid (And.intro ho9 (And.intro hb9 hw9))
       have j33 : w9.cell? ⟨w.heap.size, 33, none⟩ = some (.map (some m.ga)) := by rw [HB9.out.cell, dkA_get _ _ (by omega)]; rfl
       have y33 : w9.frozen? ⟨w.heap.size, 33, none⟩ = false := HB9.out.frozen _
       clear ho9 hb9 hw9))
  go_ret
  obtain ⟨ho7, hz7, hb7⟩ := HO7.out
  obtain ⟨ho9, hb9, hw9⟩ := HO9.out
  obtain ⟨hna, hkA⟩ := HAR.out
  obtain ⟨hc0, hw0⟩ := HCP0.out
  obtain ⟨hc1, hw1⟩ := HCP1.out
  obtain ⟨eF0, _, eF1, _⟩ := EE.out
  have hF9 : Fr (fun x => x = w.heap.size) w9 (w9.setCell ⟨w.heap.size, 33, none⟩ (.map (some b9))) := fr_set (p := ⟨w.heap.size, 33, none⟩) (fr_refl (fun x => x = w.heap.size) w9) (.inl rfl) _
  have hin : ∀ (u : World) (b : Nat), b = w.heap.size → b = w.heap.size ∨ u.heap.size ≤ b := fun u b h => .inl h
  have hF7 := fr_trans (fr_step HF8.out hw9) hF9 (hin _)
  have hF1 := fr_trans (fr_step HF6.out hb7) hF7 (hin _)
  have hF0 := fr_trans (fr_of (S := fun x => x = w.heap.size) hw1) hF1 (hin _)
  have sA : w.heap.size < (w.alloc (.cells (dkL d m).toArray 70)).drew.heap.size := by show w.heap.size < (w.heap.push _).size; rw [Array.size_push]; omega
  have s0 := hw0.size
  have s1 := hw1.size
  have s6 := HF6.out.size
  have s7 := hb7.size
  have s8 := HF8.out.size
  have s9 := hw9.size
  have hB8 : Below w.heap.size w (w7.setCell ⟨w.heap.size, 32, none⟩ (.slice A' d.loose.length c')) := (bj HK4.out.1 hb7).trans (fr_below HF8.out (fun k hk => by omega) (bj HK4.out.1 hb7).size)
  have hBV := (bj hB8 hw9).trans (fr_below hF9 (fun k hk => by omega) (bj hB8 hw9).size)
  rw [eF0] at hc0
  rw [eF1] at hc1
  have hblk := HB9.out.set_ 33 (.map (some b9))
  rw [dkA_ga] at hblk
  obtain ⟨S', h1, h2⟩ := copy_end HM.out (ga := b9) (B3 := w1.heap.size) hblk (cp_fr hc0 hF0 sA) (cp_fr hc1 hF1 (by omega)) (fun k hk b e => cp_lt hc0 hk e)
    (fun k hk b e => by
      rcases e with e | e
      · have := cp_lt hc0 hk e
        omega
      · exact cp_lt hc1 hk e)
    ⟨D, na, hna, arm_block ho9 (hF9.block b9 ho9.lt (by omega)), hkA⟩ (by omega) (own_block ho7 (fun z hz => hF7.block z (ho7.lt z hz).2 (by have := hz7 z hz; omega)))
    (fun z hz => by have := hz7 z hz; omega) (Nat.le_refl _) sA (by omega) (by omega)
  exact ⟨_, S', rfl, h1, h2, hBV⟩
end Go.Proofs.Ythipaabjmlgjmaa
namespace Go.Proofs.Ythipaabjmlgjmaa
open Go.RowKit Go Go.Maps
set_option linter.unusedVariables false
set_option linter.unusedSimpArgs false
set_option maxRecDepth 100000 in
set_option maxHeartbeats 4000000 in
theorem read_nil (f a n : Int) (w : World) : Calls Try.prog 33 #[.pointer none, .int .i64 f, .int .i64 a, .int .i64 n] w fun e w' => e = .returned (.tuple #[.string ⟨#[]⟩, .int .i64 1]) ∧ w = w' := by
  have HR := Lib.hid (fun W => ready_nil f W)
  go_enter Try.func33, Try.ntmps33
  go_wp2_with (go_at_call 50; refine (HR.out _).mono ?_; rintro e w' ⟨rfl, rfl⟩)
  go_ret2
  exact ⟨rfl, rfl⟩
set_option maxRecDepth 100000 in
set_option maxHeartbeats 4000000 in
theorem write_nil (f a : Int) (s : ByteArray) (w : World) : Calls Try.prog 22 #[.pointer none, .int .i64 f, .int .i64 a, .string s] w fun e w' => e = .returned (.int .i64 1) ∧ w = w' := by
  have HR := Lib.hid (fun W => ready_nil f W)
  go_enter Try.func22, Try.ntmps22
  go_wp2_with (go_at_call 50; refine (HR.out _).mono ?_; rintro e w' ⟨rfl, rfl⟩)
  go_ret
  exact ⟨rfl, rfl⟩
set_option maxRecDepth 100000 in
set_option maxHeartbeats 4000000 in
theorem cut_nil (f a : Int) (w : World) : Calls Try.prog 76 #[.pointer none, .int .i64 f, .int .i64 a] w fun e w' => e = .returned (.int .i64 1) ∧ w = w' := by
  have HR := Lib.hid (fun W => ready_nil f W)
  go_enter Try.func76, Try.ntmps76
  go_wp2_with (go_at_call 50; refine (HR.out _).mono ?_; rintro e w' ⟨rfl, rfl⟩)
  go_ret
  exact ⟨rfl, rfl⟩
set_option maxRecDepth 100000 in
set_option maxHeartbeats 4000000 in
theorem sync_nil (f : Int) (w : World) : Calls Try.prog 47 #[.pointer none, .int .i64 f] w fun e w' => e = .returned (.int .i64 1) ∧ w = w' := by
  have HR := Lib.hid (fun W => ready_nil f W)
  go_enter Try.func47, Try.ntmps47
  go_wp2_with (go_at_call 50; refine (HR.out _).mono ?_; rintro e w' ⟨rfl, rfl⟩)
  go_ret
  exact ⟨rfl, rfl⟩
/-- what a law knows of a disk that it made: where it lies, what it is, how many steps it has gone -/
def Kd (w0 : World) (g : Nat) (d : Dk) (N : Nat) (W : World) : Prop := ∃ S, DkS W S g d N ∧ (∀ b, S b → w0.heap.size ≤ b) ∧ Below w0.heap.size w0 W
theorem kd_r {w0 W W' : World} {S : Nat → Prop} {g : Nat} {d' : Dk} {N' : Nat} (hS : ∀ b, S b → w0.heap.size ≤ b) (hb : Below w0.heap.size w0 W) (h : DkR W S g d' N' W') : Kd w0 g d' N' W' := by
  obtain ⟨S', h1, h2, h3⟩ := h
  refine ⟨S', h1, fun b hs => ?_, hb.trans (fr_below h2 hS hb.size)⟩
  rcases h3 b hs with h4 | h4
  · exact hS b h4
  · exact Nat.le_trans hb.size h4
theorem kd_below {w0 W W' : World} {g : Nat} {d : Dk} {N : Nat} (h : Kd w0 g d N W) (hb : Below W.heap.size W W') : Kd w0 g d N W' := by
  obtain ⟨S, h1, h2, h3⟩ := h
  exact ⟨S, dkS_below h1 hb, h2, bj h3 hb⟩
theorem kd_b {w0 W : World} {g : Nat} {d : Dk} {N : Nat} (h : Kd w0 g d N W) : Below w0.heap.size w0 W := by
  obtain ⟨S, h1, h2, h3⟩ := h
  exact h3
theorem kd_new {w0 W : World} (hb : Below w0.heap.size w0 W) : Calls Try.prog 7 #[] W fun e w' => e = .returned (.pointer (some ⟨W.heap.size + 1, 0, none⟩)) ∧ Kd w0 (W.heap.size + 1) newD 0 w' :=
  (new_any W).mono fun e w' ⟨he, hd, hw⟩ => ⟨he, _, hd, fun b hs => by have := hb.size; rcases hs with rfl | rfl <;> omega, bj hb hw⟩
theorem kd_write {w0 W : World} {g : Nat} {d : Dk} {N : Nat} (h : Kd w0 g d N W) (f pl : Int) (s : ByteArray) (hN : N + 1 ≤ 1000000) (hs : s.size ≤ 140737488351232) : Calls Try.prog 22 #[.pointer (some ⟨g, 0, none⟩), .int .i64 f, .int .i64 pl, .string s] W fun e w' => e = .returned (.int .i64 ((writeD d f pl s).2)) ∧ Kd w0 g (writeD d f pl s).1 (N + 1) w' := by
  obtain ⟨S, h1, h2, h3⟩ := h
  exact (write_any S g d N hN f pl s hs W h1).mono fun e w' ⟨he, hr⟩ => ⟨he, kd_r h2 h3 hr⟩
theorem kd_cut {w0 W : World} {g : Nat} {d : Dk} {N : Nat} (h : Kd w0 g d N W) (f n : Int) (hN : N + 1 ≤ 1000000) : Calls Try.prog 76 #[.pointer (some ⟨g, 0, none⟩), .int .i64 f, .int .i64 n] W fun e w' => e = .returned (.int .i64 ((cutD d f n).2)) ∧ Kd w0 g (cutD d f n).1 (N + 1) w' := by
  obtain ⟨S, h1, h2, h3⟩ := h
  exact (cut_any S g d N hN f n W h1).mono fun e w' ⟨he, hr⟩ => ⟨he, kd_r h2 h3 hr⟩
theorem kd_sync {w0 W : World} {g : Nat} {d : Dk} {N : Nat} (h : Kd w0 g d N W) (f : Int) (hN : N + 1 ≤ 1000000) : Calls Try.prog 47 #[.pointer (some ⟨g, 0, none⟩), .int .i64 f] W fun e w' => e = .returned (.int .i64 ((syncD d f).2)) ∧ Kd w0 g (syncD d f).1 (N + 1) w' := by
  obtain ⟨S, h1, h2, h3⟩ := h
  exact (sync_any S g d N hN f W h1).mono fun e w' ⟨he, hr⟩ => ⟨he, kd_r h2 h3 hr⟩
theorem kd_read {w0 W : World} {g : Nat} {d : Dk} {N : Nat} (h : Kd w0 g d N W) (f a n : Int) (ha : -9223372036854775808 ≤ a ∧ a ≤ 9223372036854775807) :
    Calls Try.prog 33 #[.pointer (some ⟨g, 0, none⟩), .int .i64 f, .int .i64 a, .int .i64 n] W fun e w' => e = .returned (.tuple #[.string (readD d f a n).1, .int .i64 (readD d f a n).2]) ∧ Below W.heap.size W w' := by
  obtain ⟨S, h1, h2, h3⟩ := h
  exact read_any S g d N f a n ha W h1
theorem kd_new2 {w0 W : World} (hb : Below w0.heap.size w0 W) : Calls Try.prog 7 #[] W fun e w' => e = .returned (.pointer (some ⟨W.heap.size + 1, 0, none⟩)) ∧ Kd w0 (W.heap.size + 1) newD 0 w' ∧ Below W.heap.size W w' :=
  (new_any W).mono fun e w' ⟨he, hd, hw⟩ => ⟨he, ⟨_, hd, fun b hs => by have := hb.size; rcases hs with rfl | rfl <;> omega, bj hb hw⟩, hw⟩
theorem kd_size {w0 W : World} {g : Nat} {d : Dk} {N : Nat} (h : Kd w0 g d N W) (f : Int) : Calls Try.prog 16 #[.pointer (some ⟨g, 0, none⟩), .int .i64 f] W fun e w' => e = .returned (.int .i64 (sizeD d f)) ∧ W = w' := by
  obtain ⟨S, h1, h2, h3⟩ := h
  exact size_any S g d N f W h1
theorem kd_loose {w0 W : World} {g : Nat} {d : Dk} {N : Nat} (h : Kd w0 g d N W) : Calls Try.prog 18 #[.pointer (some ⟨g, 0, none⟩)] W fun e w' => e = .returned (.int .i64 (d.loose.length : Nat)) ∧ W = w' := by
  obtain ⟨S, h1, h2, h3⟩ := h
  exact loose_any S g d N W h1
theorem kd_ops {w0 W : World} {g : Nat} {d : Dk} {N : Nat} (h : Kd w0 g d N W) : Calls Try.prog 15 #[.pointer (some ⟨g, 0, none⟩)] W fun e w' => e = .returned (.int .i64 d.ops) ∧ W = w' := by
  obtain ⟨S, h1, h2, h3⟩ := h
  exact ops_any S g d N W h1
theorem kd_on {w0 W : World} {g : Nat} {d : Dk} {N : Nat} (h : Kd w0 g d N W) : Calls Try.prog 27 #[.pointer (some ⟨g, 0, none⟩)] W fun e w' => e = .returned (.bool !d.off) ∧ W = w' := by
  obtain ⟨S, h1, h2, h3⟩ := h
  exact on_any S g d N W h1
theorem kd_copy {w0 W : World} {g : Nat} {d : Dk} {N : Nat} (h : Kd w0 g d N W) : Calls Try.prog 23 #[.pointer (some ⟨g, 0, none⟩)] W fun e w' => ∃ g', e = .returned (.pointer (some ⟨g', 0, none⟩)) ∧ Kd w0 g' d N w' ∧ (∀ b, b < W.heap.size → b ≠ g') ∧ Below W.heap.size W w' := by
  obtain ⟨S, h1, h2, h3⟩ := h
  refine (copy_any S g d N W h1).mono fun e w' ⟨g', S', he, hd, hs, hb⟩ => ⟨g', he, ⟨S', hd, fun b hb2 => Nat.le_trans h3.size (hs b hb2), bj h3 hb⟩, fun b hlt e2 => ?_, hb⟩
  obtain ⟨m, hm⟩ := hd
  have := hs g' hm.sg
  omega
/-- a sector of a byte -/
def secS (c : Nat) : ByteArray := bstr (List.replicate 64 c)
theorem rep_flat1 (c : UInt8) (n : Nat) : Lib.repeatL [c] n = (List.replicate n c.toNat : List Nat).map UInt8.ofNat := by
  induction n with
  | zero => rfl
  | succ n ih => simp [Lib.repeatL, List.replicate_succ] at ih ⊢; try exact ih
end Go.Proofs.Ythipaabjmlgjmaa
