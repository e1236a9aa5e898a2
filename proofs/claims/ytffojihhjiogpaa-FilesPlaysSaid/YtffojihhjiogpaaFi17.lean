/- Layer 3: files.Crash. Conditions: those of each lemma. -/
import Derived.Test.YtffojihhjiogpaaFi16
namespace Go.Proofs.Ytffojihhjiogpaa
open Go.RowKit Go Go.Maps
set_option linter.unusedVariables false
set_option linter.unusedSimpArgs false
/-- of the loose changes those that are kept -/
def kept : List Bool → List Ch → List Ch
  | b :: k, c :: l => (if b then [c] else []) ++ kept k l
  | _, _ => []
theorem kept_nil (l : List Ch) : kept [] l = [] := by cases l <;> rfl
theorem kept_snoc : ∀ (k : List Bool) (l : List Ch) (x : Ch), kept k (l ++ [x]) = kept k l ++ (if k.getD l.length false then [x] else [])
  | [], l, x => by rw [kept_nil, kept_nil]; rfl
  | b :: k, [], x => by cases b <;> simp [kept]
  | b :: k, c :: l, x => by
    have := kept_snoc k l x
    rw [List.cons_append, kept, kept, this, List.append_assoc, List.length_cons, List.getD_cons_succ]
theorem kept_sub : ∀ (k : List Bool) (l : List Ch), ∀ x ∈ kept k l, x ∈ l
  | [], l, x, h => by rw [kept_nil] at h; cases h
  | b :: k, [], x, h => by cases h
  | b :: k, c :: l, x, h => by
    rw [kept] at h
    rcases List.mem_append.1 h with h1 | h1
    · cases b with
      | true => simp at h1; subst h1; exact List.mem_cons_self ..
      | false => simp at h1
    · exact List.mem_cons_of_mem _ (kept_sub k l x h1)
/-- a slice of truths as it is read -/
def BsAt (W : World) (A : Option Addr) (l : List Bool) : Prop := l = [] ∨ ∃ b o, A = some ⟨b, o, none⟩ ∧ b < W.heap.size ∧ ∀ j v, l[j]? = some v → W.cell? ⟨b, o + j, none⟩ = some (.bool v)
theorem bs_fr {S : Nat → Prop} {w W : World} {A : Option Addr} {l : List Bool} (h : BsAt w A l) (hf : Fr S w W) (hA : l ≠ [] → ∀ a, A = some a → ¬ S a.block) : BsAt W A l := by
  rcases h with h | ⟨b, o, rfl, hb, hc⟩
  · exact .inl h
  by_cases hl : l = []
  · exact .inl hl
  · refine .inr ⟨b, o, rfl, Nat.lt_of_lt_of_le hb hf.size, fun j v hv => ?_⟩
    exact (World.cell?_of_block (a := ⟨b, o + j, none⟩) (hf.block b hb (hA hl _ rfl))).trans (hc j v hv)
/-- the disk behind a crash -/
def crash1 (d : Dk) : Dk := ⟨fun i => if i < 8 then d.fl (8 + i) else d.fl i, [], fun _ => 0, -1, d.ops, false⟩
def crashD (d : Dk) (k : List Bool) : Dk := crash1 (doneAll 1 d (kept k d.loose))
def nowF (d : Dk) : Dk := { d with fl := fun i => if i < 8 then d.fl (8 + i) else d.fl i }
def Mm.now (m : Mm) (M' : Nat → Option Nat) : Mm := { m with M := fun i => if i < 8 then M' i else m.M i }
theorem sure_cells {W : World} {g : Nat} {m : Mm} {d : Dk} (hg : Blk W g 70 (dkA d m)) (s : Nat) (hs : s < 2) : W.rangeAt g (16 * s) (flL (fun k => d.fl (8 * s + k)) (fun k => m.M (8 * s + k))) := fun j v hv => by
  have hj : j < 16 := by have := (List.getElem?_eq_some_iff.1 hv).1; rwa [flL_length] at this
  rw [flL_get _ _ hj] at hv
  injection hv with hv
  subst hv
  rw [hg.cell, dkA_get _ _ (by omega)]
  unfold dkCell flCell
  rw [if_pos (by omega)]
  by_cases h2 : j % 2 = 0
  · rw [if_pos (by omega), if_pos h2, show (16 * s + j) / 2 = 8 * s + j / 2 by omega]
  · rw [if_neg (by omega), if_neg h2, show (16 * s + j) / 2 = 8 * s + j / 2 by omega]
theorem now_at {W w2 : World} {S : Nat → Prop} {g : Nat} {m : Mm} {d : Dk} {N : Nat} (h : DkAt W S g m d N) {M' : Nat → Option Nat} (hc : Cp W.heap.size (fun k => d.fl (8 + k)) M' 8 w2) (hb : Below W.heap.size W w2) :
    DkAt (w2.setCells g 0 (flL (fun k => d.fl (8 + k)) M')) (fun b => S b ∨ ∃ i, i < 8 ∧ M' i = some b) g (m.now M') (nowF d) N := by
  have h2 := dkAt_below h hb
  have hgl : g < W.heap.size := h.lt _ h.sg
  have hf := fr_setCells (b := g) (flL (fun k => d.fl (8 + k)) M') 0 w2
  obtain ⟨cur', k1, k2, k3, k4⟩ := blk_setCells (t := 70) (flL (fun k => d.fl (8 + k)) M') 0 w2 (dkA d m) h2.blk (by rw [flL_length]; show _ ≤ ((List.range 37).map (dkCell d m)).toArray.size; simp)
  have hMn : ∀ i, i < 8 → (m.now M').M i = M' i := fun i hi => if_pos hi
  have hMo : ∀ i, ¬ i < 8 → (m.now M').M i = m.M i := fun i hi => if_neg hi
  have hfn : ∀ i, i < 8 → (nowF d).fl i = d.fl (8 + i) := fun i hi => if_pos hi
  have hfo : ∀ i, ¬ i < 8 → (nowF d).fl i = d.fl i := fun i hi => if_neg hi
  have hcur : cur' = dkA (nowF d) (m.now M') := by
    apply Array.ext_getElem?
    intro k
    by_cases hk : k < 16
    · have := k4 k (by rw [flL_length]; exact hk)
      rw [Nat.zero_add] at this
      rw [this, flL_get _ _ hk, dkA_get _ _ (by omega)]
      rcases Nat.mod_two_eq_zero_or_one k with h3 | h3
      · obtain ⟨i, rfl⟩ : ∃ i, k = 2 * i := ⟨k / 2, by omega⟩
        rw [cell_len _ _ (by omega), hfn i (by omega)]
        unfold flCell
        rw [if_pos h3, show 2 * i / 2 = i by omega]
      · obtain ⟨i, rfl⟩ : ∃ i, k = 2 * i + 1 := ⟨k / 2, by omega⟩
        rw [cell_map _ _ (by omega), hMn i (by omega)]
        unfold flCell
        rw [if_neg (by omega), show (2 * i + 1) / 2 = i by omega]
    · rw [k3 k (by rw [flL_length]; omega)]
      by_cases hk2 : k < 37
      · rw [dkA_get _ _ hk2, dkA_get _ _ hk2]
        by_cases h1 : k < 32
        · rcases Nat.mod_two_eq_zero_or_one k with h3 | h3
          · obtain ⟨i, rfl⟩ : ∃ i, k = 2 * i := ⟨k / 2, by omega⟩
            rw [cell_len _ _ (by omega), cell_len _ _ (by omega), hfo i (by omega)]
          · obtain ⟨i, rfl⟩ : ∃ i, k = 2 * i + 1 := ⟨k / 2, by omega⟩
            rw [cell_map _ _ (by omega), cell_map _ _ (by omega), hMo i (by omega)]
        · unfold dkCell
          rw [if_neg h1, if_neg h1]; rfl
      · rw [Array.getElem?_eq_none (by simp [dkA] at k2 ⊢; omega), Array.getElem?_eq_none (by simp [dkA]; omega)]
  rw [hcur] at k1
  have hkeep : ∀ b, S b → b ≠ g → (w2.setCells g 0 (flL (fun k => d.fl (8 + k)) M')).heap[b]? = w2.heap[b]? := fun b hs hbg => hf.block b (h2.lt b hs) hbg
  have hnS : ∀ i b, i < 8 → M' i = some b → ¬ S b := fun i b hi e hs => by have := hc.new i hi b e; have := h.lt b hs; omega
  obtain ⟨D, n, hn, ho, hk⟩ := h2.arm
  refine ⟨k1, fun i hi => ?_, fun i hi => ?_, fun i j hi hj hij b hb3 => ?_, ⟨D, n, hn, arm_block ho (hkeep m.ga h.sa (dkAt_ga h)), hk⟩, fun i hi e => ?_, own_block h2.loo (fun z hz => hkeep z (h.sl z hz) (h.ng z hz)), h.chs, h.ng, .inl h.sg, fun i hi b e => ?_, .inl h.sa, fun z hz => .inl (h.sl z hz), fun b hs => ?_, h.cN, h.pw⟩
  · by_cases hi8 : i < 8
    · rw [hMn i hi8, hfn i hi8]
      exact fm_keep (hc.fl i hi8) (fun b e => hf.block b (by have := hc.fl i hi8; rw [e] at this; exact fm_lt this) (fun e2 => by have := hc.new i hi8 b e; omega))
    · rw [hMo i hi8, hfo i hi8]
      exact fm_keep (h2.fl i hi) (fun b e => hkeep b (h.sm i hi b e) (fun e2 => dkAt_m_g h hi (by rw [e, e2])))
  · by_cases hi8 : i < 8
    · rw [hfn i hi8]; exact h.ok _ (by omega)
    · rw [hfo i hi8]; exact h.ok i hi
  · by_cases hi8 : i < 8
    · rw [hMn i hi8] at hb3
      by_cases hj8 : j < 8
      · rw [hMn j hj8]; exact hc.ap i j hi8 hj8 hij b hb3
      · rw [hMo j hj8]; exact fun e => hnS i b hi8 hb3 (h.sm j hj b e)
    · rw [hMo i hi8] at hb3
      by_cases hj8 : j < 8
      · rw [hMn j hj8]; exact fun e => hnS j b hj8 e (h.sm i hi b hb3)
      · rw [hMo j hj8]; exact h.ap i j hi hj hij b hb3
  · by_cases hi8 : i < 8
    · rw [hMn i hi8] at e; exact hnS i _ hi8 e h.sa
    · rw [hMo i hi8] at e; exact h.ga i hi e
  · by_cases hi8 : i < 8
    · rw [hMn i hi8] at e; exact .inr ⟨i, hi8, e⟩
    · rw [hMo i hi8] at e; exact .inl (h.sm i hi b e)
  · rcases hs with hs | ⟨i, hi, e⟩
    · exact Nat.lt_of_lt_of_le (h2.lt b hs) hf.size
    · have := hc.fl i hi
      rw [e] at this
      exact Nat.lt_of_lt_of_le (fm_lt this) hf.size
theorem arm_clear {W : World} {S : Nat → Prop} {g : Nat} {m : Mm} {d : Dk} {N : Nat} (h : DkAt W S g m d N) (ty : TypeId) :
    ∃ W', (Builtin.clear_ #[63] ty #[.map (some m.ga)]).run Try.prog W = .ok (.tuple #[]) W' ∧ DkAt W' S g m { d with armed := fun _ => 0 } N ∧ Fr (fun b => some m.ga = some b) W W' := by
  obtain ⟨D, n, hn, ⟨es, clock, hb, F, hs, hD⟩, hk⟩ := h.arm
  have hrun : (Builtin.clear_ #[63] ty #[.map (some m.ga)]).run Try.prog W = .ok (.tuple #[]) (Go.ChangeMaps.setBlock W m.ga (.map #[] clock)) := by
    simp [Builtin.clear_, run_underlying Try.underlying63, MapKept.run_getObj_map hb, MapKept.run_setObj_map _ hb, Result.andThen]
    rfl
  have hfr : Fr (fun b => some m.ga = some b) W (Go.ChangeMaps.setBlock W m.ga (.map #[] clock)) :=
    fr_grown (row := some m.ga) (fr_refl _ _) ⟨rfl, rfl, rfl, by simp [Go.ChangeMaps.setBlock], fun i _ hi => Go.ChangeMaps.heap_setBlock_other hb _ (fun e => hi (by rw [e]))⟩ (fun z hz => .inl hz)
  refine ⟨_, hrun, dkAt_arm h _ N ⟨Nat.le_refl _, h.cN.2.2⟩ ⟨.map [], 0, Nat.zero_le _, ⟨#[], clock, Go.ChangeMaps.heap_setBlock_same hb _, ⟨by simp, Go.MapKept.stamped_empty clock, by simp⟩, Nat.le_refl _, rfl⟩, fun k => rfl⟩ hfr, hfr⟩
end Go.Proofs.Ytffojihhjiogpaa
