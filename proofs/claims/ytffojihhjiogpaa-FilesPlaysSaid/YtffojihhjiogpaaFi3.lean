/- Layer 3: the disk in memory. Conditions: those of each lemma. -/
import Derived.Test.YtffojihhjiogpaaFi2
namespace Go.Proofs.Ytffojihhjiogpaa
open Go.RowKit Go Go.Maps
set_option linter.unusedVariables false
set_option linter.unusedSimpArgs false
/-- a change -/
structure Ch where
  file : Nat
  pl : Nat
  cut : Bool
  bytes : Sec
def SecOk (s : Sec) : Prop := s.length = 64 ∧ ∀ x ∈ s, x < 256
def ChOk (c : Ch) : Prop := c.file < 8 ∧ c.pl ≤ 8192 ∧ (c.cut = false → c.pl < 8192) ∧ SecOk c.bytes
def chL (c : Ch) : List Value := .int .i64 c.file :: .int .i64 c.pl :: .bool c.cut :: vals8 c.bytes
theorem chL_length {c : Ch} (h : ChOk c) : (chL c).length = 67 := by
  unfold chL
  simp [vals8_length, h.2.2.2.1]
theorem zS_ok : SecOk zS := ⟨by simp [zS], fun x hx => by simp [zS] at hx; omega⟩
/-- a sector is written to a file -/
def putS (l : Fl) (i : Nat) (s : Sec) : Fl := (l ++ List.replicate (i + 1 - l.length) zS).set i s
theorem putS_length (l : Fl) (i : Nat) (s : Sec) : (putS l i s).length = max l.length (i + 1) := by
  unfold putS; simp; omega
theorem putS_get (l : Fl) (i : Nat) (s : Sec) (j : Nat) : (putS l i s).getD j zS = if j = i then s else l.getD j zS := by
  unfold putS
  simp only [List.getD_eq_getElem?_getD]
  by_cases h : j = i
  · subst h
    rw [if_pos rfl, List.getElem?_set_self (by simp; omega)]
    rfl
  · rw [if_neg h, List.getElem?_set_ne (fun e => h e.symm)]
    by_cases h2 : j < l.length
    · rw [List.getElem?_append_left h2]
    · rw [List.getElem?_append_right (by omega), List.getElem?_eq_none (l := l) (by omega)]
      rw [List.getElem?_replicate]
      split <;> rfl
def doneF (l : Fl) (c : Ch) : Fl := if c.cut then l.take c.pl else putS l c.pl c.bytes
def FlOk (l : Fl) : Prop := l.length ≤ 8192 ∧ ∀ s ∈ l, SecOk s
theorem doneF_ok {l : Fl} {c : Ch} (h : FlOk l) (hc : ChOk c) : FlOk (doneF l c) := by
  unfold doneF
  cases hcut : c.cut with
  | true => exact ⟨by simp; have := h.1; omega, fun s hs => h.2 s (List.mem_of_mem_take hs)⟩
  | false =>
    have h1 := hc.2.2.1 hcut
    have h2 := h.1
    refine ⟨by simp [putS_length]; omega, fun s hs => ?_⟩
    rcases List.mem_or_eq_of_mem_set hs with h3 | h3
    · rcases List.mem_append.1 h3 with h4 | h4
      · exact h.2 s h4
      · rw [List.eq_of_mem_replicate h4]; exact zS_ok
    · rw [h3]; exact hc.2.2.2
/-- the disk: what its files are (0 to 7: now; 8 to 15: sure), what is loose, what is armed -/
structure Dk where
  fl : Nat → Fl
  loose : List Ch
  armed : Int → Int
  power : Int
  ops : Nat
  off : Bool
/-- where it lies -/
structure Mm where
  M : Nat → Option Nat
  ga : Nat
  A : Option Addr
  cap : Nat
def dkCell (d : Dk) (m : Mm) (j : Nat) : Value :=
  if j < 32 then (if j % 2 = 0 then .int .i64 ((d.fl (j / 2)).length : Nat) else .map (m.M (j / 2)))
  else if j = 32 then .slice m.A d.loose.length m.cap
  else if j = 33 then .map (some m.ga)
  else if j = 34 then .int .i64 d.power
  else if j = 35 then .int .i64 d.ops
  else .bool d.off
def dkA (d : Dk) (m : Mm) : Array Value := ((List.range 37).map (dkCell d m)).toArray
theorem dkA_get (d : Dk) (m : Mm) {j : Nat} (h : j < 37) : (dkA d m)[j]? = some (dkCell d m j) := by
  simp [dkA, h]
theorem dkA_set {d d' : Dk} {m m' : Mm} (j : Nat) (v : Value) (h : ∀ k, k < 37 → dkCell d' m' k = if k = j then v else dkCell d m k) : (dkA d m).setIfInBounds j v = dkA d' m' := by
  unfold dkA
  rw [List.setIfInBounds_toArray]
  congr 1
  apply List.ext_getElem?
  intro k
  rw [List.getElem?_set]
  simp only [List.length_map, List.length_range, List.getElem?_map]
  by_cases hk : k < 37
  · rw [List.getElem?_range hk]
    by_cases e : j = k
    · subst e; simp [hk, h j hk]
    · have e' : ¬ k = j := fun e2 => e e2.symm
      simp [e, h k hk, e']
  · rw [List.getElem?_eq_none (l := List.range 37) (by simp; omega)]
    by_cases e : j = k
    · subst e; simp [hk]
    · simp [e]
theorem cell_len (d : Dk) (m : Mm) {i : Nat} (h : i < 16) : dkCell d m (2 * i) = .int .i64 ((d.fl i).length : Nat) := by
  unfold dkCell
  rw [if_pos (by omega), if_pos (by omega), show 2 * i / 2 = i by omega]
theorem cell_map (d : Dk) (m : Mm) {i : Nat} (h : i < 16) : dkCell d m (2 * i + 1) = .map (m.M i) := by
  unfold dkCell
  rw [if_pos (by omega), if_neg (by omega), show (2 * i + 1) / 2 = i by omega]
/-- the loose changes' cells -/
def chsL (l : List Ch) : List Value := l.flatMap chL
structure DkAt (W : World) (S : Nat → Prop) (g : Nat) (m : Mm) (d : Dk) (N : Nat) : Prop where
  blk : Blk W g 70 (dkA d m)
  fl : ∀ i, i < 16 → FL W (m.M i) (d.fl i)
  ok : ∀ i, i < 16 → FlOk (d.fl i)
  ap : ∀ i j, i < 16 → j < 16 → i ≠ j → ∀ b, m.M i = some b → m.M j ≠ some b
  arm : ∃ D n, n ≤ N ∧ W.ownsMap (H := Value) Try.prog 3 (plainElem Try.prog 24) m.ga n D ∧ ∀ k : Int, D.atKey (ki k) (.lit (.int .i64 0)) = .lit (.int .i64 (d.armed k))
  ga : ∀ i, i < 16 → m.M i ≠ some m.ga
  loo : W.ownsRow 0 74 67 (.slice m.A d.loose.length m.cap) d.loose.length (chsL d.loose)
  chs : ∀ c ∈ d.loose, ChOk c
  ng : ∀ z, (Value.slice m.A d.loose.length m.cap).ownBlock = some z → z ≠ g
  sg : S g
  sm : ∀ i, i < 16 → ∀ b, m.M i = some b → S b
  sa : S m.ga
  sl : ∀ z, (Value.slice m.A d.loose.length m.cap).ownBlock = some z → S z
  lt : ∀ b, S b → b < W.heap.size
  cN : d.ops ≤ N ∧ d.loose.length ≤ 8192 * N ∧ N ≤ 1000000
  pw : -1 ≤ d.power ∧ d.power ≤ 2000000000000
def DkS (W : World) (S : Nat → Prop) (g : Nat) (d : Dk) (N : Nat) : Prop := ∃ m, DkAt W S g m d N
/-- what a call on the disk leaves -/
def DkR (w : World) (S : Nat → Prop) (g : Nat) (d : Dk) (N : Nat) (w' : World) : Prop := ∃ S', DkS w' S' g d N ∧ Fr S w w' ∧ ∀ b, S' b → S b ∨ w.heap.size ≤ b
theorem own_block {W W' : World} {base : Nat} {e : TypeId} {size : Nat} {v : Value} {n : Nat} {xs : List Value} (h : W.ownsRow base e size v n xs) (hb : ∀ z, v.ownBlock = some z → W'.heap[z]? = W.heap[z]?) : W'.ownsRow base e size v n xs := by
  refine ⟨h.1, ?_⟩
  rcases h.2 with hn | ⟨g, cap, cur, hv, hg, hh, rest⟩
  · exact .inl hn
  · exact .inr ⟨g, cap, cur, hv, hg, (hb g (by rw [hv]; rfl)).trans hh, rest⟩
theorem arm_block {W W' : World} {b n : Nat} {R : Value → Option (DataW Value × List MemPlace)} {D : DataW Value} (h : W.ownsMap Try.prog 3 R b n D) (hb : W'.heap[b]? = W.heap[b]?) : W'.ownsMap Try.prog 3 R b n D := by
  obtain ⟨es, clock, h1, F, hs, hD⟩ := h
  exact ⟨es, clock, hb.trans h1, F, hs, hD⟩
theorem dkAt_keep {W W' : World} {S T : Nat → Prop} {g : Nat} {m : Mm} {d : Dk} {N : Nat} (h : DkAt W S g m d N) (hf : Fr T W W') (hd : ∀ b, S b → ¬ T b) : DkAt W' S g m d N := by
  have hb : ∀ b, S b → W'.heap[b]? = W.heap[b]? := fun b hs => hf.block b (h.lt b hs) (hd b hs)
  obtain ⟨D, n, hn, ho, hk⟩ := h.arm
  exact { h with
    blk := (hb g h.sg).trans h.blk
    fl := fun i hi => fm_keep (h.fl i hi) (fun b e => hb b (h.sm i hi b e))
    arm := ⟨D, n, hn, arm_block ho (hb _ h.sa), hk⟩
    loo := own_block h.loo (fun z hz => hb z (h.sl z hz))
    lt := fun b hs => Nat.lt_of_lt_of_le (h.lt b hs) hf.size }
theorem dkS_keep {W W' : World} {S T : Nat → Prop} {g : Nat} {d : Dk} {N : Nat} (h : DkS W S g d N) (hf : Fr T W W') (hd : ∀ b, S b → ¬ T b) : DkS W' S g d N := by
  obtain ⟨m, hm⟩ := h
  exact ⟨m, dkAt_keep hm hf hd⟩
theorem dkAt_below {W W' : World} {S : Nat → Prop} {g : Nat} {m : Mm} {d : Dk} {N : Nat} (h : DkAt W S g m d N) (hb : Below W.heap.size W W') : DkAt W' S g m d N := dkAt_keep (T := fun _ => False) h (fr_of hb) (fun _ _ h => h)
theorem dkS_below {W W' : World} {S : Nat → Prop} {g : Nat} {d : Dk} {N : Nat} (h : DkS W S g d N) (hb : Below W.heap.size W W') : DkS W' S g d N := dkS_keep (T := fun _ => False) h (fr_of hb) (fun _ _ h => h)
theorem dkAt_m_g {W : World} {S : Nat → Prop} {g : Nat} {m : Mm} {d : Dk} {N : Nat} (h : DkAt W S g m d N) {i : Nat} (hi : i < 16) : m.M i ≠ some g := fun e => by
  have h1 := h.fl i hi
  rw [e] at h1
  obtain ⟨D, n, ⟨es, clock, hb, _⟩, _⟩ := h1
  have := h.blk
  unfold Blk at this
  rw [this] at hb
  cases hb
theorem dkAt_m_l {W : World} {S : Nat → Prop} {g : Nat} {m : Mm} {d : Dk} {N : Nat} (h : DkAt W S g m d N) {i z : Nat} (hi : i < 16) (hz : (Value.slice m.A d.loose.length m.cap).ownBlock = some z) : m.M i ≠ some z := fun e => by
  have h1 := h.fl i hi
  rw [e] at h1
  obtain ⟨D, n, ⟨es, clock, hb, _⟩, _⟩ := h1
  rcases h.loo.2 with ⟨hn, _⟩ | ⟨g', cap, cur, hv, _, hg, _⟩
  · rw [hn] at hz; cases hz
  · rw [hv] at hz
    injection hz with hz
    subst hz
    rw [hg] at hb
    cases hb
def Dk.setF (d : Dk) (i : Nat) (l : Fl) : Dk := { d with fl := fun j => if j = i then l else d.fl j }
def Mm.setM (m : Mm) (i : Nat) (b : Option Nat) : Mm := { m with M := fun j => if j = i then b else m.M j }
theorem dkAt_ga {W : World} {S : Nat → Prop} {g : Nat} {m : Mm} {d : Dk} {N : Nat} (h : DkAt W S g m d N) : m.ga ≠ g := fun e => by
  obtain ⟨D, n, _, ⟨es, clock, hb, _⟩, _⟩ := h.arm
  have := h.blk
  unfold Blk at this
  rw [e, this] at hb
  cases hb
theorem setF_same (d : Dk) (i : Nat) (l : Fl) : (d.setF i l).fl i = l := if_pos rfl
theorem setF_other (d : Dk) {i j : Nat} (l : Fl) (h : j ≠ i) : (d.setF i l).fl j = d.fl j := if_neg h
theorem setM_same (m : Mm) (i : Nat) (b : Option Nat) : (m.setM i b).M i = b := if_pos rfl
theorem setM_other (m : Mm) {i j : Nat} (b : Option Nat) (h : j ≠ i) : (m.setM i b).M j = m.M j := if_neg h
/-- the file i is another list, its map another one -/
theorem dkAt_file {W W' : World} {S : Nat → Prop} {g : Nat} {m : Mm} {d : Dk} {N : Nat} (h : DkAt W S g m d N) {i : Nat} (hi : i < 16) (l' : Fl) (b' : Option Nat)
    (hblk : Blk W' g 70 (dkA (d.setF i l') (m.setM i b'))) (hfl : FL W' b' l') (hok : FlOk l')
    (hf : Fr (fun b => b = g ∨ m.M i = some b) W W') (hnew : ∀ b, b' = some b → m.M i = some b ∨ W.heap.size ≤ b) : DkAt W' (fun b => S b ∨ b' = some b) g (m.setM i b') (d.setF i l') N := by
  have hb : ∀ b, S b → b ≠ g → m.M i ≠ some b → W'.heap[b]? = W.heap[b]? := fun b hs h1 h2 => hf.block b (h.lt b hs) (fun h3 => by rcases h3 with h3 | h3; exact h1 h3; exact h2 h3)
  obtain ⟨D, n, hn, ho, hk⟩ := h.arm
  refine ⟨hblk, fun j hj => ?_, fun j hj => ?_, fun a c ha hc hac z hz => ?_, ?_, fun j hj => ?_, ?_, h.chs, h.ng, .inl h.sg, fun j hj b e => ?_, .inl h.sa, fun z hz => .inl (h.sl z hz), fun b hs => ?_, h.cN, h.pw⟩
  · by_cases e : j = i
    · subst e; rw [setM_same, setF_same]; exact hfl
    · rw [setM_other _ _ e, setF_other _ _ e]
      exact fm_keep (h.fl j hj) (fun b hb2 => hb b (h.sm j hj b hb2) (fun e2 => dkAt_m_g h hj (by rw [hb2, e2])) (fun e2 => h.ap i j hi hj (fun e3 => e e3.symm) b e2 hb2))
  · by_cases e : j = i
    · subst e; rw [setF_same]; exact hok
    · rw [setF_other _ _ e]; exact h.ok j hj
  · by_cases e : a = i
    · subst e
      rw [setM_same] at hz
      rw [setM_other _ _ (fun e2 => hac e2.symm)]
      intro h2
      rcases hnew z hz with h3 | h3
      · exact h.ap a c ha hc hac z h3 h2
      · have := h.lt z (h.sm c hc z h2); omega
    · rw [setM_other _ _ e] at hz
      by_cases e2 : c = i
      · subst e2
        rw [setM_same]
        intro h2
        rcases hnew z h2 with h3 | h3
        · exact h.ap a c ha hc hac z hz h3
        · have := h.lt z (h.sm a ha z hz); omega
      · rw [setM_other _ _ e2]
        exact h.ap a c ha hc hac z hz
  · exact ⟨D, n, hn, arm_block ho (hb m.ga h.sa (dkAt_ga h) (h.ga i hi)), hk⟩
  · by_cases e : j = i
    · subst e
      rw [setM_same]
      intro h2
      rcases hnew _ h2 with h3 | h3
      · exact h.ga j hj h3
      · have := h.lt _ h.sa
        have h4 : (m.setM j b').ga = m.ga := rfl
        rw [h4] at h3
        omega
    · rw [setM_other _ _ e]; exact h.ga j hj
  · exact own_block h.loo (fun z hz => hb z (h.sl z hz) (h.ng z hz) (dkAt_m_l h hi hz))
  · by_cases e2 : j = i
    · subst e2; rw [setM_same] at e; exact .inr e
    · rw [setM_other _ _ e2] at e; exact .inl (h.sm j hj b e)
  · rcases hs with hs | hs
    · exact Nat.lt_of_lt_of_le (h.lt b hs) hf.size
    · rw [hs] at hfl; exact fm_lt hfl
theorem dkA_len (d : Dk) (m : Mm) {i : Nat} (hi : i < 16) (l' : Fl) (v : Value) (hv : v = .int .i64 (l'.length : Nat)) : (dkA d m).setIfInBounds (2 * i) v = dkA (d.setF i l') m := by
  subst hv
  refine dkA_set _ _ fun k hk => ?_
  by_cases e : k = 2 * i
  · subst e; rw [if_pos rfl, cell_len _ _ hi, setF_same]
  · rw [if_neg e]
    unfold dkCell
    by_cases h1 : k < 32
    · rw [if_pos h1, if_pos h1]
      by_cases h2 : k % 2 = 0
      · rw [if_pos h2, if_pos h2, setF_other _ _ (by omega)]
      · rw [if_neg h2, if_neg h2]
    · rw [if_neg h1, if_neg h1]; rfl
theorem dkA_map (d : Dk) (m : Mm) {i : Nat} (hi : i < 16) (b' : Option Nat) : (dkA d m).setIfInBounds (2 * i + 1) (.map b') = dkA d (m.setM i b') := by
  refine dkA_set _ _ fun k hk => ?_
  by_cases e : k = 2 * i + 1
  · subst e; rw [if_pos rfl, cell_map _ _ hi, setM_same]
  · rw [if_neg e]
    unfold dkCell
    by_cases h1 : k < 32
    · rw [if_pos h1, if_pos h1]
      by_cases h2 : k % 2 = 0
      · rw [if_pos h2, if_pos h2]
      · rw [if_neg h2, if_neg h2, setM_other _ _ (by omega)]
    · rw [if_neg h1, if_neg h1]; rfl
theorem setM_id (m : Mm) (i : Nat) : m.setM i (m.M i) = m := by
  unfold Mm.setM
  congr 1
  funext j
  split
  · rename_i e; rw [e]
  · rfl
end Go.Proofs.Ytffojihhjiogpaa
