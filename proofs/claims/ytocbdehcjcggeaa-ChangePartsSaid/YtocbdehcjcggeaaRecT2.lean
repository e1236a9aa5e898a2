/- record.Take: what lies in memory, and what each round makes of it. Conditions: those of each lemma. -/
import Derived.Test.YtocbdehcjcggeaaProg
import Derived.Test.YtocbdehcjcggeaaRecT1
import Derived.Laws.MakeOwn
namespace Go.Proofs.Ytocbdehcjcggeaa
open Go.RowKit
set_option linter.unusedVariables false
abbrev zeroV : Val := (0, 0, bstr [])
def RowB (W : World) (g : Nat) (l : List Val) : Prop := ∃ cs : Array Value, Blk W g 56 cs ∧ cs.size = l.length * 3 ∧
  ∀ (j : Nat) x, l[j]? = some x → cs[j * 3]? = some (.int .u8 x.1) ∧ cs[j * 3 + 1]? = some (.int .i64 x.2.1) ∧ cs[j * 3 + 2]? = some (.string x.2.2)
theorem rowB_lt {W : World} {g : Nat} {l : List Val} (h : RowB W g l) : g < W.heap.size := by
  obtain ⟨cs, h, _⟩ := h
  exact h.lt
theorem rowB_vals {W : World} {g : Nat} {l : List Val} (h : RowB W g l) : Vals W W.heap.size (some ⟨g, 0, none⟩) l := by
  obtain ⟨cs, hb, _, hc⟩ := h
  refine .inr ⟨g, 0, rfl, hb.lt, fun j x hx => ?_⟩
  obtain ⟨a, b, c⟩ := hc j x hx
  rw [Nat.zero_add]
  exact ⟨(hb.cell _).trans a, (hb.cell _).trans b, (hb.cell _).trans c⟩
theorem rowB_kp {W W' : World} {g gl gk : Nat} {l : List Val} (h : RowB W g l) (k : Kp gl gk W W') (h1 : g ≠ gl) (h2 : g ≠ gk) : RowB W' g l := by
  obtain ⟨cs, hb, r⟩ := h
  exact ⟨cs, k.2 _ _ _ h1 h2 hb, r⟩
theorem rowB_step {W W' : World} {g : Nat} {l : List Val} (h : RowB W g l) (hb : Below W.heap.size W W') : RowB W' g l := by
  obtain ⟨cs, h, r⟩ := h
  exact ⟨cs, blk_step h hb, r⟩
abbrev set3 (W : World) (g i : Nat) (v : Val) : World := ((W.setCell ⟨g, i, none⟩ (.int .u8 v.1)).setCell ⟨g, i + 1, none⟩ (.int .i64 v.2.1)).setCell ⟨g, i + 2, none⟩ (.string v.2.2)
theorem rowB_set {W : World} {g j : Nat} {l : List Val} (v : Val) (h : RowB W g l) (hj : j < l.length) : RowB (set3 W g (j * 3) v) g (l.set j v) := by
  obtain ⟨cs, hb, hs, hc⟩ := h
  refine ⟨_, ((hb.set_ (j * 3) _).set_ (j * 3 + 1) _).set_ (j * 3 + 2) _, by simp [hs], fun i x hx => ?_⟩
  rw [List.getElem?_set] at hx
  by_cases hij : j = i
  · subst hij
    rw [if_pos rfl, if_pos hj] at hx
    injection hx with hx
    subst hx
    refine ⟨?_, ?_, ?_⟩ <;> simp [Array.getElem?_setIfInBounds] <;> omega
  · rw [if_neg hij] at hx
    obtain ⟨a, b, c⟩ := hc i x hx
    refine ⟨?_, ?_, ?_⟩
    · rw [Array.getElem?_setIfInBounds_ne (by omega), Array.getElem?_setIfInBounds_ne (by omega), Array.getElem?_setIfInBounds_ne (by omega), a]
    · rw [Array.getElem?_setIfInBounds_ne (by omega), Array.getElem?_setIfInBounds_ne (by omega), Array.getElem?_setIfInBounds_ne (by omega), b]
    · rw [Array.getElem?_setIfInBounds_ne (by omega), Array.getElem?_setIfInBounds_ne (by omega), Array.getElem?_setIfInBounds_ne (by omega), c]
theorem set3_kp (W : World) (g i : Nat) (v : Val) {g' : Nat} {t : TypeId} {cs : Array Value} (h : Blk W g' t cs) (hn : g' ≠ g) : Blk (set3 W g i v) g' t cs :=
  ((h.far (by simpa using hn) _).far (by simpa using hn) _).far (by simpa using hn) _
theorem tk_set3 {w W : World} {gl gk g : Nat} {x : ByteArray} {b : Bool} (i : Nat) (v : Val) (h : Tk w gl gk x b W) (h1 : g ≠ gl) (h2 : g ≠ gk) (h3 : w.heap.size ≤ g) : Tk w gl gk x b (set3 W g i v) :=
  ⟨set3_kp W g i v h.1 (fun e => h1 e.symm), set3_kp W g i v h.2.1 (fun e => h2 e.symm), ((h.2.2.1.setCell h3 _).setCell h3 _).setCell h3 _, h.2.2.2⟩
theorem rowB_new (W : World) (m : Nat) : RowB (W.alloc (.cells (madeCells #[.int .u8 0, .int .i64 0, .string ⟨#[]⟩] (m * 3)) 56)) W.heap.size (List.replicate m zeroV) := by
  refine ⟨_, Blk.new _ _ _, by rw [size_madeCells, List.length_replicate], fun j x hx => ?_⟩
  rw [List.getElem?_replicate] at hx
  split at hx
  · rename_i hj
    injection hx with hx
    subst hx
    have e : ∀ i, i < m * 3 → (madeCells #[.int .u8 0, .int .i64 0, .string ⟨#[]⟩] (m * 3))[i]? = some ((#[.int .u8 0, .int .i64 0, .string ⟨#[]⟩] : Array Value)[i % 3]!) := by
      intro i hi
      simp [madeCells, hi]
    refine ⟨?_, ?_, ?_⟩
    · rw [e _ (by omega), show j * 3 % 3 = 0 from by omega]; rfl
    · rw [e _ (by omega), show (j * 3 + 1) % 3 = 1 from by omega]; rfl
    · rw [e _ (by omega), show (j * 3 + 2) % 3 = 2 from by omega]; rfl
  · cases hx
theorem rowB_at {W : World} {g j : Nat} {l : List Val} (h : RowB W g l) (hj : j < l.length) : ∃ a b c, W.cell? ⟨g, j * 3, none⟩ = some (.int .u8 a) ∧ W.cell? ⟨g, j * 3 + 1, none⟩ = some (.int .i64 b) ∧ W.cell? ⟨g, j * 3 + 2, none⟩ = some (.string c) ∧
    W.frozen? ⟨g, j * 3, none⟩ = false ∧ W.frozen? ⟨g, j * 3 + 1, none⟩ = false ∧ W.frozen? ⟨g, j * 3 + 2, none⟩ = false := by
  obtain ⟨cs, hb, _, hc⟩ := h
  obtain ⟨a, b, c⟩ := hc j l[j] (List.getElem?_eq_getElem hj)
  exact ⟨_, _, _, (hb.cell _).trans a, (hb.cell _).trans b, (hb.cell _).trans c, hb.frozen _, hb.frozen _, hb.frozen _⟩
def tagC (ts : List Nat) : Array Value := (ts.map fun x : Nat => Value.int .u64 (x : Int)).toArray
theorem tagC_set (ts : List Nat) (j n : Nat) : (tagC ts).setIfInBounds j (.int .u64 (n : Int)) = tagC (ts.set j n) := by
  unfold tagC
  rw [List.setIfInBounds_toArray, List.map_set]
theorem tagC_get (ts : List Nat) (j : Nat) (h : j < ts.length) : (tagC ts)[j]? = some (.int .u64 (ts[j] : Nat)) := by
  unfold tagC
  simp [h]
theorem tagC_new (m : Nat) : madeCells #[.int .u64 0] m = tagC (List.replicate m 0) := by
  apply Array.ext'
  rw [toList_madeCells_one]
  simp [tagC]
def PT (m : Nat) (L1 : List Nat) (j : Nat) (x : ByteArray) (b : Bool) (ts : List Nat) : Prop :=
  (b = true → tagsA [] m L1 = tagsA (ts.take j) (m - j) (bts x)) ∧ (b = false → tagsA [] m L1 = none)
theorem take_set {α : Type} (l : List α) (j : Nat) (v : α) (h : j < l.length) : (l.set j v).take (j + 1) = l.take j ++ [v] := by
  rw [List.take_succ_eq_append_getElem (by simpa using h), List.take_set_of_le (Nat.le_refl _)]
  simp
theorem pt_step {m j : Nat} {L1 : List Nat} {x : ByteArray} {b : Bool} {ts : List Nat} (h : PT m L1 j x b ts) (hj : j < m) (hl : ts.length = m) :
    PT m L1 (j + 1) (x.extract (takeS (bts x)).2.1 x.size) (b && decide ((takeS (bts x)).2.2 = 0)) (ts.set j (takeS (bts x)).1) := by
  obtain ⟨h1, h2⟩ := h
  cases b
  · exact ⟨fun e => by simp at e, fun _ => h2 rfl⟩
  · have h3 := h1 rfl
    rw [show m - j = (m - (j + 1)) + 1 from by omega] at h3
    by_cases he : (takeS (bts x)).2.2 = 0
    · refine ⟨fun _ => ?_, fun e => by simp [he] at e⟩
      rw [h3]
      simp only [tagsA, he, ↓reduceIte]
      rw [take_set _ _ _ (by omega), bts_cutr]
    · refine ⟨fun e => by simp [he] at e, fun _ => ?_⟩
      rw [h3]
      simp only [tagsA, he, ↓reduceIte]
def PB (L : List Nat) (ts : List Nat) (j : Nat) (x : ByteArray) (b : Bool) (l : List Val) : Prop :=
  ((b = true → parseR L = bodsA (l.take j) (ts.drop j) (bts x)) ∧ (b = false → parseR L = none)) ∧ (∀ i, j ≤ i → i < l.length → l[i]? = some zeroV) ∧ (∀ v ∈ l, Fits v)
theorem pb_start {m : Nat} {s x : ByteArray} {b : Bool} {ts : List Nat} (hm : (bts s).getD 0 0 = m) (h : PT m ((bts s).drop 1) m x b ts) (hl : ts.length = m) : PB (bts s) ts 0 x b (List.replicate m zeroV) := by
  refine ⟨⟨fun e => ?_, fun e => ?_⟩, fun i _ hi => ?_, fun v hv => ?_⟩
  · have h1 := h.1 e
    unfold parseR
    rw [hm, h1, Nat.sub_self, List.take_of_length_le (by omega)]
    simp [tagsA]
  · have h1 := h.2 e
    unfold parseR
    rw [hm, h1]
  · rw [List.getElem?_replicate, if_pos (by simpa using hi)]
  · rw [(List.mem_replicate.1 hv).2]; unfold Fits; simp
theorem fits_set {l : List Val} {j : Nat} {v : Val} (h : ∀ x ∈ l, Fits x) (hv : Fits v) : ∀ x ∈ l.set j v, Fits x := by
  intro x hx
  rcases List.mem_or_eq_of_mem_set hx with hx | rfl
  · exact h x hx
  · exact hv
theorem pb_step {L ts : List Nat} {j : Nat} {x x' : ByteArray} {b : Bool} {l : List Val} {v : Val} {r : List Nat} (h : PB L ts j x b l) (hj : j < l.length) (ht : ts.length = l.length) (hone : oneF (ts[j]'(by omega)) (bts x) = some (v, r)) (hr : bts x' = r) (hv : Fits v) : PB L ts (j + 1) x' b (l.set j v) := by
  obtain ⟨⟨h1, h2⟩, h3, h4⟩ := h
  refine ⟨⟨fun e => ?_, h2⟩, fun i hi hil => ?_, fits_set h4 hv⟩
  · rw [h1 e, List.drop_eq_getElem_cons (by omega)]
    simp only [bodsA, hone]
    rw [take_set _ _ _ hj, hr]
  · rw [List.getElem?_set_ne (by omega)]
    exact h3 i (by omega) (by simpa using hil)
theorem pb_zero {L ts : List Nat} {j : Nat} {x : ByteArray} {b : Bool} {l : List Val} (h : PB L ts j x b l) (hj : j < l.length) (ht : ts.length = l.length) (h0 : ts[j]'(by omega) = 0) : PB L ts (j + 1) x b l := by
  have hz := h.2.1 j (Nat.le_refl _) hj
  have e : l.set j zeroV = l := by
    apply List.ext_getElem?
    intro i
    rw [List.getElem?_set]
    split
    · rename_i hij
      subst hij
      first | exact hz.symm | rw [if_pos hj, hz]
    · rfl
  have hp := pb_step (x' := x) (v := zeroV) (r := bts x) h hj ht (by rw [h0]; simp [oneF]) rfl (by unfold Fits; simp)
  rwa [e] at hp
theorem pb_fail {L ts : List Nat} {j : Nat} {x x' : ByteArray} {b : Bool} {l : List Val} {v : Val} (h : PB L ts j x b l) (hj : j < l.length) (ht : ts.length = l.length) (hone : oneF (ts[j]'(by omega)) (bts x) = none) (hv : Fits v) : PB L ts (j + 1) x' false (l.set j v) := by
  obtain ⟨⟨h1, h2⟩, h3, h4⟩ := h
  refine ⟨⟨fun e => by simp at e, fun _ => ?_⟩, fun i hi hil => ?_, fits_set h4 hv⟩
  · cases b
    · exact h2 rfl
    · rw [h1 rfl, List.drop_eq_getElem_cons (by omega)]
      simp only [bodsA, hone]
  · rw [List.getElem?_set_ne (by omega)]
    exact h3 i (by omega) (by simpa using hil)
theorem pb_short {L ts : List Nat} {j : Nat} {x : ByteArray} {b : Bool} {l : List Val} (h : PB L ts j x b l) (hj : j < l.length) (ht : ts.length = l.length) (h1 : ts[j]'(by omega) = 1) :
    PB L ts (j + 1) (x.extract (takeS (bts x)).2.1 x.size) (b && decide ((takeS (bts x)).2.2 = 0)) (l.set j (1, unfoldZ (takeS (bts x)).1, bstr [])) := by
  have hb := unfoldZ_fits (takeS_le (bts_lt x)).2
  have hv : Fits (1, unfoldZ (takeS (bts x)).1, bstr []) := ⟨by simp, by simp, hb.1, hb.2⟩
  by_cases he : (takeS (bts x)).2.2 = 0
  · have e : (b && decide ((takeS (bts x)).2.2 = 0)) = b := by simp [he]
    rw [e]
    exact pb_step h hj ht (r := (bts x).drop (takeS (bts x)).2.1) (by rw [h1]; simp [oneF, he]) (bts_cutr _ _) hv
  · have e : (b && decide ((takeS (bts x)).2.2 = 0)) = false := by simp [he]
    rw [e]
    exact pb_fail h hj ht (by rw [h1]; simp [oneF, he]) hv
theorem pb_bytes {L ts : List Nat} {j t : Nat} {x : ByteArray} {b : Bool} {l : List Val} (h : PB L ts j x b l) (hj : j < l.length) (ht : ts.length = l.length) (h1 : ts[j]'(by omega) = t) (h2 : 2 ≤ t) (hn : t / 2 - 1 ≤ x.size) :
    PB L ts (j + 1) (x.extract (t / 2 - 1) x.size) b (l.set j (((2 + t % 2 : Nat) : Int), 0, bstr ((bts x).take (t / 2 - 1)))) := by
  refine pb_step h hj ht (r := (bts x).drop (t / 2 - 1)) ?_ (bts_cutr _ _) ⟨by simp; omega, by simp; omega, by simp, by simp⟩
  rw [h1]
  unfold oneF
  rw [if_neg (by omega), if_neg (by omega), if_neg (by rw [bts_length]; omega)]
theorem pb_none {L ts : List Nat} {j t : Nat} {x : ByteArray} {b : Bool} {l : List Val} (h : PB L ts j x b l) (hj : j < l.length) (ht : ts.length = l.length) (h1 : ts[j]'(by omega) = t) (h2 : 2 ≤ t) (hn : x.size < t / 2 - 1) :
    PB L ts (j + 1) x false (l.set j (((2 + t % 2 : Nat) : Int), 0, bstr [])) := by
  refine pb_fail h hj ht ?_ ⟨by simp; omega, by simp; omega, by simp, by simp⟩
  rw [h1]
  unfold oneF
  rw [if_neg (by omega), if_neg (by omega), if_pos (by rw [bts_length]; omega)]
/-- what Take answers -/
def TakeP (L : List Nat) (w : World) (e : Ending) (w' : World) : Prop :=
  ∃ (A : Option Addr) (n c : Nat) (er : Int) (l : List Val), e = .returned (.tuple #[.slice A n c, .int .i64 er]) ∧ Vals w' w'.heap.size A l ∧ n = l.length ∧ n ≤ 16 ∧ (∀ x ∈ l, Fits x) ∧ Below w.heap.size w w' ∧
    ((takeR L = none ∧ l = [] ∧ er = 7) ∨ (takeR L = some l ∧ er = 0))
theorem takeP_none {L : List Nat} {w w' : World} (h : takeR L = none) (hb : Below w.heap.size w w') : TakeP L w (.returned (.tuple #[.slice none 0 0, .int .i64 7])) w' :=
  ⟨none, 0, 0, 7, [], rfl, .inl rfl, rfl, by omega, (fun x hx => by cases hx), hb, .inl ⟨h, rfl, rfl⟩⟩
theorem takeP_some {L : List Nat} {w w' : World} {g m : Nat} {l : List Val} (h : takeR L = some l) (hr : RowB w' g l) (hm : m = l.length) (h16 : m ≤ 16) (hf : ∀ x ∈ l, Fits x) (hb : Below w.heap.size w w') : TakeP L w (.returned (.tuple #[.slice (some ⟨g, 0, none⟩) m m, .int .i64 0])) w' :=
  ⟨_, m, m, 0, l, rfl, rowB_vals hr, hm, h16, hf, hb, .inr ⟨h, rfl⟩⟩
theorem takeR_head {L : List Nat} (h : L = [] ∨ 16 < L.getD 0 0 ∨ 4000 < L.length) : takeR L = none := by unfold takeR; rw [if_pos h]
theorem takeR_end {L ts : List Nat} {x : ByteArray} {b : Bool} {l : List Val} (h : PB L ts l.length x b l) (ht : ts.length = l.length) (hh : ¬ (L = [] ∨ 16 < L.getD 0 0 ∨ 4000 < L.length)) :
    takeR L = if b = true ∧ x.size = 0 ∧ chkL l = 0 then some l else none := by
  obtain ⟨⟨h1, h2⟩, _, _⟩ := h
  unfold takeR
  rw [if_neg hh]
  cases b
  · rw [h2 rfl]; simp
  · rw [h1 rfl, List.take_of_length_le (Nat.le_refl _), List.drop_of_length_le (by omega)]
    simp only [bodsA]
    by_cases hx : x.size = 0
    · have e : bts x = [] := List.eq_nil_of_length_eq_zero (by rw [bts_length]; exact hx)
      by_cases hc : chkL l = 0
      · simp [e, hx, hc]
      · simp [e, hx, hc]
    · have e : bts x ≠ [] := fun e => hx (by have := bts_length x; rw [e] at this; simpa using this.symm)
      simp [e, hx]
end Go.Proofs.Ytocbdehcjcggeaa
