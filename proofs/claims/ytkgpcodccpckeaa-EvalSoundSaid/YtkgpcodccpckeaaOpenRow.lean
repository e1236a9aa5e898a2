/- A row, and rows, that come in: with the strings' sizes. Conditions: those of each lemma. -/
import Derived.Test.YtkgpcodccpckeaaEt1
import Derived.Test.YtkgpcodccpckeaaEt10
import Derived.Test.YtkgpcodccpckeaaEt12
namespace Go.Proofs.Ytkgpcodccpckeaa
open Go Go.Joins Go.ChangeShapes Go.WideShapes Go.RowKit Go.Deep
set_option linter.unusedVariables false
theorem pick_list {α : Type} {Q : Nat → α → Prop} (n : Nat) (h : ∀ i, i < n → ∃ x, Q i x) : ∃ l : List α, l.length = n ∧ ∀ (j : Nat) x, l[j]? = some x → Q j x := by
  induction n with
  | zero => exact ⟨[], rfl, fun j x hx => by simp at hx⟩
  | succ n ih =>
    obtain ⟨l, hl, hc⟩ := ih (fun i hi => h i (by omega))
    obtain ⟨y, h1⟩ := h n (by omega)
    refine ⟨l ++ [y], by rw [List.length_append, hl]; rfl, fun j x hx => ?_⟩
    by_cases hj : j < l.length
    · rw [List.getElem?_append_left hj] at hx
      exact hc j x hx
    · rw [List.getElem?_append_right (by omega)] at hx
      have hj0 : j - l.length = 0 := by
        by_cases e : j - l.length = 0
        · exact e
        · rw [List.getElem?_eq_none (by simp; omega)] at hx; cases hx
      rw [hj0] at hx
      simp only [List.getElem?_cons_zero, Option.some.injEq] at hx
      subst hx
      obtain rfl : j = n := by omega
      exact h1
section
variable {H : Type} {enc : TypeId × Value → H} {W : World} {base : Nat} {sp : Nat → Bool} {held : Bool}
set_option maxRecDepth 100000 in
theorem open_valF (fuel : Nat) (cs : List Value) (x : DataW H × List MemPlace) (h : DataW.trod enc Try.prog W base sp held fuel 23 cs = some x) (hw : ∀ q ∈ DataW.weights Try.prog 23 x.1, q ≤ reachBytes) :
    ∃ y : Val, cs = [.int .u8 y.1, .int .i64 y.2.1, .string y.2.2] ∧ Vk y := by
  obtain ⟨us, n1, rfl, rfl, hcl, hul, hg⟩ := DataW.trod_struct Try.underlying23 h
  rw [show Try.prog.cellsOf 23 = 3 by kernel_rfl] at hcl
  match cs, hcl with
  | [c0, c1, c2], _ =>
    match us, hul with
    | [u0, u1, u2], _ =>
      have q0 : Try.prog.cellsOf 5 = 1 := by kernel_rfl
      have q2 : Try.prog.cellsOf 9 = 1 := by kernel_rfl
      have q5 : Try.prog.cellsOf 2 = 1 := by kernel_rfl
      have s0 := hg 0 _ rfl
      have s1 := hg 1 _ rfl
      have s2 := hg 2 _ rfl
      simp [q0, q2, q5] at s0 s1 s2
      obtain ⟨vk, f0, _, x0⟩ := DataW.trod_int Try.underlying5 s0
      obtain ⟨vn, f1, _, x1⟩ := DataW.trod_int Try.underlying2 s1
      obtain ⟨vs, f2, gu2, _⟩ := DataW.trod_string Try.underlying9 s2
      simp only [List.cons.injEq, and_true] at f0 f1 f2
      subst f0 f1 f2
      have hvs : vs.size ≤ 140737488351232 := by
        have h1 := hw vs.data.toList.length (by
          show _ ∈ DataW.weights Try.prog 23 (.agg [u0.1, u1.1, u2.1])
          rw [DataW.weights, Try.underlying23]
          exact DataW.weights_mem_each (ts := [5, 2, 9]) (j := 2) (t := 9) rfl rfl _ (by rw [gu2]; simp [DataW.weights]))
        simpa [reachBytes] using h1
      exact ⟨(vk, vn, vs), rfl, ⟨(wf_u8e x0).1, (wf_u8e x0).2, (wf_i64e x1).1, (wf_i64e x1).2⟩, hvs⟩
set_option maxRecDepth 100000 in
theorem open_rowF (fuel : Nat) (v : Value) (x : DataW H × List MemPlace) (h : DataW.trod enc Try.prog W base sp held fuel 42 [v] = some x) (hw : ∀ q ∈ DataW.weights Try.prog 42 x.1, q ≤ reachBytes) :
    ∃ r : Rw, v = .slice r.A r.l.length r.c ∧ RwOk W W.heap.size r ∧ ∀ y ∈ r.l, Vk y := by
  rcases DataW.trod_slice Try.underlying42 h with ⟨hc, _⟩ | ⟨a, len, cap, elems, rest, n2, hn2, hc, hy5, _, hlc, hcm, hel, hat, _, _⟩
  · injection hc with hc _
    subst hc
    exact ⟨⟨none, 0, []⟩, rfl, ⟨.inl rfl, Nat.zero_le _, Nat.zero_le _, fun _ => ⟨rfl, rfl⟩⟩, fun y hy => by cases hy⟩
  · injection hc with hc _
    subst hc
    rw [hy5] at hw
    have hw' : ∀ q ∈ DataW.weights Try.prog 42 (.slice (elems.map (·.1)) (rest.map (·.1))), q ≤ reachBytes := hw
    clear hw
    rw [show Try.prog.cellsOf 23 = 3 by kernel_rfl] at hat
    by_cases h0 : len = 0
    · subst h0
      exact ⟨⟨some a, cap, []⟩, rfl, ⟨.inl rfl, Nat.zero_le _, Nat.zero_le _, fun e => by cases e⟩, fun y hy => by cases hy⟩
    · have kid : ∀ i, i < len → ∃ y : Val, (W.cell? (a.add (i * 3)) = some (.int .u8 y.1) ∧ W.cell? (a.add (i * 3 + 1)) = some (.int .i64 y.2.1) ∧ W.cell? (a.add (i * 3 + 2)) = some (.string y.2.2)) ∧ Vk y := by
        intro i hi
        have hi2 := hat i hi
        have he : elems[i]? = some (elems[i]'(by omega)) := List.getElem?_eq_getElem (by omega)
        rw [he] at hi2
        obtain ⟨cs', hcs, htr⟩ := Option.bind_eq_some_iff.1 hi2
        have hmem : (elems[i]'(by omega)).1 ∈ elems.map (·.1) := List.mem_map_of_mem (List.getElem_mem _)
        obtain ⟨y, hy, hv⟩ := open_valF n2 cs' _ htr (fun q hq => hw' q (w_slice Try.underlying42 hmem hq))
        obtain ⟨_, hcl', hcell⟩ := World.cells?_some hcs
        subst hy
        have k0 := hcell 0 (by decide)
        have k1 := hcell 1 (by decide)
        have k2 := hcell 2 (by decide)
        rw [Go.Deep.add_add] at k0 k1 k2
        exact ⟨y, ⟨k0, k1, k2⟩, hv⟩
      obtain ⟨b, o, spot⟩ := a
      obtain ⟨x0', hx0, _⟩ := kid 0 (by omega)
      have hspot : spot = none := by simpa [Addr.add] using World.cell?_spot hx0.1
      subst hspot
      have ea : ∀ i, (⟨b, o, none⟩ : Addr).add i = ⟨b, o + i, none⟩ := fun i => by unfold Addr.add; split <;> simp_all
      have hblk : b < W.heap.size := by
        have q := hx0.1
        rw [ea] at q
        exact cell_lt q
      obtain ⟨l, hl1, hl2⟩ := pick_list len kid
      simp only [ea, ← Nat.add_assoc] at hl2
      have hmem : ∀ y ∈ l, Vk y := fun y hy => by
        obtain ⟨j, hj⟩ := List.mem_iff_getElem?.1 hy
        exact (hl2 j y hj).2
      exact ⟨⟨some ⟨b, o, none⟩, cap, l⟩, by rw [hl1], ⟨.inr ⟨b, o, rfl, hblk, fun j y hj => (hl2 j y hj).1⟩, by simp only; omega, by simp only; omega, fun e => by cases e⟩, hmem⟩
set_option maxRecDepth 100000 in
theorem open_rowsF (fuel : Nat) (v : Value) (x : DataW H × List MemPlace) (h : DataW.trod enc Try.prog W base sp held fuel 43 [v] = some x) (hw : ∀ q ∈ DataW.weights Try.prog 43 x.1, q ≤ reachBytes) :
    ∃ (A : Option Addr) (rs : List Rw) (c : Nat), v = .slice A rs.length c ∧ Rws W W.heap.size A rs ∧ rs.length ≤ maxLen ∧ rs.length ≤ c ∧ c ≤ maxLen ∧ (A = none → rs = [] ∧ c = 0) ∧ ∀ r ∈ rs, ∀ y ∈ r.l, Vk y := by
  rcases DataW.trod_slice Try.underlying43 h with ⟨hc, _⟩ | ⟨a, len, cap, elems, rest, n2, hn2, hc, hy5, _, hlc, hcm, hel, hat, _, _⟩
  · injection hc with hc _
    subst hc
    exact ⟨none, [], 0, rfl, .inl rfl, Nat.zero_le _, Nat.zero_le _, Nat.zero_le _, fun _ => ⟨rfl, rfl⟩, fun y hy => by cases hy⟩
  · injection hc with hc _
    subst hc
    rw [hy5] at hw
    have hw' : ∀ q ∈ DataW.weights Try.prog 43 (.slice (elems.map (·.1)) (rest.map (·.1))), q ≤ reachBytes := hw
    clear hw
    rw [show Try.prog.cellsOf 42 = 1 by kernel_rfl] at hat
    by_cases h0 : len = 0
    · subst h0
      exact ⟨some a, [], cap, rfl, .inl rfl, Nat.zero_le _, Nat.zero_le _, hcm, (fun e => by cases e), fun y hy => by cases hy⟩
    · have kid : ∀ i, i < len → ∃ r : Rw, W.cell? (a.add i) = some (.slice r.A r.l.length r.c) ∧ RwOk W W.heap.size r ∧ ∀ y ∈ r.l, Vk y := by
        intro i hi
        have hi2 := hat i hi
        have he : elems[i]? = some (elems[i]'(by omega)) := List.getElem?_eq_getElem (by omega)
        rw [he] at hi2
        obtain ⟨cs', hcs, htr⟩ := Option.bind_eq_some_iff.1 hi2
        have hmem : (elems[i]'(by omega)).1 ∈ elems.map (·.1) := List.mem_map_of_mem (List.getElem_mem _)
        obtain ⟨_, hcl', hcell⟩ := World.cells?_some hcs
        match cs', hcl' with
        | [c0], _ =>
          obtain ⟨r, hr, hok, hv⟩ := open_rowF n2 c0 _ htr (fun q hq => hw' q (w_slice Try.underlying43 hmem hq))
          have k0 := hcell 0 (by decide)
          rw [Go.Deep.add_add] at k0
          rw [hr] at k0
          exact ⟨r, by simpa using k0, hok, hv⟩
      obtain ⟨b, o, spot⟩ := a
      obtain ⟨x0', hx0, _⟩ := kid 0 (by omega)
      have hspot : spot = none := by simpa [Addr.add] using World.cell?_spot hx0
      subst hspot
      have ea : ∀ i, (⟨b, o, none⟩ : Addr).add i = ⟨b, o + i, none⟩ := fun i => by unfold Addr.add; split <;> simp_all
      have hblk : b < W.heap.size := by
        have q := hx0
        rw [ea] at q
        exact cell_lt q
      obtain ⟨l, hl1, hl2⟩ := pick_list len kid
      simp only [ea] at hl2
      have hmem : ∀ r ∈ l, ∀ y ∈ r.l, Vk y := fun r hr => by
        obtain ⟨j, hj⟩ := List.mem_iff_getElem?.1 hr
        exact (hl2 j r hj).2.2
      exact ⟨some ⟨b, o, none⟩, l, cap, by rw [hl1], .inr ⟨b, o, rfl, hblk, fun j r hj => ⟨(hl2 j r hj).1, (hl2 j r hj).2.1⟩⟩, by omega, by omega, hcm, (fun e => by cases e), hmem⟩
end
set_option maxRecDepth 100000 in
theorem open_row {H : Type} {enc : TypeId × Value → H} {W : World} {base b0 : Nat} {r : Reach} {sp : Nat → Bool} {held : Bool} {v : Value} {d : DataW H} {p : List MemPlace} (hval : Value.okWide Try.prog W r b0 42 v) (h : DataW.Trod enc Try.prog W base sp held 42 v d p) (hw : ∀ q ∈ DataW.weights Try.prog 42 d, q ≤ reachBytes) :
    ∃ r : Rw, v = .slice r.A r.l.length r.c ∧ RwOk W W.heap.size r ∧ ∀ y ∈ r.l, Vk y := by
  obtain ⟨a, len, cap, rfl⟩ := okWide_slice Try.underlying42 hval
  obtain ⟨fuel, hf⟩ := h
  simp only [Value.cells] at hf
  exact open_rowF fuel _ _ hf hw
set_option maxRecDepth 100000 in
theorem open_rows {H : Type} {enc : TypeId × Value → H} {W : World} {base b0 : Nat} {r : Reach} {sp : Nat → Bool} {held : Bool} {v : Value} {d : DataW H} {p : List MemPlace} (hval : Value.okWide Try.prog W r b0 43 v) (h : DataW.Trod enc Try.prog W base sp held 43 v d p) (hw : ∀ q ∈ DataW.weights Try.prog 43 d, q ≤ reachBytes) :
    ∃ (A : Option Addr) (rs : List Rw) (c : Nat), v = .slice A rs.length c ∧ Rws W W.heap.size A rs ∧ rs.length ≤ maxLen ∧ rs.length ≤ c ∧ c ≤ maxLen ∧ (A = none → rs = [] ∧ c = 0) ∧ ∀ r ∈ rs, ∀ y ∈ r.l, Vk y := by
  obtain ⟨a, len, cap, rfl⟩ := okWide_slice Try.underlying43 hval
  obtain ⟨fuel, hf⟩ := h
  simp only [Value.cells] at hf
  exact open_rowsF fuel _ _ hf hw
end Go.Proofs.Ytkgpcodccpckeaa
