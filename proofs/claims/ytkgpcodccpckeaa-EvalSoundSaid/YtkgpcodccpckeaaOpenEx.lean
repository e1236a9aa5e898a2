/- An expression, a slice of small numbers that come in. Conditions: those of each lemma. -/
import Derived.Test.YtkgpcodccpckeaaEt1
namespace Go.Proofs.Ytkgpcodccpckeaa
open Go Go.Joins Go.ChangeShapes Go.WideShapes Go.RowKit Go.Deep
set_option linter.unusedVariables false
set_option maxRecDepth 100000 in
theorem open_expr {H : Type} {enc : TypeId × Value → H} {W : World} {base b0 : Nat} {r : Reach} {sp : Nat → Bool} {held : Bool} {v : Value} {d : DataW H} {p : List MemPlace} (hval : Value.okWide Try.prog W r b0 29 v) (h : DataW.Trod enc Try.prog W base sp held 29 v d p) (hw : ∀ q ∈ DataW.weights Try.prog 29 d, q ≤ reachBytes) :
    ∃ T : XT, v = exV T.ex ∧ InT W W.heap.size T := by
  obtain ⟨cs, rfl, hsz⟩ := okWide_struct Try.underlying29 hval
  obtain ⟨fuel, hf⟩ := h
  obtain ⟨T, hT, hin⟩ := open_ex fuel _ _ hf hw
  refine ⟨T, ?_, hin⟩
  have e : cs.toList = (exC T.ex).toList := hT
  have e2 : cs = exC T.ex := Array.toList_inj.1 e
  rw [e2]
theorem u8_list {w : World} {b o : Nat} (n : Nat) (h : ∀ i, i < n → ∃ x : Int, w.cell? ⟨b, o + i, none⟩ = some (.int .u8 x)) :
    ∃ l : List Int, l.length = n ∧ ∀ (j : Nat) x, l[j]? = some x → w.cell? ⟨b, o + j, none⟩ = some (.int .u8 x) := by
  induction n with
  | zero => exact ⟨[], rfl, fun j x hx => by simp at hx⟩
  | succ n ih =>
    obtain ⟨l, hl, hc⟩ := ih (fun i hi => h i (by omega))
    obtain ⟨y, h1⟩ := h n (by omega)
    refine ⟨l ++ [y], by rw [List.length_append, hl]; rfl, fun j x hx => ?_⟩
    by_cases hj : j < l.length
    · rw [List.getElem?_append_left hj] at hx
      exact hc j x hx
    · rw [List.getElem?_append_right (by omega)] at hx
      have hj0 : j - l.length = 0 := by
        by_cases e : j - l.length = 0
        · exact e
        · rw [List.getElem?_eq_none (by simp; omega)] at hx; cases hx
      rw [hj0] at hx
      simp only [List.getElem?_cons_zero, Option.some.injEq] at hx
      subst hx
      obtain rfl : j = n := by omega
      exact h1
set_option maxRecDepth 100000 in
theorem open_u8s {H : Type} {enc : TypeId × Value → H} {W : World} {base b0 : Nat} {r : Reach} {sp : Nat → Bool} {held : Bool} {v : Value} {d : DataW H} {p : List MemPlace} (hval : Value.okWide Try.prog W r b0 44 v) (h : DataW.Trod enc Try.prog W base sp held 44 v d p) :
    ∃ (A : Option Addr) (l : List Int) (n c : Nat), v = .slice A n c ∧ U8s W W.heap.size A l ∧ n = l.length ∧ n ≤ maxLen := by
  obtain ⟨a, len, cap, rfl⟩ := okWide_slice Try.underlying44 hval
  obtain ⟨fuel, hf⟩ := h
  simp only [Value.cells] at hf
  rcases DataW.trod_slice Try.underlying44 hf with ⟨hc, _⟩ | ⟨a', len', cap', elems, rest, n2, hn2, hc, hy5, _, hlc, hcm, hel, hat, _, _⟩
  · simp at hc
    obtain ⟨rfl, rfl, rfl⟩ := hc
    exact ⟨none, [], 0, 0, rfl, .inl rfl, rfl, by unfold maxLen; omega⟩
  · simp at hc
    obtain ⟨rfl, rfl, rfl⟩ := hc
    rw [show Try.prog.cellsOf 5 = 1 by kernel_rfl] at hat
    by_cases h0 : len = 0
    · exact ⟨some a', [], len, cap, rfl, .inl rfl, by simpa using h0, by omega⟩
    · have kid : ∀ i, i < len → ∃ x : Int, W.cell? (a'.add i) = some (.int .u8 x) := by
        intro i hi
        have hi2 := hat i hi
        have he : elems[i]? = some (elems[i]'(by omega)) := List.getElem?_eq_getElem (by omega)
        rw [he] at hi2
        obtain ⟨cs', hcs, htr⟩ := Option.bind_eq_some_iff.1 hi2
        obtain ⟨_, hcl', hcell⟩ := World.cells?_some hcs
        match cs', hcl' with
        | [c0], _ =>
          obtain ⟨x, e0, _, _⟩ := DataW.trod_int Try.underlying5 htr
          simp only [List.cons.injEq, and_true] at e0
          subst e0
          have := hcell 0 (by omega)
          rw [Go.Deep.add_add] at this
          refine ⟨x, ?_⟩
          simpa using this
      obtain ⟨b, o, spot⟩ := a'
      obtain ⟨x0, hx0⟩ := kid 0 (by omega)
      have hspot : spot = none := by simpa [Addr.add] using World.cell?_spot hx0
      subst hspot
      have ea : ∀ i, (⟨b, o, none⟩ : Addr).add i = ⟨b, o + i, none⟩ := fun i => by unfold Addr.add; split <;> simp_all
      have hblk : b < W.heap.size := by
        rw [ea] at hx0
        exact cell_lt hx0
      obtain ⟨l, hl1, hl2⟩ := u8_list (w := W) (b := b) (o := o) len (fun i hi => by
        obtain ⟨x, hx⟩ := kid i hi
        rw [ea] at hx
        exact ⟨x, hx⟩)
      exact ⟨some ⟨b, o, none⟩, l, len, cap, rfl, .inr ⟨b, o, rfl, hblk, hl2⟩, hl1.symm, by omega⟩
end Go.Proofs.Ytkgpcodccpckeaa
