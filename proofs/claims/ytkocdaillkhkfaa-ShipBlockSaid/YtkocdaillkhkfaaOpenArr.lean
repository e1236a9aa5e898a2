/- An array of integers that comes in by value: it is so many integers, each fitting its kind. Conditions: those of the lemma. -/
import Derived.ProofKit
import Derived.OpenShut
namespace Go.Proofs.Ytkocdaillkhkfaa
open Go.ChangeShapes Go.WideShapes Go.ChangeAt Go.RowKit
theorem list_ints {k : IntKind} : ∀ (L : List Value), (∀ v ∈ L, ∃ x, v = .int k x ∧ (Lit.int k x).wf = true) → ∃ ns : List Int, L = ns.map (Value.int k) ∧ ∀ x ∈ ns, (Lit.int k x).wf = true
  | [], _ => ⟨[], rfl, fun _ h => by cases h⟩
  | v :: L, h => by
    obtain ⟨x, rfl, hx⟩ := h v (by simp)
    obtain ⟨ns, rfl, hns⟩ := list_ints L (fun u hu => h u (by simp [hu]))
    exact ⟨x :: ns, rfl, fun y hy => by
      rcases List.mem_cons.1 hy with rfl | hy
      · exact hx
      · exact hns y hy⟩
theorem open_int_array {H : Type} {enc : TypeId × Value → H} {P : Program} {t e : TypeId} {n : Nat} {k : IntKind} {W : World} {base : Nat} {sp : Nat → Bool} {held : Bool} {r : Reach} {b0 : Nat} {v : Value} {d : DataW H} {ps : List MemPlace}
    (ht : P.underlying t = some (.array n e)) (he : P.underlying e = some (.int k)) (hc : P.cellsOf t = n) (h1 : P.cellsOf e = 1)
    (hv : Value.okWide P W r b0 t v) (h : DataW.Trod enc P W base sp held t v d ps) :
    ∃ ns : List Int, ns.length = n ∧ v = .agg (ns.map (Value.int k)).toArray ∧ ∀ x ∈ ns, (Lit.int k x).wf = true := by
  simp only [Value.okWide, ht] at hv
  obtain ⟨cs, rfl, hsz, _⟩ := hv
  obtain ⟨fuel, hf⟩ := h
  obtain ⟨xs, m, _, _, hl, hxl, hel⟩ := DataW.trod_array ht hf
  have hcl : cs.toList.length = n := by simpa [hc] using hsz
  obtain ⟨ns, hns, hwf⟩ := list_ints (k := k) cs.toList (fun u hu => by
    obtain ⟨i, hi, rfl⟩ := List.getElem_of_mem hu
    have hin : i < n := by omega
    have := hel i hin
    rw [h1, List.getElem?_eq_getElem (by omega)] at this
    obtain ⟨x, hx, _, wx⟩ := DataW.trod_int he this
    refine ⟨x, ?_, wx⟩
    have e1 : (cs.toList.drop i).take 1 = [cs.toList[i]] := by
      rw [List.drop_eq_getElem_cons hi]; rfl
    have hx2 : (cs.toList.drop i).take 1 = [.int k x] := by
      simpa only [Value.cells, Nat.mul_one] using hx
    rw [e1] at hx2
    injection hx2)
  refine ⟨ns, ?_, ?_, hwf⟩
  · rw [← hcl, hns]; simp
  · rw [← hns]
end Go.Proofs.Ytkocdaillkhkfaa
