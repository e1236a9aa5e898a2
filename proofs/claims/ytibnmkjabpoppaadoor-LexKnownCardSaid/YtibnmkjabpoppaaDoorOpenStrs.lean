/- Texts that come in, as a list. Conditions: those of each lemma. -/
import Derived.Test.YtibnmkjabpoppaaDoorLx31
import Derived.Deep.Slices
import Derived.Deep.Fields
import Derived.ChangeSame
import Derived.Lib.SmallJoins
import Derived.ProofKit
import Derived.OpenShut
import Derived.ShutString
import Derived.ChangeOld
namespace Go.Proofs.YtibnmkjabpoppaaDoor
open Go Go.Joins Go.ChangeShapes Go.WideShapes Go.RowKit Go.Deep
set_option linter.unusedVariables false
/-- texts lie where a slice points to -/
def StrsI (W : World) (A : Option Addr) (l : List ByteArray) : Prop := l = [] ∨ ∃ g o, A = some ⟨g, o, none⟩ ∧ g < W.heap.size ∧ ∀ (j : Nat) (s : ByteArray), l[j]? = some s → W.cell? ⟨g, o + j, none⟩ = some (.string s)
theorem stri_step {W W' : World} {A : Option Addr} {l : List ByteArray} (h : StrsI W A l) (hb : Below W.heap.size W W') : StrsI W' A l := by
  rcases h with h | ⟨g, o, h1, h2, h3⟩
  · exact .inl h
  · exact .inr ⟨g, o, h1, Nat.lt_of_lt_of_le h2 hb.size, fun j s hj => (hb.cell (p := ⟨g, _, none⟩) h2).trans (h3 j s hj)⟩
/-- a text that comes in needs nothing more -/
def FitS (s : ByteArray) : Prop := True
def Strsl (w : World) (B : Nat) (A : Option Addr) (l : List ByteArray) : Prop := StrsI w A l
theorem strs_list {w : World} {b o : Nat} (n : Nat) (h : ∀ i, i < n → ∃ x : ByteArray, w.cell? ⟨b, o + i, none⟩ = some (.string x)) :
    ∃ l : List ByteArray, l.length = n ∧ ∀ (j : Nat) (x : ByteArray), l[j]? = some x → w.cell? ⟨b, o + j, none⟩ = some (.string x) := by
  induction n with
  | zero => exact ⟨[], rfl, fun j x hx => by simp at hx⟩
  | succ n ih =>
    obtain ⟨l, hl, hc⟩ := ih (fun i hi => h i (by omega))
    obtain ⟨x0, h1⟩ := h n (by omega)
    refine ⟨l ++ [x0], by rw [List.length_append, hl]; rfl, fun j x hx => ?_⟩
    by_cases hj : j < l.length
    · rw [List.getElem?_append_left hj] at hx
      exact hc j x hx
    · rw [List.getElem?_append_right (by omega)] at hx
      have hj0 : j - l.length = 0 := by
        by_cases e : j - l.length = 0
        · exact e
        · rw [List.getElem?_eq_none (by simp; omega)] at hx; cases hx
      rw [hj0] at hx
      simp only [List.getElem?_cons_zero, Option.some.injEq] at hx
      subst hx
      obtain rfl : j = n := by omega
      exact h1
theorem cells_string : Tryd.prog.cellsOf 9 = 1 := by kernel_rfl
set_option maxRecDepth 100000 in
theorem open_strs {H : Type} {enc : TypeId × Value → H} {W : World} {base b0 : Nat} {r : Reach} {sp : Nat → Bool} {held : Bool} {v : Value} {d : DataW H} {p : List MemPlace} (hval : Value.okWide Tryd.prog W r b0 33 v) (h : DataW.Trod enc Tryd.prog W base sp held 33 v d p) :
    ∃ (A : Option Addr) (l : List ByteArray) (n c : Nat), v = .slice A n c ∧ Strsl W W.heap.size A l ∧ n = l.length ∧ n ≤ maxLen ∧ ∀ x ∈ l, FitS x := by
  obtain ⟨a, len, cap, rfl⟩ := okWide_slice Tryd.underlying33 hval
  obtain ⟨fuel, hf⟩ := h
  simp only [Value.cells] at hf
  rcases open_slice Tryd.underlying33 hf with h0 | ⟨a', len', cap', m, n, D, Pl, hv, hb, hl, hcap, hm, hx, hi⟩
  · obtain ⟨hv, _⟩ := h0
    simp at hv
    obtain ⟨rfl, rfl, rfl⟩ := hv
    exact ⟨none, [], 0, 0, rfl, .inl rfl, rfl, by unfold maxLen; omega, fun x hx => trivial⟩
  · simp at hv
    obtain ⟨rfl, rfl, rfl⟩ := hv
    have hlm : len ≤ m := by rw [hm]; split <;> omega
    by_cases h0 : len = 0
    · exact ⟨some a', [], len, cap, rfl, .inl rfl, by simpa using h0, by omega, fun x hx => trivial⟩
    · obtain ⟨b, o, spot⟩ := a'
      have cellf : ∀ i, i < len → ∃ x : ByteArray, W.cell? ((⟨b, o, spot⟩ : Addr).add i) = some (.string x) := by
        intro i hil
        obtain ⟨cs', hc, ht'⟩ := hi i (by omega)
        rw [cells_string, Nat.mul_one] at hc
        obtain ⟨_, hcl, hat⟩ := World.cells?_some hc
        obtain ⟨s, e1, _, _⟩ := DataW.trod_string Tryd.underlying9 ht'
        subst e1
        have hcell := hat 0 (by omega)
        have e0 : ((⟨b, o, spot⟩ : Addr).add i).add 0 = (⟨b, o, spot⟩ : Addr).add i := by unfold Addr.add; split <;> simp_all
        rw [e0] at hcell
        exact ⟨s, by rw [hcell]; rfl⟩
      obtain ⟨x0, q0⟩ := cellf 0 (by omega)
      have hspot : spot = none := by simpa [Addr.add] using World.cell?_spot q0
      subst hspot
      have ea : ∀ i, (⟨b, o, none⟩ : Addr).add i = ⟨b, o + i, none⟩ := fun i => by unfold Addr.add; split <;> simp_all
      have hblk : b < W.heap.size := by
        rw [ea] at q0
        rcases Nat.lt_or_ge b W.heap.size with hlt | hge
        · exact hlt
        · simp [World.cell?, Array.getElem?_eq_none hge] at q0
      obtain ⟨l, hl1, hl2⟩ := strs_list (w := W) (b := b) (o := o) len (fun i hi => by
        obtain ⟨x, c0⟩ := cellf i hi
        rw [ea] at c0
        exact ⟨x, c0⟩)
      exact ⟨some ⟨b, o, none⟩, l, len, cap, rfl, .inr ⟨b, o, rfl, hblk, hl2⟩, hl1.symm, by omega, fun x hx => trivial⟩
end Go.Proofs.YtibnmkjabpoppaaDoor
