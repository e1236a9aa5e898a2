/- A page that comes in by value: its fields, and its cells as a list. Conditions: those of each lemma. -/
import Derived.Test.YticpenbebokjdaaDoorNd2
import Derived.Deep.Slices
import Derived.Deep.Fields
import Derived.ChangeSame
import Derived.Lib.SmallJoins
import Derived.ProofKit
import Derived.OpenShut
import Derived.ShutString
import Derived.ChangeOld
namespace Go.Proofs.YticpenbebokjdaaDoor
open Go.Joins Go.ChangeShapes Go.WideShapes Go.RowKit Go.Deep
set_option linter.unusedVariables false
section
variable {H : Type} {enc : TypeId × Value → H} {P : Program} {w : World} {base : Nat} {spare : Nat → Bool} {held : Bool}
theorem open_slice_fields {t e : TypeId} {fs : Array Field} {fuel : Nat} {cs : List Value} {x : DataW H × List MemPlace} (ht : P.underlying t = some (.slice e)) (he : P.underlying e = some (.struct fs))
    (hone : oneCellFields P fs = true) (hC : P.cellsOf e = fs.size) (h : DataW.trod enc P w base spare held fuel t cs = some x) :
    (cs = [.slice none 0 0] ∧ x = (.nil, [])) ∨
    ∃ (a : Addr) (len cap m : Nat) (D : Nat → DataW H) (Pl : Nat → List MemPlace), cs = [.slice (some a) len cap] ∧ base ≤ a.block ∧ len ≤ cap ∧ cap ≤ maxLen ∧ m = (if spare a.block then cap else len) ∧
      x = (.slice ((List.range len).map D) ((List.range (m - len)).map fun j => D (len + j)), MemPlace.row a (m * fs.size) ++ (List.range m).flatMap Pl) ∧
      ∀ i, i < m → ∃ (ys : List (DataW H × List MemPlace)) (n : Nat), D i = .agg (ys.map (·.1)) ∧ Pl i = ys.flatMap (·.2) ∧ ys.length = fs.size ∧
        ∀ (j : Nat) (f : Field), fs[j]? = some f → ∃ (v : Value) (y : DataW H × List MemPlace), w.cell? (a.add (i * fs.size + j)) = some v ∧ ys[j]? = some y ∧ DataW.trod enc P w base spare held n f.type [v] = some y := by
  rcases open_slice ht h with h0 | ⟨a, len, cap, m, n, D, Pl, hcs, hb, hl, hm, hmm, hx, hi⟩
  · exact .inl h0
  · refine .inr ⟨a, len, cap, m, D, Pl, hcs, hb, hl, hm, hmm, by rw [hC] at hx; exact hx, fun i him => ?_⟩
    obtain ⟨cs', hc, ht'⟩ := hi i him
    rw [hC] at hc
    obtain ⟨ys, n', hn', hy, hlen, hyl, hf⟩ := DataW.trod_struct he ht'
    obtain ⟨_, hcl, hat⟩ := World.cells?_some hc
    simp only [Prod.mk.injEq] at hy
    refine ⟨ys, n', hy.1, hy.2, hyl, fun j f hj => ?_⟩
    obtain ⟨ho, hk⟩ := hone_of hone j f hj
    have hjl : j < fs.size := (Array.getElem?_eq_some_iff.1 hj).1
    have hcell := hat j hjl
    have hv : cs'[j]? = some (cs'[j]'(by omega)) := List.getElem?_eq_getElem (by omega)
    have h1 := hf j f hj
    rw [ho, hk] at h1
    have hone' : (cs'.drop j).take 1 = [cs'[j]'(by omega)] := by
      rw [List.drop_eq_getElem_cons (by omega)]
      rfl
    rw [hone'] at h1
    have hys : ys[j]? = some (ys[j]'(by omega)) := List.getElem?_eq_getElem (by omega)
    refine ⟨_, _, ?_, hys, h1.trans hys⟩
    rw [← Go.Deep.add_add, hcell, hv]
end
def FitC (c : Cl) : Prop := (Lit.int .i64 c.size).wf = true ∧ (Lit.int .i64 c.page).wf = true
theorem cls_list {w : World} {b o : Nat} (n : Nat) (h : ∀ i, i < n → ∃ x : Cl, Cells4 w b (o + i * 4) x ∧ FitC x) :
    ∃ l : List Cl, l.length = n ∧ (∀ (j : Nat) x, l[j]? = some x → Cells4 w b (o + j * 4) x) ∧ ∀ x ∈ l, FitC x := by
  induction n with
  | zero => exact ⟨[], rfl, fun j x hx => by simp at hx, fun x hx => by simp at hx⟩
  | succ n ih =>
    obtain ⟨l, hl, hc, hq⟩ := ih (fun i hi => h i (by omega))
    obtain ⟨y, h1, h3⟩ := h n (by omega)
    refine ⟨l ++ [y], by rw [List.length_append, hl]; rfl, fun j x hx => ?_, fun x hx => ?_⟩
    · by_cases hj : j < l.length
      · rw [List.getElem?_append_left hj] at hx
        exact hc j x hx
      · rw [List.getElem?_append_right (by omega)] at hx
        have hj0 : j - l.length = 0 := by
          by_cases e : j - l.length = 0
          · exact e
          · rw [List.getElem?_eq_none (by simp; omega)] at hx; cases hx
        rw [hj0] at hx
        simp only [List.getElem?_cons_zero, Option.some.injEq] at hx
        subst hx
        obtain rfl : j = n := by omega
        exact h1
    · rcases List.mem_append.1 hx with hx | hx
      · exact hq x hx
      · rw [List.mem_singleton.1 hx]; exact h3
theorem open_cls {H : Type} {enc : TypeId × Value → H} {W : World} {base : Nat} {sp : Nat → Bool} {held : Bool} {fuel : Nat} {v : Value} {y : DataW H × List MemPlace} (h : DataW.trod enc Tryd.prog W base sp held fuel 25 [v] = some y) :
    ∃ (A : Option Addr) (l : List Cl) (n c : Nat), v = .slice A n c ∧ Cls W W.heap.size A l ∧ n = l.length ∧ n ≤ maxLen ∧ n ≤ c ∧ ∀ x ∈ l, FitC x := by
  rcases open_slice_fields Tryd.underlying25 Tryd.underlying30 (by kernel_rfl) (by kernel_rfl) h with ⟨hv, _⟩ | ⟨a, len, cap, m, D, Pl, hv, _, hl, hcap, hm, _, hf⟩
  · injection hv with hv _
    exact ⟨none, [], 0, 0, hv, .inl rfl, rfl, by unfold maxLen; omega, Nat.le_refl _, fun x hx => by simp at hx⟩
  · injection hv with hv _
    have hlm : len ≤ m := by rw [hm]; split <;> omega
    by_cases h0 : len = 0
    · exact ⟨some a, [], len, cap, hv, .inl rfl, by simpa using h0, by omega, hl, fun x hx => by simp at hx⟩
    · obtain ⟨b, o, spot⟩ := a
      have cellf : ∀ i, i < len → ∃ x : Cl, (W.cell? ((⟨b, o, spot⟩ : Addr).add (i * 4)) = some (.string x.key) ∧ W.cell? ((⟨b, o, spot⟩ : Addr).add (i * 4 + 1)) = some (.int .i64 x.size) ∧ W.cell? ((⟨b, o, spot⟩ : Addr).add (i * 4 + 2)) = some (.string x.loc) ∧ W.cell? ((⟨b, o, spot⟩ : Addr).add (i * 4 + 3)) = some (.int .i64 x.page)) ∧ FitC x := by
        intro i hi
        obtain ⟨ys, n, _, _, _, hfl⟩ := hf i (by omega)
        obtain ⟨v0, y0, c0, _, t0⟩ := hfl 0 _ rfl
        obtain ⟨v1, y1, c1, _, t1⟩ := hfl 1 _ rfl
        obtain ⟨v2, y2, c2, _, t2⟩ := hfl 2 _ rfl
        obtain ⟨v3, y3, c3, _, t3⟩ := hfl 3 _ rfl
        obtain ⟨k, e0, _, _⟩ := DataW.trod_string Tryd.underlying9 t0
        obtain ⟨z, e1, _, w1⟩ := DataW.trod_int Tryd.underlying3 t1
        obtain ⟨lo, e2, _, _⟩ := DataW.trod_string Tryd.underlying9 t2
        obtain ⟨p, e3, _, w3⟩ := DataW.trod_int Tryd.underlying3 t3
        simp at e0 e1 e2 e3
        subst e0 e1 e2 e3
        exact ⟨⟨k, z, lo, p⟩, ⟨c0, c1, c2, c3⟩, w1, w3⟩
      obtain ⟨x0, ⟨q0, _⟩, _⟩ := cellf 0 (by omega)
      have hspot : spot = none := by simpa [Addr.add] using World.cell?_spot q0
      subst hspot
      have ea : ∀ i, (⟨b, o, none⟩ : Addr).add i = ⟨b, o + i, none⟩ := fun i => by unfold Addr.add; split <;> simp_all
      have hblk : b < W.heap.size := by
        rw [ea] at q0
        rcases Nat.lt_or_ge b W.heap.size with hlt | hge
        · exact hlt
        · simp [World.cell?, Array.getElem?_eq_none hge] at q0
      obtain ⟨l, hl1, hl2, hl3⟩ := cls_list (w := W) (b := b) (o := o) len (fun i hi => by
        obtain ⟨x, ⟨c0, c1, c2, c3⟩, hx⟩ := cellf i hi
        rw [ea] at c0 c1 c2 c3
        exact ⟨x, ⟨c0, by rw [Nat.add_assoc]; exact c1, by rw [Nat.add_assoc]; exact c2, by rw [Nat.add_assoc]; exact c3⟩, hx⟩)
      exact ⟨some ⟨b, o, none⟩, l, len, cap, hv, .inr ⟨b, o, rfl, hblk, hl2⟩, hl1.symm, by omega, hl, hl3⟩
end Go.Proofs.YticpenbebokjdaaDoor
