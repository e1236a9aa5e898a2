/- Layer 3: a script that comes in: its operations as a list; flags that come in. Conditions: those of each lemma. -/
import Derived.Test.YtffojihhjiogpaaFi23
import Derived.Deep.Slices
import Derived.Deep.Fields
import Derived.ChangeSame
import Derived.Lib.SmallJoins
import Derived.ProofKit
import Derived.OpenShut
import Derived.ShutString
import Derived.ChangeOld
namespace Go.Proofs.Ytffojihhjiogpaa
open Go Go.Joins Go.ChangeShapes Go.WideShapes Go.RowKit Go.Deep
set_option linter.unusedVariables false
section
variable {H : Type} {enc : TypeId × Value → H} {P : Program} {w : World} {base : Nat} {spare : Nat → Bool} {held : Bool}
theorem open_slice_cells {t e : TypeId} {fs : Array Field} {fuel : Nat} {cs : List Value} {x : DataW H × List MemPlace} (ht : P.underlying t = some (.slice e)) (he : P.underlying e = some (.struct fs))
    (hone : oneCellFields P fs = true) (hC : P.cellsOf e = fs.size) (h : DataW.trod enc P w base spare held fuel t cs = some x) :
    (cs = [.slice none 0 0]) ∨
    ∃ (a : Addr) (len cap m : Nat), cs = [.slice (some a) len cap] ∧ len ≤ cap ∧ cap ≤ maxLen ∧ m = (if spare a.block then cap else len) ∧
      ∀ i, i < m → ∃ (n : Nat), ∀ (j : Nat) (f : Field), fs[j]? = some f → ∃ (v : Value) (y : DataW H × List MemPlace), w.cell? (a.add (i * fs.size + j)) = some v ∧ DataW.trod enc P w base spare held n f.type [v] = some y := by
  rcases open_slice ht h with h0 | ⟨a, len, cap, m, n, D, Pl, hcs, hb, hl, hm, hmm, hx, hi⟩
  · exact .inl h0.1
  · refine .inr ⟨a, len, cap, m, hcs, hl, hm, hmm, fun i him => ?_⟩
    obtain ⟨cs', hc, ht'⟩ := hi i him
    rw [hC] at hc
    obtain ⟨ys, n', hn', hy, hlen, hyl, hf⟩ := DataW.trod_struct he ht'
    obtain ⟨_, hcl, hat⟩ := World.cells?_some hc
    refine ⟨n', fun j f hj => ?_⟩
    obtain ⟨ho, hk⟩ := hone_of hone j f hj
    have hjl : j < fs.size := (Array.getElem?_eq_some_iff.1 hj).1
    have hcell := hat j hjl
    have hv : cs'[j]? = some (cs'[j]'(by omega)) := List.getElem?_eq_getElem (by omega)
    have h1 := hf j f hj
    rw [ho, hk] at h1
    have hone' : (cs'.drop j).take 1 = [cs'[j]'(by omega)] := by
      rw [List.drop_eq_getElem_cons (by omega)]
      rfl
    rw [hone'] at h1
    have hys : ys[j]? = some (ys[j]'(by omega)) := List.getElem?_eq_getElem (by omega)
    refine ⟨_, _, ?_, h1.trans hys⟩
    rw [← Go.Deep.add_add, hcell, hv]
end
theorem pick_list {α : Type} {Q : Nat → α → Prop} (n : Nat) (h : ∀ i, i < n → ∃ x, Q i x) : ∃ l : List α, l.length = n ∧ ∀ (j : Nat) x, l[j]? = some x → Q j x := by
  induction n with
  | zero => exact ⟨[], rfl, fun j x hx => by simp at hx⟩
  | succ n ih =>
    obtain ⟨l, hl, hc⟩ := ih (fun i hi => h i (by omega))
    obtain ⟨y, h1⟩ := h n (by omega)
    refine ⟨l ++ [y], by rw [List.length_append, hl]; rfl, fun j x hx => ?_⟩
    by_cases hj : j < l.length
    · rw [List.getElem?_append_left hj] at hx
      exact hc j x hx
    · rw [List.getElem?_append_right (by omega)] at hx
      have hj0 : j - l.length = 0 := by
        by_cases e : j - l.length = 0
        · exact e
        · rw [List.getElem?_eq_none (by simp; omega)] at hx; cases hx
      rw [hj0] at hx
      simp only [List.getElem?_cons_zero, Option.some.injEq] at hx
      subst hx
      obtain rfl : j = n := by omega
      exact h1
theorem wf_u8 {x : Int} (h : (Lit.int .u8 x).wf = true) : 0 ≤ x ∧ x < 256 := by
  have h2 : IntKind.u8.min = 0 := rfl
  have h3 : IntKind.u8.max = 255 := rfl
  simp [Lit.wf, h2, h3] at h
  omega
theorem wf_i64 {x : Int} (h : (Lit.int .i64 x).wf = true) : -9223372036854775808 ≤ x ∧ x ≤ 9223372036854775807 := by
  have h2 : IntKind.i64.min = -9223372036854775808 := rfl
  have h3 : IntKind.i64.max = 9223372036854775807 := rfl
  simp [Lit.wf, h2, h3] at h
  omega
theorem cell_lt3 {W : World} {a : Addr} {v : Value} (h : W.cell? a = some v) : a.block < W.heap.size := by
  rcases Nat.lt_or_ge a.block W.heap.size with hlt | hge
  · exact hlt
  · simp [World.cell?, Array.getElem?_eq_none hge] at h
section
variable {H : Type} {enc : TypeId × Value → H} {W : World} {base : Nat} {sp : Nat → Bool} {held : Bool}
set_option maxRecDepth 100000 in
theorem open_boolsF (fuel : Nat) (v : Value) (x : DataW H × List MemPlace) (h : DataW.trod enc Try.prog W base sp held fuel 33 [v] = some x) :
    ∃ (A : Option Addr) (l : List Bool) (n c : Nat), v = .slice A n c ∧ KsAt W W.heap.size A l ∧ n = l.length ∧ n ≤ maxLen := by
  rcases open_slice Try.underlying33 h with ⟨hc, _⟩ | ⟨a, len, cap, m, n, D, Pl, hc, _, hl, hcap, hm, _, hat⟩
  · injection hc with hc _
    subst hc
    exact ⟨none, [], 0, 0, rfl, .inl rfl, rfl, by unfold maxLen; omega⟩
  · injection hc with hc _
    subst hc
    rw [show Try.prog.cellsOf 4 = 1 by kernel_rfl] at hat
    have hlm : len ≤ m := by rw [hm]; split <;> omega
    by_cases h0 : len = 0
    · subst h0
      exact ⟨some a, [], 0, cap, rfl, .inl rfl, rfl, by omega⟩
    · have kid : ∀ i, i < len → ∃ y : Bool, W.cell? (a.add i) = some (.bool y) := by
        intro i hi
        obtain ⟨cs', hcs, htr⟩ := hat i (by omega)
        obtain ⟨y, hy, _⟩ := DataW.trod_bool Try.underlying4 htr
        obtain ⟨_, hcl', hcell⟩ := World.cells?_some hcs
        subst hy
        have k0 := hcell 0 (by decide)
        rw [Go.Deep.add_add] at k0
        exact ⟨y, by simpa using k0⟩
      obtain ⟨b, o, spot⟩ := a
      obtain ⟨x0', hx0⟩ := kid 0 (by omega)
      have hspot : spot = none := by simpa [Addr.add] using World.cell?_spot hx0
      subst hspot
      have ea : ∀ i, (⟨b, o, none⟩ : Addr).add i = ⟨b, o + i, none⟩ := fun i => by unfold Addr.add; split <;> simp_all
      have hblk : b < W.heap.size := by
        have q := hx0
        rw [ea] at q
        exact cell_lt3 q
      obtain ⟨l, hl1, hl2⟩ := pick_list len kid
      simp only [ea] at hl2
      exact ⟨some ⟨b, o, none⟩, l, len, cap, rfl, .inr ⟨b, o, rfl, hblk, hl2⟩, hl1.symm, by omega⟩
end
set_option maxRecDepth 100000 in
theorem open_bools {H : Type} {enc : TypeId × Value → H} {W : World} {base b0 : Nat} {r : Reach} {sp : Nat → Bool} {held : Bool} {v : Value} {d : DataW H} {p : List MemPlace} (hval : Value.okWide Try.prog W r b0 33 v) (h : DataW.Trod enc Try.prog W base sp held 33 v d p) :
    ∃ (A : Option Addr) (l : List Bool) (n c : Nat), v = .slice A n c ∧ KsAt W W.heap.size A l ∧ n = l.length ∧ n ≤ maxLen := by
  obtain ⟨a, len, cap, rfl⟩ := okWide_slice Try.underlying33 hval
  obtain ⟨fuel, hf⟩ := h
  simp only [Value.cells] at hf
  exact open_boolsF fuel _ _ hf
set_option maxRecDepth 100000 in
theorem open_fops {H : Type} {enc : TypeId × Value → H} {W : World} {base b0 : Nat} {r : Reach} {sp : Nat → Bool} {held : Bool} {v : Value} {d : DataW H} {p : List MemPlace} (hval : Value.okWide Try.prog W r b0 37 v) (h : DataW.Trod enc Try.prog W base sp held 37 v d p) :
    ∃ (A : Option Addr) (l : List Fop) (n c : Nat), v = .slice A n c ∧ Fops W W.heap.size A l ∧ n = l.length ∧ n ≤ maxLen ∧ ∀ x ∈ l, FitP x := by
  obtain ⟨a, len, cap, rfl⟩ := okWide_slice Try.underlying37 hval
  obtain ⟨fuel, hf⟩ := h
  simp only [Value.cells] at hf
  rcases open_slice_cells Try.underlying37 Try.underlying42 (by kernel_rfl) (by kernel_rfl) hf with hv | ⟨a', len', cap', m, hv, hl, hcap, hm, hfl⟩
  · simp at hv
    obtain ⟨rfl, rfl, rfl⟩ := hv
    exact ⟨none, [], 0, 0, rfl, .inl rfl, rfl, by unfold maxLen; omega, fun x hx => by simp at hx⟩
  · simp at hv
    obtain ⟨rfl, rfl, rfl⟩ := hv
    have hlm : len ≤ m := by rw [hm]; split <;> omega
    by_cases h0 : len = 0
    · exact ⟨some a', [], len, cap, rfl, .inl rfl, by simpa using h0, by omega, fun x hx => by simp at hx⟩
    · obtain ⟨b, o, spot⟩ := a'
      have hspot : spot = none := by
        obtain ⟨n, hfi⟩ := hfl 0 (by omega)
        obtain ⟨v0, y0, c0, t0⟩ := hfi 0 _ rfl
        simpa [Addr.add] using World.cell?_spot c0
      subst hspot
      have ea : ∀ i, (⟨b, o, none⟩ : Addr).add i = ⟨b, o + i, none⟩ := fun i => by unfold Addr.add; split <;> simp_all
      have cellf : ∀ i, i < len → ∃ x : Fop, (FopAt W b (o + i * 7) x ∧ KsAt W W.heap.size x.kA x.ks) ∧ FitP x := by
        intro i hi
        obtain ⟨n, hfi⟩ := hfl i (by omega)
        obtain ⟨v0, y0, c0, t0⟩ := hfi 0 _ rfl
        obtain ⟨v1, y1, c1, t1⟩ := hfi 1 _ rfl
        obtain ⟨v2, y2, c2, t2⟩ := hfi 2 _ rfl
        obtain ⟨v3, y3, c3, t3⟩ := hfi 3 _ rfl
        obtain ⟨v4, y4, c4, t4⟩ := hfi 4 _ rfl
        obtain ⟨v5, y5, c5, t5⟩ := hfi 5 _ rfl
        obtain ⟨v6, y6, c6, t6⟩ := hfi 6 _ rfl
        obtain ⟨k, e0, _, w0⟩ := DataW.trod_int Try.underlying3 t0
        obtain ⟨f, e1, _, w1⟩ := DataW.trod_int Try.underlying3 t1
        obtain ⟨q, e2, _, w2⟩ := DataW.trod_int Try.underlying3 t2
        obtain ⟨z, e3, _, w3⟩ := DataW.trod_int Try.underlying3 t3
        obtain ⟨u, e4, _, w4⟩ := DataW.trod_int Try.underlying5 t4
        obtain ⟨s, e5, _, _⟩ := DataW.trod_string Try.underlying9 t5
        obtain ⟨kA, ks, kn, kc, e6, hks, hkn, hkm⟩ := open_boolsF n v6 y6 t6
        simp at e0 e1 e2 e3 e4 e5
        subst e0 e1 e2 e3 e4 e5 e6 hkn
        rw [ea] at c0 c1 c2 c3 c4 c5 c6
        refine ⟨⟨k, f, q, z, u, s, kA, kc, ks⟩, ⟨⟨?_, ?_, ?_, ?_, ?_, ?_, ?_⟩, hks⟩, wf_i64 w0, wf_i64 w1, wf_i64 w2, wf_i64 w3, (wf_u8 w4).1, (wf_u8 w4).2, hkm⟩
        · exact c0
        · rw [Nat.add_assoc]; exact c1
        · rw [Nat.add_assoc]; exact c2
        · rw [Nat.add_assoc]; exact c3
        · rw [Nat.add_assoc]; exact c4
        · rw [Nat.add_assoc]; exact c5
        · rw [Nat.add_assoc]; exact c6
      obtain ⟨x0, ⟨q0, _⟩, _⟩ := cellf 0 (by omega)
      have hblk : b < W.heap.size := cell_lt3 q0.c0
      obtain ⟨l, hl1, hl2⟩ := pick_list len cellf
      exact ⟨some ⟨b, o, none⟩, l, len, cap, rfl, .inr ⟨b, o, rfl, hblk, fun j x hx => (hl2 j x hx).1⟩, hl1.symm, by omega, fun x hx => by
        obtain ⟨j, hj⟩ := List.mem_iff_getElem?.1 hx
        exact (hl2 j x hj).2⟩
section
variable {H : Type} {enc : TypeId × Value → H} {P : Program} {w : World} {base : Nat} {spare : Nat → Bool} {held : Bool}
theorem open_agg7 {r : Reach} {b0 : Nat} {t : TypeId} {f0 f1 f2 f3 f4 f5 f6 : Field} {v : Value} {d : DataW H} {p : List MemPlace} (hs : P.underlying t = some (.struct #[f0, f1, f2, f3, f4, f5, f6])) (hone : oneCellFields P #[f0, f1, f2, f3, f4, f5, f6] = true) (hC : P.cellsOf t = 7)
    (hv : Value.okWide P w r b0 t v) (h : DataW.Trod enc P w base spare held t v d p) :
    ∃ (v0 v1 v2 v3 v4 v5 v6 : Value) (y0 y1 y2 y3 y4 y5 y6 : DataW H × List MemPlace) (n : Nat), v = .agg #[v0, v1, v2, v3, v4, v5, v6] ∧ d = .agg [y0.1, y1.1, y2.1, y3.1, y4.1, y5.1, y6.1] ∧ p = y0.2 ++ (y1.2 ++ (y2.2 ++ (y3.2 ++ (y4.2 ++ (y5.2 ++ (y6.2)))))) ∧
      DataW.trod enc P w base spare held n f0.type [v0] = some y0 ∧ DataW.trod enc P w base spare held n f1.type [v1] = some y1 ∧ DataW.trod enc P w base spare held n f2.type [v2] = some y2 ∧ DataW.trod enc P w base spare held n f3.type [v3] = some y3 ∧ DataW.trod enc P w base spare held n f4.type [v4] = some y4 ∧ DataW.trod enc P w base spare held n f5.type [v5] = some y5 ∧ DataW.trod enc P w base spare held n f6.type [v6] = some y6 := by
  obtain ⟨cs, rfl, hsz⟩ := okWide_struct hs hv
  obtain ⟨l⟩ := cs
  match l, hsz.trans hC with
  | [c0, c1, c2, c3, c4, c5, c6], _ =>
    obtain ⟨fuel, hf⟩ := h
    obtain ⟨xs, n, _, hx, _, hlen, hg⟩ := DataW.trod_struct hs hf
    obtain ⟨o0, k0⟩ := hone_of hone 0 f0 rfl
    obtain ⟨o1, k1⟩ := hone_of hone 1 f1 rfl
    obtain ⟨o2, k2⟩ := hone_of hone 2 f2 rfl
    obtain ⟨o3, k3⟩ := hone_of hone 3 f3 rfl
    obtain ⟨o4, k4⟩ := hone_of hone 4 f4 rfl
    obtain ⟨o5, k5⟩ := hone_of hone 5 f5 rfl
    obtain ⟨o6, k6⟩ := hone_of hone 6 f6 rfl
    match xs, hlen with
    | [y0, y1, y2, y3, y4, y5, y6], _ =>
      simp only [Prod.mk.injEq] at hx
      exact ⟨c0, c1, c2, c3, c4, c5, c6, y0, y1, y2, y3, y4, y5, y6, n, rfl, by simpa using hx.1, by simpa using hx.2, by simpa [Value.cells, o0, k0] using hg 0 f0 rfl, by simpa [Value.cells, o1, k1] using hg 1 f1 rfl, by simpa [Value.cells, o2, k2] using hg 2 f2 rfl, by simpa [Value.cells, o3, k3] using hg 3 f3 rfl, by simpa [Value.cells, o4, k4] using hg 4 f4 rfl, by simpa [Value.cells, o5, k5] using hg 5 f5 rfl, by simpa [Value.cells, o6, k6] using hg 6 f6 rfl⟩
end
end Go.Proofs.Ytffojihhjiogpaa
