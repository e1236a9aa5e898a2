/- Tokens that come in, as a list. Conditions: those of each lemma. -/
import Derived.Test.YtibnmkjabpoppaaGreatDoorLx31
import Derived.Deep.Slices
import Derived.Deep.Fields
import Derived.ChangeSame
import Derived.Lib.SmallJoins
import Derived.ProofKit
import Derived.OpenShut
import Derived.ShutString
import Derived.ChangeOld
namespace Go.Proofs.YtibnmkjabpoppaaGreatDoor
open Go Go.Joins Go.ChangeShapes Go.WideShapes Go.RowKit Go.Deep
set_option linter.unusedVariables false
section
variable {H : Type} {enc : TypeId × Value → H} {P : Program} {w : World} {base : Nat} {spare : Nat → Bool} {held : Bool}
theorem open_slice_cells {t e : TypeId} {fs : Array Field} {fuel : Nat} {cs : List Value} {x : DataW H × List MemPlace} (ht : P.underlying t = some (.slice e)) (he : P.underlying e = some (.struct fs))
    (hone : oneCellFields P fs = true) (hC : P.cellsOf e = fs.size) (h : DataW.trod enc P w base spare held fuel t cs = some x) :
    (cs = [.slice none 0 0]) ∨
    ∃ (a : Addr) (len cap m : Nat), cs = [.slice (some a) len cap] ∧ len ≤ cap ∧ cap ≤ maxLen ∧ m = (if spare a.block then cap else len) ∧
      ∀ i, i < m → ∃ (n : Nat), ∀ (j : Nat) (f : Field), fs[j]? = some f → ∃ (v : Value) (y : DataW H × List MemPlace), w.cell? (a.add (i * fs.size + j)) = some v ∧ DataW.trod enc P w base spare held n f.type [v] = some y := by
  rcases open_slice ht h with h0 | ⟨a, len, cap, m, n, D, Pl, hcs, hb, hl, hm, hmm, hx, hi⟩
  · exact .inl h0.1
  · refine .inr ⟨a, len, cap, m, hcs, hl, hm, hmm, fun i him => ?_⟩
    obtain ⟨cs', hc, ht'⟩ := hi i him
    rw [hC] at hc
    obtain ⟨ys, n', hn', hy, hlen, hyl, hf⟩ := DataW.trod_struct he ht'
    obtain ⟨_, hcl, hat⟩ := World.cells?_some hc
    refine ⟨n', fun j f hj => ?_⟩
    obtain ⟨ho, hk⟩ := hone_of hone j f hj
    have hjl : j < fs.size := (Array.getElem?_eq_some_iff.1 hj).1
    have hcell := hat j hjl
    have hv : cs'[j]? = some (cs'[j]'(by omega)) := List.getElem?_eq_getElem (by omega)
    have h1 := hf j f hj
    rw [ho, hk] at h1
    have hone' : (cs'.drop j).take 1 = [cs'[j]'(by omega)] := by
      rw [List.drop_eq_getElem_cons (by omega)]
      rfl
    rw [hone'] at h1
    have hys : ys[j]? = some (ys[j]'(by omega)) := List.getElem?_eq_getElem (by omega)
    refine ⟨_, _, ?_, h1.trans hys⟩
    rw [← Go.Deep.add_add, hcell, hv]
end
/-- a token that fits its fields -/
def FitT (t : TI) : Prop := t.2.2.1 < 18446744073709551616
def Toksl (w : World) (B : Nat) (A : Option Addr) (l : List TI) : Prop := TksI w A l
theorem toks_list {w : World} {b o : Nat} (n : Nat) (h : ∀ i, i < n → ∃ (k : Nat) (x : ByteArray) (v : Nat) (p : Int), w.cell? ⟨b, o + i * 4, none⟩ = some (.int .u8 k) ∧ w.cell? ⟨b, o + i * 4 + 1, none⟩ = some (.string x) ∧ w.cell? ⟨b, o + i * 4 + 2, none⟩ = some (.int .u64 v) ∧ w.cell? ⟨b, o + i * 4 + 3, none⟩ = some (.int .i64 p) ∧ v < 18446744073709551616) :
    ∃ l : List TI, l.length = n ∧ (∀ (j k : Nat) (x : ByteArray) (v : Nat) (p : Int), l[j]? = some (k, x, v, p) → w.cell? ⟨b, o + j * 4, none⟩ = some (.int .u8 k) ∧ w.cell? ⟨b, o + j * 4 + 1, none⟩ = some (.string x) ∧ w.cell? ⟨b, o + j * 4 + 2, none⟩ = some (.int .u64 v) ∧ w.cell? ⟨b, o + j * 4 + 3, none⟩ = some (.int .i64 p)) ∧ ∀ x ∈ l, FitT x := by
  induction n with
  | zero => exact ⟨[], rfl, fun j k x v p hx => by simp at hx, fun x hx => by simp at hx⟩
  | succ n ih =>
    obtain ⟨l, hl, hc, hq⟩ := ih (fun i hi => h i (by omega))
    obtain ⟨k0, x0, v0, p0, h1, h2, h3, h4, h5⟩ := h n (by omega)
    refine ⟨l ++ [(k0, x0, v0, p0)], by rw [List.length_append, hl]; rfl, fun j k x v p hx => ?_, fun x hx => ?_⟩
    · by_cases hj : j < l.length
      · rw [List.getElem?_append_left hj] at hx
        exact hc j k x v p hx
      · rw [List.getElem?_append_right (by omega)] at hx
        have hj0 : j - l.length = 0 := by
          by_cases e : j - l.length = 0
          · exact e
          · rw [List.getElem?_eq_none (by simp; omega)] at hx; cases hx
        rw [hj0] at hx
        simp only [List.getElem?_cons_zero, Option.some.injEq, Prod.mk.injEq] at hx
        obtain ⟨rfl, rfl, rfl, rfl⟩ := hx
        obtain rfl : j = n := by omega
        exact ⟨h1, h2, h3, h4⟩
    · rcases List.mem_append.1 hx with hx | hx
      · exact hq x hx
      · rw [List.mem_singleton.1 hx]; exact h5
theorem wf_u8 {x : Int} (h : (Lit.int .u8 x).wf = true) : 0 ≤ x ∧ x < 256 := by
  have h2 : IntKind.u8.min = 0 := rfl
  have h3 : IntKind.u8.max = 255 := rfl
  simp [Lit.wf, h2, h3] at h
  omega
theorem wf_u64 {x : Int} (h : (Lit.int .u64 x).wf = true) : 0 ≤ x ∧ x ≤ 18446744073709551615 := by
  have h2 : IntKind.u64.min = 0 := rfl
  have h3 : IntKind.u64.max = 18446744073709551615 := rfl
  simp [Lit.wf, h2, h3] at h
  omega
set_option maxRecDepth 100000 in
theorem open_toks {H : Type} {enc : TypeId × Value → H} {W : World} {base b0 : Nat} {r : Reach} {sp : Nat → Bool} {held : Bool} {v : Value} {d : DataW H} {p : List MemPlace} (hval : Value.okWide Tryz.prog W r b0 22 v) (h : DataW.Trod enc Tryz.prog W base sp held 22 v d p) :
    ∃ (A : Option Addr) (l : List TI) (n c : Nat), v = .slice A n c ∧ Toksl W W.heap.size A l ∧ n = l.length ∧ n ≤ maxLen ∧ ∀ x ∈ l, FitT x := by
  obtain ⟨a, len, cap, rfl⟩ := okWide_slice Tryz.underlying22 hval
  obtain ⟨fuel, hf⟩ := h
  simp only [Value.cells] at hf
  rcases open_slice_cells Tryz.underlying22 Tryz.underlying34 (by kernel_rfl) (by kernel_rfl) hf with hv | ⟨a', len', cap', m, hv, hl, hcap, hm, hfl⟩
  · simp at hv
    obtain ⟨rfl, rfl, rfl⟩ := hv
    exact ⟨none, [], 0, 0, rfl, .inl rfl, rfl, by unfold maxLen; omega, fun x hx => by simp at hx⟩
  · simp at hv
    obtain ⟨rfl, rfl, rfl⟩ := hv
    have hlm : len ≤ m := by rw [hm]; split <;> omega
    by_cases h0 : len = 0
    · exact ⟨some a', [], len, cap, rfl, .inl rfl, by simpa using h0, by omega, fun x hx => by simp at hx⟩
    · obtain ⟨b, o, spot⟩ := a'
      have cellf : ∀ i, i < len → ∃ (k : Nat) (x : ByteArray) (v : Nat) (p : Int), W.cell? ((⟨b, o, spot⟩ : Addr).add (i * 4)) = some (.int .u8 k) ∧ W.cell? ((⟨b, o, spot⟩ : Addr).add (i * 4 + 1)) = some (.string x) ∧ W.cell? ((⟨b, o, spot⟩ : Addr).add (i * 4 + 2)) = some (.int .u64 v) ∧ W.cell? ((⟨b, o, spot⟩ : Addr).add (i * 4 + 3)) = some (.int .i64 p) ∧ v < 18446744073709551616 := by
        intro i hi
        obtain ⟨n, hfi⟩ := hfl i (by omega)
        obtain ⟨v0, y0, c0, t0⟩ := hfi 0 _ rfl
        obtain ⟨v1, y1, c1, t1⟩ := hfi 1 _ rfl
        obtain ⟨v2, y2, c2, t2⟩ := hfi 2 _ rfl
        obtain ⟨v3, y3, c3, t3⟩ := hfi 3 _ rfl
        obtain ⟨k, e0, _, w0⟩ := DataW.trod_int Tryz.underlying5 t0
        obtain ⟨s, e1, _, _⟩ := DataW.trod_string Tryz.underlying9 t1
        obtain ⟨q, e2, _, w2⟩ := DataW.trod_int Tryz.underlying32 t2
        obtain ⟨u, e3, _, w3⟩ := DataW.trod_int Tryz.underlying3 t3
        simp at e0 e1 e2 e3
        subst e0 e1 e2 e3
        have hk := wf_u8 w0
        have hq := wf_u64 w2
        obtain ⟨k, rfl⟩ := Int.eq_ofNat_of_zero_le hk.1
        obtain ⟨q, rfl⟩ := Int.eq_ofNat_of_zero_le hq.1
        exact ⟨k, s, q, u, c0, c1, c2, c3, by omega⟩
      obtain ⟨k0, x0, v0, p0, q0, _⟩ := cellf 0 (by omega)
      have hspot : spot = none := by simpa [Addr.add] using World.cell?_spot q0
      subst hspot
      have ea : ∀ i, (⟨b, o, none⟩ : Addr).add i = ⟨b, o + i, none⟩ := fun i => by unfold Addr.add; split <;> simp_all
      have hblk : b < W.heap.size := by
        rw [ea] at q0
        rcases Nat.lt_or_ge b W.heap.size with hlt | hge
        · exact hlt
        · simp [World.cell?, Array.getElem?_eq_none hge] at q0
      obtain ⟨l, hl1, hl2, hl3⟩ := toks_list (w := W) (b := b) (o := o) len (fun i hi => by
        obtain ⟨k, x, v, p, c0, c1, c2, c3, hx⟩ := cellf i hi
        rw [ea] at c0 c1 c2 c3
        exact ⟨k, x, v, p, c0, by rw [Nat.add_assoc]; exact c1, by rw [Nat.add_assoc]; exact c2, by rw [Nat.add_assoc]; exact c3, hx⟩)
      exact ⟨some ⟨b, o, none⟩, l, len, cap, rfl, .inr ⟨b, o, rfl, hblk, hl2⟩, hl1.symm, by omega, hl3⟩
end Go.Proofs.YtibnmkjabpoppaaGreatDoor
