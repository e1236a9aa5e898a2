/- Layer 22: changes that come in, with their strings' sizes. Conditions: those of each lemma. -/
import Derived.Test.YtocbdehcjcggeaaCg1
import Derived.Deep.Slices
import Derived.Deep.Fields
import Derived.ChangeSame
import Derived.Lib.SmallJoins
import Derived.ProofKit
import Derived.OpenShut
import Derived.ShutString
import Derived.ChangeOld
import Derived.SizedLaws
namespace Go.Proofs.Ytocbdehcjcggeaa
open Go Go.Joins Go.ChangeShapes Go.WideShapes Go.RowKit Go.Deep
set_option linter.unusedVariables false
theorem pickC {α : Type} {Q : Nat → α → Prop} (n : Nat) (h : ∀ i, i < n → ∃ x, Q i x) : ∃ l : List α, l.length = n ∧ ∀ (j : Nat) x, l[j]? = some x → Q j x := by
  induction n with
  | zero => exact ⟨[], rfl, fun j x hx => by simp at hx⟩
  | succ n ih =>
    obtain ⟨l, hl, hc⟩ := ih (fun i hi => h i (by omega))
    obtain ⟨y, h1⟩ := h n (by omega)
    refine ⟨l ++ [y], by rw [List.length_append, hl]; rfl, fun j x hx => ?_⟩
    by_cases hj : j < l.length
    · rw [List.getElem?_append_left hj] at hx
      exact hc j x hx
    · rw [List.getElem?_append_right (by omega)] at hx
      have hj0 : j - l.length = 0 := by
        by_cases e : j - l.length = 0
        · exact e
        · rw [List.getElem?_eq_none (by simp; omega)] at hx; cases hx
      rw [hj0] at hx
      simp only [List.getElem?_cons_zero, Option.some.injEq] at hx
      subst hx
      obtain rfl : j = n := by omega
      exact h1
section
variable {H : Type} {enc : TypeId × Value → H} {W : World} {base : Nat} {sp : Nat → Bool} {held : Bool}
theorem wf_u8c {x : Int} (h : (Lit.int .u8 x).wf = true) : 0 ≤ x ∧ x < 256 := by
  have h2 : IntKind.u8.min = 0 := rfl
  have h3 : IntKind.u8.max = 255 := rfl
  simp [Lit.wf, h2, h3] at h
  omega
theorem wf_i64c {x : Int} (h : (Lit.int .i64 x).wf = true) : -9223372036854775808 ≤ x ∧ x ≤ 9223372036854775807 := by
  have h2 : IntKind.i64.min = -9223372036854775808 := rfl
  have h3 : IntKind.i64.max = 9223372036854775807 := rfl
  simp [Lit.wf, h2, h3] at h
  omega
theorem cell_ltC {w : World} {b o : Nat} {v : Value} (h : w.cell? ⟨b, o, none⟩ = some v) : b < w.heap.size := by
  rcases Nat.lt_or_ge b w.heap.size with hlt | hge
  · exact hlt
  · simp [World.cell?, Array.getElem?_eq_none hge] at h
theorem all_memC {P : Program} {e : TypeId} {m : Nat} : ∀ {l : List (DataW H)} {d : DataW H}, d ∈ l → m ∈ DataW.weights P e d → m ∈ DataW.weightsAll P e l
  | a :: l, d, hd, hm => by
    rw [DataW.weightsAll]
    rcases List.mem_cons.1 hd with rfl | hd
    · exact List.mem_append_left _ hm
    · exact List.mem_append_right _ (all_memC hd hm)
theorem w_sliceC {P : Program} {t e : TypeId} (ht : P.underlying t = some (.slice e)) {es rs : List (DataW H)} {d : DataW H} (hd : d ∈ es) {q : Nat} (hq : q ∈ DataW.weights P e d) : q ∈ DataW.weights P t (.slice es rs) := by
  rw [DataW.weights, ht]
  exact List.mem_cons_of_mem _ (List.mem_append_left _ (all_memC hd hq))
set_option maxRecDepth 100000 in
theorem open_valS (fuel : Nat) (cs : List Value) (x : DataW H × List MemPlace) (h : DataW.trod enc Try.prog W base sp held fuel 56 cs = some x) (hw : ∀ q ∈ DataW.weights Try.prog 56 x.1, q ≤ reachBytes) :
    ∃ y : Val, cs = [.int .u8 y.1, .int .i64 y.2.1, .string y.2.2] ∧ FitsS y := by
  obtain ⟨us, n1, rfl, rfl, hcl, hul, hg⟩ := DataW.trod_struct Try.underlying56 h
  rw [show Try.prog.cellsOf 56 = 3 by kernel_rfl] at hcl
  match cs, hcl with
  | [c0, c1, c2], _ =>
    match us, hul with
    | [u0, u1, u2], _ =>
      have q0 : Try.prog.cellsOf 5 = 1 := by kernel_rfl
      have q2 : Try.prog.cellsOf 9 = 1 := by kernel_rfl
      have q5 : Try.prog.cellsOf 2 = 1 := by kernel_rfl
      have s0 := hg 0 _ rfl
      have s1 := hg 1 _ rfl
      have s2 := hg 2 _ rfl
      simp [q0, q2, q5] at s0 s1 s2
      obtain ⟨vk, f0, _, x0⟩ := DataW.trod_int Try.underlying5 s0
      obtain ⟨vn, f1, _, x1⟩ := DataW.trod_int Try.underlying2 s1
      obtain ⟨vs, f2, gu2, _⟩ := DataW.trod_string Try.underlying9 s2
      simp only [List.cons.injEq, and_true] at f0 f1 f2
      subst f0 f1 f2
      have hvs : vs.size ≤ 140737488351232 := by
        have h1 := hw vs.data.toList.length (by
          show _ ∈ DataW.weights Try.prog 56 (.agg [u0.1, u1.1, u2.1])
          rw [DataW.weights, Try.underlying56]
          exact DataW.weights_mem_each (ts := [5, 2, 9]) (j := 2) (t := 9) rfl rfl _ (by rw [gu2]; simp [DataW.weights]))
        simpa [reachBytes] using h1
      exact ⟨(vk, vn, vs), rfl, ⟨(wf_u8c x0).1, (wf_u8c x0).2, (wf_i64c x1).1, (wf_i64c x1).2⟩, hvs⟩
set_option maxRecDepth 100000 in
theorem open_rowS (fuel : Nat) (v : Value) (x : DataW H × List MemPlace) (h : DataW.trod enc Try.prog W base sp held fuel 31 [v] = some x) (hw : ∀ q ∈ DataW.weights Try.prog 31 x.1, q ≤ reachBytes) :
    ∃ (A : Option Addr) (l : List Val) (c : Nat), v = .slice A l.length c ∧ Vals W W.heap.size A l ∧ l.length ≤ maxLen ∧ ∀ y ∈ l, FitsS y := by
  rcases DataW.trod_slice Try.underlying31 h with ⟨hc, _⟩ | ⟨a, len, cap, elems, rest, n2, hn2, hc, hy5, _, hlc, hcm, hel, hat, _, _⟩
  · injection hc with hc _
    subst hc
    exact ⟨none, [], 0, rfl, .inl rfl, Nat.zero_le _, fun y hy => by cases hy⟩
  · injection hc with hc _
    subst hc
    rw [hy5] at hw
    have hw' : ∀ q ∈ DataW.weights Try.prog 31 (.slice (elems.map (·.1)) (rest.map (·.1))), q ≤ reachBytes := hw
    clear hw
    rw [show Try.prog.cellsOf 56 = 3 by kernel_rfl] at hat
    by_cases h0 : len = 0
    · subst h0
      exact ⟨some a, [], cap, rfl, .inl rfl, Nat.zero_le _, fun y hy => by cases hy⟩
    · have kid : ∀ i, i < len → ∃ y : Val, (W.cell? (a.add (i * 3)) = some (.int .u8 y.1) ∧ W.cell? (a.add (i * 3 + 1)) = some (.int .i64 y.2.1) ∧ W.cell? (a.add (i * 3 + 2)) = some (.string y.2.2)) ∧ FitsS y := by
        intro i hi
        have hi2 := hat i hi
        have he : elems[i]? = some (elems[i]'(by omega)) := List.getElem?_eq_getElem (by omega)
        rw [he] at hi2
        obtain ⟨cs', hcs, htr⟩ := Option.bind_eq_some_iff.1 hi2
        have hmem : (elems[i]'(by omega)).1 ∈ elems.map (·.1) := List.mem_map_of_mem (List.getElem_mem _)
        obtain ⟨y, hy, hv⟩ := open_valS n2 cs' _ htr (fun q hq => hw' q (w_sliceC Try.underlying31 hmem hq))
        obtain ⟨_, hcl', hcell⟩ := World.cells?_some hcs
        subst hy
        have k0 := hcell 0 (by decide)
        have k1 := hcell 1 (by decide)
        have k2 := hcell 2 (by decide)
        rw [Go.Deep.add_add] at k0 k1 k2
        exact ⟨y, ⟨k0, k1, k2⟩, hv⟩
      obtain ⟨b, o, spot⟩ := a
      obtain ⟨x0', hx0, _⟩ := kid 0 (by omega)
      have hspot : spot = none := by simpa [Addr.add] using World.cell?_spot hx0.1
      subst hspot
      have ea : ∀ i, (⟨b, o, none⟩ : Addr).add i = ⟨b, o + i, none⟩ := fun i => by unfold Addr.add; split <;> simp_all
      have hblk : b < W.heap.size := by
        have q := hx0.1
        rw [ea] at q
        exact cell_ltC q
      obtain ⟨l, hl1, hl2⟩ := pickC len kid
      simp only [ea, ← Nat.add_assoc] at hl2
      exact ⟨some ⟨b, o, none⟩, l, cap, by rw [hl1], .inr ⟨b, o, rfl, hblk, fun j y hj => (hl2 j y hj).1⟩, by omega, fun y hy => by
        obtain ⟨j, hj⟩ := List.mem_iff_getElem?.1 hy
        exact (hl2 j y hj).2⟩
set_option maxRecDepth 100000 in
theorem open_cgS (fuel : Nat) (cs : List Value) (x : DataW H × List MemPlace) (h : DataW.trod enc Try.prog W base sp held fuel 33 cs = some x) (hw : ∀ q ∈ DataW.weights Try.prog 33 x.1, q ≤ reachBytes) :
    ∃ y : Cg, cs = (cgC y).toList ∧ CgIn W W.heap.size y ∧ FitC y := by
  obtain ⟨us, n1, rfl, rfl, hcl, hul, hg⟩ := DataW.trod_struct Try.underlying33 h
  rw [show Try.prog.cellsOf 33 = 4 by kernel_rfl] at hcl
  match cs, hcl with
  | [c0, c1, c2, c3], _ =>
    match us, hul with
    | [u0, u1, u2, u3], _ =>
      have q0 : Try.prog.cellsOf 9 = 1 := by kernel_rfl
      have q1 : Try.prog.cellsOf 31 = 1 := by kernel_rfl
      have s0 := hg 0 _ rfl
      have s1 := hg 1 _ rfl
      have s2 := hg 2 _ rfl
      have s3 := hg 3 _ rfl
      simp [q0, q1] at s0 s1 s2 s3
      have hwe : ∀ (j : Nat) (t : TypeId) (d : DataW H), ([9, 31, 31, 31] : List TypeId)[j]? = some t → ([u0.1, u1.1, u2.1, u3.1] : List (DataW H))[j]? = some d → ∀ q ∈ DataW.weights Try.prog t d, q ≤ reachBytes := fun j t d hj hd q hq => hw q (by
        show _ ∈ DataW.weights Try.prog 33 (.agg [u0.1, u1.1, u2.1, u3.1])
        rw [DataW.weights, Try.underlying33]
        exact DataW.weights_mem_each (ts := [9, 31, 31, 31]) (j := j) (t := t) hj hd _ hq)
      obtain ⟨vs, f0, gu0, _⟩ := DataW.trod_string Try.underlying9 s0
      obtain ⟨kA, k, kc, f1, g1, h1, m1⟩ := open_rowS n1 c1 u1 s1 (hwe 1 _ _ rfl rfl)
      obtain ⟨oA, o, oc, f2, g2, h2, m2⟩ := open_rowS n1 c2 u2 s2 (hwe 2 _ _ rfl rfl)
      obtain ⟨nA, n, nc, f3, g3, h3, m3⟩ := open_rowS n1 c3 u3 s3 (hwe 3 _ _ rfl rfl)
      simp only [List.cons.injEq, and_true] at f0
      subst f0 f1 f2 f3
      have hvs : vs.size ≤ 140737488351232 := by
        have h1 := hwe 0 _ _ rfl rfl vs.data.toList.length (by rw [gu0]; simp [DataW.weights])
        simpa [reachBytes] using h1
      exact ⟨⟨vs, kA, kc, k, oA, oc, o, nA, nc, n⟩, rfl, ⟨g1, g2, g3⟩, hvs, h1, h2, h3, m1, m2, m3⟩
set_option maxRecDepth 100000 in
theorem open_cgsC (fuel : Nat) (v : Value) (x : DataW H × List MemPlace) (h : DataW.trod enc Try.prog W base sp held fuel 28 [v] = some x) (hw : ∀ q ∈ DataW.weights Try.prog 28 x.1, q ≤ reachBytes) :
    ∃ (A : Option Addr) (l : List Cg) (n c : Nat), v = .slice A n c ∧ Cgs W W.heap.size A l ∧ n = l.length ∧ n ≤ maxLen ∧ (∀ y ∈ l, FitC y) ∧ n ≤ c := by
  rcases DataW.trod_slice Try.underlying28 h with ⟨hc, _⟩ | ⟨a, len, cap, elems, rest, n2, hn2, hc, hy5, _, hlc, hcm, hel, hat, _, _⟩
  · injection hc with hc _
    subst hc
    exact ⟨none, [], 0, 0, rfl, .inl rfl, rfl, Nat.zero_le _, (fun y hy => by cases hy), Nat.le_refl _⟩
  · injection hc with hc _
    subst hc
    rw [hy5] at hw
    have hw' : ∀ q ∈ DataW.weights Try.prog 28 (.slice (elems.map (·.1)) (rest.map (·.1))), q ≤ reachBytes := hw
    clear hw
    rw [show Try.prog.cellsOf 33 = 4 by kernel_rfl] at hat
    by_cases h0 : len = 0
    · subst h0
      exact ⟨some a, [], 0, cap, rfl, .inl rfl, rfl, Nat.zero_le _, (fun y hy => by cases hy), Nat.zero_le _⟩
    · have kid : ∀ i, i < len → ∃ y : Cg, (W.cell? (a.add (i * 4)) = some (.string y.t) ∧ W.cell? (a.add (i * 4 + 1)) = some (.slice y.kA y.k.length y.kc) ∧ W.cell? (a.add (i * 4 + 2)) = some (.slice y.oA y.o.length y.oc) ∧ W.cell? (a.add (i * 4 + 3)) = some (.slice y.nA y.n.length y.nc)) ∧ CgIn W W.heap.size y ∧ FitC y := by
        intro i hi
        have hi2 := hat i hi
        have he : elems[i]? = some (elems[i]'(by omega)) := List.getElem?_eq_getElem (by omega)
        rw [he] at hi2
        obtain ⟨cs', hcs, htr⟩ := Option.bind_eq_some_iff.1 hi2
        have hmem : (elems[i]'(by omega)).1 ∈ elems.map (·.1) := List.mem_map_of_mem (List.getElem_mem _)
        obtain ⟨y, hy, hv⟩ := open_cgS n2 cs' _ htr (fun q hq => hw' q (w_sliceC Try.underlying28 hmem hq))
        obtain ⟨_, hcl', hcell⟩ := World.cells?_some hcs
        subst hy
        have k0 := hcell 0 (by decide)
        have k1 := hcell 1 (by decide)
        have k2 := hcell 2 (by decide)
        have k3 := hcell 3 (by decide)
        rw [Go.Deep.add_add] at k0 k1 k2 k3
        exact ⟨y, ⟨k0, k1, k2, k3⟩, hv⟩
      obtain ⟨b, o, spot⟩ := a
      obtain ⟨x0', hx0, _⟩ := kid 0 (by omega)
      have hspot : spot = none := by simpa [Addr.add] using World.cell?_spot hx0.1
      subst hspot
      have ea : ∀ i, (⟨b, o, none⟩ : Addr).add i = ⟨b, o + i, none⟩ := fun i => by unfold Addr.add; split <;> simp_all
      have hblk : b < W.heap.size := by
        have q := hx0.1
        rw [ea] at q
        exact cell_ltC q
      obtain ⟨l, hl1, hl2⟩ := pickC len kid
      simp only [ea, ← Nat.add_assoc] at hl2
      exact ⟨some ⟨b, o, none⟩, l, len, cap, rfl, .inr ⟨b, o, rfl, hblk, fun j y hj => ⟨⟨(hl2 j y hj).1.1, (hl2 j y hj).1.2.1, (hl2 j y hj).1.2.2.1, (hl2 j y hj).1.2.2.2⟩, (hl2 j y hj).2.1⟩⟩, hl1.symm, by omega, (fun y hy => by
        obtain ⟨j, hj⟩ := List.mem_iff_getElem?.1 hy
        exact (hl2 j y hj).2.2), by omega⟩
theorem open_cgsF (fuel : Nat) (v : Value) (x : DataW H × List MemPlace) (h : DataW.trod enc Try.prog W base sp held fuel 28 [v] = some x) (hw : ∀ q ∈ DataW.weights Try.prog 28 x.1, q ≤ reachBytes) :
    ∃ (A : Option Addr) (l : List Cg) (n c : Nat), v = .slice A n c ∧ Cgs W W.heap.size A l ∧ n = l.length ∧ n ≤ maxLen ∧ ∀ y ∈ l, FitC y := by
  obtain ⟨A, l, n, c, h1, h2, h3, h4, h5, _⟩ := open_cgsC fuel v x h hw
  exact ⟨A, l, n, c, h1, h2, h3, h4, h5⟩
end
end Go.Proofs.Ytocbdehcjcggeaa
