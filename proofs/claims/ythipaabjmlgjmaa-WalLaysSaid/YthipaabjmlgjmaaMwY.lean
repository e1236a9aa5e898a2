/- Layer 5: the mathematics of WalKnown. Conditions: those of each lemma. -/
import Derived.Test.YthipaabjmlgjmaaMwZ
namespace Go.Proofs.Ythipaabjmlgjmaa
open Go.RowKit Go Go.Maps
set_option linter.unusedVariables false
set_option linter.unusedSimpArgs false
def imsK1 : List Im := [⟨1, pagS 97⟩, ⟨2, pagS 98⟩]
def imsK2 : List Im := [⟨1, pagS 99⟩]
theorem bad_pag {pg : Int} {c : Nat} (h3 : 1 ≤ pg) (h4 : pg ≤ 256) : imBad ⟨pg, pagS c⟩ = false := may_pag (pages := 1) (by omega) (by omega) h3 h4
theorem may_k1 : mayA 2 imsK1 = true := by
  unfold mayA imsK1
  simp only [List.any_cons, List.any_nil, bad_pag (pg := 1) (c := 97) (by omega) (by omega), bad_pag (pg := 2) (c := 98) (by omega) (by omega)]
  rfl
theorem may_k2 : mayA 1 imsK2 = true := by
  unfold mayA imsK2
  simp only [List.any_cons, List.any_nil, bad_pag (pg := 1) (c := 99) (by omega) (by omega)]
  rfl
def fsK1 : List Fx := [⟨1, 0, pagS 97⟩, ⟨2, 2, pagS 98⟩]
def fsK2 : List Fx := [⟨1, 0, pagS 97⟩, ⟨2, 2, pagS 98⟩, ⟨1, 1, pagS 99⟩]
def lK1 : Lg := ⟨0, 2, 2, true, fsK1, wputE 0 (startP 0) fsK1, false, false⟩
def lK2 : Lg := ⟨0, 3, 1, true, fsK2, wputE 0 (wputE 0 (startP 0) fsK1) [⟨1, 1, pagS 99⟩], false, false⟩
def lK3 : Lg := ⟨1, 0, 1, true, [], startP 1, false, false⟩
theorem pg_new : pageD newD newL 1 0 = (pagS 0, 0) := by
  unfold pageD
  rw [if_neg (by decide)]
  rfl
theorem pg_fs {d : Dk} {n mark : Int} {x : ByteArray} (h : ¬ (n < 1 ∨ 256 < n ∨ mark < 0 ∨ 3 < mark)) (hf : frL (fsK2.take mark.toNat) n = some x) : pageD d lK2 n mark = (x, 0) := by
  unfold pageD
  rw [if_neg (show ¬ (n < 1 ∨ 256 < n ∨ mark < 0 ∨ ((lK2.fs.length : Nat) : Int) < mark) from h)]
  have hf' : frL (lK2.fs.take mark.toNat) n = some x := hf
  rw [hf']
theorem pg_bad {d : Dk} {n mark : Int} (h : n < 1 ∨ 256 < n ∨ mark < 0 ∨ 3 < mark) : pageD d lK2 n mark = (⟨#[]⟩, 5) := by
  unfold pageD
  rw [if_pos (show n < 1 ∨ 256 < n ∨ mark < 0 ∨ ((lK2.fs.length : Nat) : Int) < mark from h)]
theorem mk_k1 : mkFs (Int.toNat 2) imsK1 = fsK1 := by
  unfold mkFs imsK1 fsK1
  simp [mkFx]
theorem mk_k2 : mkFs (Int.toNat 1) imsK2 = [⟨1, 1, pagS 99⟩] := by
  unfold mkFs imsK2
  simp [mkFx]
theorem lk1_eq : (⟨newL.N, newL.fs.length + imsK1.length, Int.toNat 2, true, newL.fs ++ fsK1, wputE newL.N newL.e fsK1, false, false⟩ : Lg) = lK1 := by
  have h1 : newL.N = 0 := rfl
  have h2 : newL.e = startP 0 := rfl
  have h3 : newL.fs = [] := rfl
  rw [h1, h2, h3, List.nil_append]
  unfold lK1
  rfl
theorem lk2_eq : (⟨lK1.N, lK1.fs.length + imsK2.length, Int.toNat 1, true, lK1.fs ++ [⟨1, 1, pagS 99⟩], wputE lK1.N lK1.e [⟨1, 1, pagS 99⟩], false, false⟩ : Lg) = lK2 := by
  have h1 : lK1.N = 0 := rfl
  have h2 : lK1.e = wputE 0 (startP 0) fsK1 := by simp only [lK1]
  have h3 : lK1.fs = fsK1 := rfl
  rw [h1, h2, h3]
  unfold lK2
  rfl
theorem known_math : ∃ d1 d2 d3, appD 2 imsK1 newD newL = ((d1, lK1), 0) ∧ d1.ops = 4 ∧ sizeD d1 1 = 19 ∧ appD 1 imsK2 d1 lK1 = ((d2, lK2), 0) ∧ appD 0 imsK2 d2 lK2 = ((d2, lK2), 2) ∧ appD 1 [] d2 lK2 = ((d2, lK2), 2) ∧
    pageD d2 lK2 1 2 = (pagS 97, 0) ∧ pageD d2 lK2 1 3 = (pagS 99, 0) ∧ pageD d2 lK2 2 3 = (pagS 98, 0) ∧ pageD d2 lK2 0 0 = (⟨#[]⟩, 5) ∧ pageD d2 lK2 1 4 = (⟨#[]⟩, 5) ∧
    chkD d2 lK2 = ((d3, lK3), 0) ∧ sizeD d3 0 = 8 ∧ sizeD d3 1 = 28 ∧ d3.loose.length = 0 := by
  obtain ⟨d1, e1, t1, c1, o1, l1, z1, g1⟩ := app_told tolf_new calm_new (fun c hc => (List.not_mem_nil hc).elim) may_k1 (by decide)
  rw [mk_k1, lk1_eq] at e1 t1
  have t1' : Told d1 lK1 := t1
  obtain ⟨d2, e2, t2, c2, o2, l2, z2, g2⟩ := app_told (tolf_of t1') c1 (fun c hc => (List.not_mem_nil (l1 c hc).1).elim) may_k2 (by decide)
  rw [mk_k2, lk2_eq] at e2 t2
  have t2' : Told d2 lK2 := t2
  obtain ⟨d3, e3, t3, c3, l3, f3, z3, g3⟩ := chk_told t2' c2 (fun c hc => (List.not_mem_nil (l1 c (l2 c hc).1).1).elim) (by unfold lK2 fsK2; simp)
  have hz1 : (d1.fl 1).length = 19 := by rw [z1]; rfl
  have hz2 : (d2.fl 1).length = 28 := by rw [z2, hz1]; rfl
  have hF : d3.fl 0 = wrP [] 0 0 (pagS 99) 8 := by
    rw [f3, g2 0 (by omega) (by omega), g1 0 (by omega) (by omega)]
    have h1 : chkF lK2 lK2.P (newD.fl 0) = wrP [] 0 0 (pagS 99) 8 := rfl
    rw [h1, List.take_of_length_le]
    rw [wrP_length, if_neg (by omega)]
    show max 0 (0 + 8) ≤ 1 * 8
    omega
  refine ⟨d1, d2, d3, e1, by rw [o1]; rfl, ?_, e2, rfl, rfl, pg_fs (by decide) rfl, pg_fs (by decide) rfl, pg_fs (by decide) rfl, pg_bad (by decide), pg_bad (by decide), e3, ?_, ?_, ?_⟩
  · show (((d1.fl 1).length : Nat) : Int) = 19
    rw [hz1]; rfl
  · show (((d3.fl 0).length : Nat) : Int) = 8
    rw [hF, wrP_length, if_neg (by omega)]; rfl
  · show (((d3.fl 1).length : Nat) : Int) = 28
    rw [z3, hz2]; rfl
  · cases hl : d3.loose with
    | nil => rfl
    | cons c r =>
      have := l3 c (by rw [hl]; exact .head _)
      exact (List.not_mem_nil (l1 c (l2 c this.1).1).1).elim
end Go.Proofs.Ythipaabjmlgjmaa
