/- Layer 22: mayBe. Conditions: those of each lemma. -/
import Derived.Test.YtocbdehcjcggeaaCg6
namespace Go.Proofs.Ytocbdehcjcggeaa
open Go.RowKit Go
set_option linter.unusedVariables false
set_option linter.unusedSimpArgs false
/-- a changeset may have the change -/
def mayC (x : Cg) : Bool := decide (x.t.size ≠ 0) && (decide (x.t.size ≤ 32) && (decide (0 < x.k.length) && (decide (0 < sizeZ x.k) && (rowMay x.o && (rowMay x.n && !decide (x.o = x.n))))))
/-- one change, boxed -/
def Cb (w : World) (x : Array Value) (W : World) : Prop := Blk W w.heap.size 33 x ∧ Below w.heap.size w W
theorem cb_step {w W W' : World} {x : Array Value} (h : Cb w x W) (hb : Below W.heap.size W W') : Cb w x W' := ⟨blk_step h.1 hb, bj h.2 hb⟩
theorem cb_drew1 {w W : World} {x : Array Value} (h : Cb w x W) : Cb w x W.drew := cb_step h (Below.refl _ _).drew
theorem cb_drew {w W : World} {x : Array Value} {n : Nat} (h : Cb w x W) : Cb w x (W.drewN n) := cb_step h (below_drewN (Below.refl _ _) n)
theorem cb_cells {w W : World} {x : Cg} (h : Cb w (cgC x) W) : W.cell? ⟨w.heap.size, 0, none⟩ = some (.string x.t) ∧ W.cell? ⟨w.heap.size, 1, none⟩ = some (.slice x.kA x.k.length x.kc) ∧ W.cell? ⟨w.heap.size, 2, none⟩ = some (.slice x.oA x.o.length x.oc) ∧ W.cell? ⟨w.heap.size, 3, none⟩ = some (.slice x.nA x.n.length x.nc) := ⟨h.1.cell 0, h.1.cell 1, h.1.cell 2, h.1.cell 3⟩
set_option maxRecDepth 100000 in
set_option maxHeartbeats 8000000 in
theorem mayBe_any (x : Cg) (w : World) (hI : CgIn w w.heap.size x) (hf : FitC x) :
    Calls Try.prog 39 #[.agg (cgC x)] w fun e w' => e = .returned (.bool (mayC x)) ∧ Below w.heap.size w w' := by
  have HSZ := Lib.hid (show ∀ W, Cb w (cgC x) W → Calls Try.prog 63 #[.slice x.kA x.k.length x.kc] W fun e w' => e = .returned (.int .i64 (sizeZ x.k)) ∧ Cb w (cgC x) w' from fun W h =>
    (size_row x.kA x.k x.k.length x.kc W (vals_mono (vals_below hI.1 h.2) h.2.size) rfl (fun y hy => (hf.2.2.2.2.1 y hy).1)).mono fun e w' he => ⟨he.1, cb_step h he.2⟩)
  have HRO := Lib.hid (show ∀ W, Cb w (cgC x) W → Calls Try.prog 64 #[.slice x.oA x.o.length x.oc] W fun e w' => e = .returned (.bool (rowMay x.o)) ∧ Cb w (cgC x) w' from fun W h =>
    (rowMay_any x.oA x.o x.o.length x.oc W (vals_mono (vals_below hI.2.1 h.2) h.2.size) rfl (fun y hy => (hf.2.2.2.2.2.1 y hy).1)).mono fun e w' he => ⟨he.1, cb_step h he.2⟩)
  have HRN := Lib.hid (show ∀ W, Cb w (cgC x) W → Calls Try.prog 64 #[.slice x.nA x.n.length x.nc] W fun e w' => e = .returned (.bool (rowMay x.n)) ∧ Cb w (cgC x) w' from fun W h =>
    (rowMay_any x.nA x.n x.n.length x.nc W (vals_mono (vals_below hI.2.2 h.2) h.2.size) rfl (fun y hy => (hf.2.2.2.2.2.2 y hy).1)).mono fun e w' he => ⟨he.1, cb_step h he.2⟩)
  have HEQ := Lib.hid (show ∀ W, Cb w (cgC x) W → Calls Try.prog 30 #[.slice x.oA x.o.length x.oc, .slice x.nA x.n.length x.nc] W fun e w' => e = .returned (.bool (decide (x.o = x.n))) ∧ Cb w (cgC x) w' from fun W h =>
    (rowEq_any x.oA x.nA x.o x.n x.o.length x.n.length x.oc x.nc W (vals_mono (vals_below hI.2.1 h.2) h.2.size) (vals_mono (vals_below hI.2.2 h.2) h.2.size) rfl rfl hf.2.2.1).mono fun e w' he => ⟨he.1, cb_step h he.2⟩)
  have HX := Lib.hid (show Cb w (cgC x) (w.alloc (.cells (cgC x) 33)) from ⟨Blk.new w _ _, one_allocC⟩)
  clear hI hf
  obtain ⟨r, hr⟩ : ∃ r, mayC x = r := ⟨_, rfl⟩
  rw [hr]
  unfold mayC at hr
  generalize sizeZ x.k = z at *
  generalize rowMay x.o = bo at *
  generalize rowMay x.n = bn at *
  generalize decide (x.o = x.n) = be at *
  by_cases h1 : x.t.size = 0
  · have h1l : x.t.toList = [] := by rw [empty_of h1, ByteArray.toList_eq]; rfl
    have hr : r = false := by rw [← hr]; simp [h1]
    subst hr
    go_enter Try.func39, Try.ntmps39
    go_wp2_with fail
    go_ret
    exact ⟨rfl, HX.out.2⟩
  · have h1l := str_no h1
    by_cases h2 : x.t.size ≤ 32
    · have h2I : (x.t.size : Int) ≤ 32 := by omega
      by_cases h3 : 0 < x.k.length
      · have h3I : (0 : Int) < x.k.length := by omega
        simp only [h1, h2, h3, ne_eq, not_false_eq_true, decide_true, Bool.true_and] at hr
        by_cases h4 : 0 < z
        · simp only [h4, decide_true, Bool.true_and] at hr
          cases bo
          · simp only [Bool.false_and] at hr
            subst hr
            go_enter Try.func39, Try.ntmps39
            go_wp2_with fail
            refine (HSZ.out _ HX.out).mono ?_
            rintro e w1 ⟨rfl, hs⟩
            obtain ⟨p0, p1, p2, p3⟩ := cb_cells hs
            go_wp2_with fail
            refine (HRO.out _ hs).mono ?_
            clear p0 p1 p2 p3 hs
            rintro e w2 ⟨rfl, hs⟩
            obtain ⟨p0, p1, p2, p3⟩ := cb_cells hs
            go_wp2_with fail
            go_ret
            exact ⟨rfl, hs.2⟩
          · simp only [Bool.true_and] at hr
            cases bn
            · simp only [Bool.false_and] at hr
              subst hr
              go_enter Try.func39, Try.ntmps39
              go_wp2_with fail
              refine (HSZ.out _ HX.out).mono ?_
              rintro e w1 ⟨rfl, hs⟩
              obtain ⟨p0, p1, p2, p3⟩ := cb_cells hs
              go_wp2_with fail
              refine (HRO.out _ hs).mono ?_
              clear p0 p1 p2 p3 hs
              rintro e w2 ⟨rfl, hs⟩
              obtain ⟨p0, p1, p2, p3⟩ := cb_cells hs
              go_wp2_with fail
              refine (HRN.out _ hs).mono ?_
              clear p0 p1 p2 p3 hs
              rintro e w2 ⟨rfl, hs⟩
              obtain ⟨p0, p1, p2, p3⟩ := cb_cells hs
              go_wp2_with fail
              go_ret
              exact ⟨rfl, hs.2⟩
            · simp only [Bool.true_and] at hr
              subst hr
              go_enter Try.func39, Try.ntmps39
              go_wp2_with fail
              refine (HSZ.out _ HX.out).mono ?_
              rintro e w1 ⟨rfl, hs⟩
              obtain ⟨p0, p1, p2, p3⟩ := cb_cells hs
              go_wp2_with fail
              refine (HRO.out _ hs).mono ?_
              clear p0 p1 p2 p3 hs
              rintro e w2 ⟨rfl, hs⟩
              obtain ⟨p0, p1, p2, p3⟩ := cb_cells hs
              go_wp2_with fail
              refine (HRN.out _ hs).mono ?_
              clear p0 p1 p2 p3 hs
              rintro e w2 ⟨rfl, hs⟩
              obtain ⟨p0, p1, p2, p3⟩ := cb_cells hs
              go_wp2_with fail
              refine (HEQ.out _ hs).mono ?_
              clear p0 p1 p2 p3 hs
              rintro e w2 ⟨rfl, hs⟩
              obtain ⟨p0, p1, p2, p3⟩ := cb_cells hs
              go_wp2_with fail
              go_ret
              exact ⟨by simp [h1l], hs.2⟩
        · have h4d : decide (0 < z) = false := decide_eq_false h4
          simp only [h4d, Bool.false_and] at hr
          subst hr
          go_enter Try.func39, Try.ntmps39
          go_wp2_with fail
          refine (HSZ.out _ HX.out).mono ?_
          rintro e w1 ⟨rfl, hs⟩
          obtain ⟨p0, p1, p2, p3⟩ := cb_cells hs
          go_wp2_with fail
          go_ret
          exact ⟨rfl, hs.2⟩
      · have h3I : ¬ (0 : Int) < x.k.length := by omega
        have h30 : x.k.length = 0 := by omega
        have hr : r = false := by rw [← hr]; simp [h3]
        subst hr
        go_enter Try.func39, Try.ntmps39
        go_wp2_with fail
        go_ret
        exact ⟨rfl, HX.out.2⟩
    · have h2I : ¬ (x.t.size : Int) ≤ 32 := by omega
      have hr : r = false := by rw [← hr]; simp [h2]
      subst hr
      go_enter Try.func39, Try.ntmps39
      go_wp2_with fail
      go_ret
      exact ⟨rfl, HX.out.2⟩
end Go.Proofs.Ytocbdehcjcggeaa
