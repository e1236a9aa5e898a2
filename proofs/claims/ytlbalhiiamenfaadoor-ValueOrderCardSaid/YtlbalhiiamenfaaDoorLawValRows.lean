/- The walk of ValueRows. Conditions: the numbers fit their kinds; the laid variables hold what they should. -/
import Derived.Test.YtlbalhiiamenfaaDoorVal7W
namespace Go.Proofs.YtlbalhiiamenfaaDoor
open Go.RowKit
set_option linter.unusedVariables false
/-- two rows that stand -/
def R2 (w : World) (A : Option Addr) (la : List Val) (C : Option Addr) (lb : List Val) (W : World) : Prop := Vals W W.heap.size A la ∧ Vals W W.heap.size C lb ∧ Below w.heap.size w W
theorem r2_below {w W W' : World} {A C : Option Addr} {la lb : List Val} (h : R2 w A la C lb W) (hb : Below W.heap.size W W') : R2 w A la C lb W' := ⟨vals_step h.1 hb, vals_step h.2.1 hb, bj h.2.2 hb⟩
theorem r2_call {w W : World} {A C : Option Addr} {la lb : List Val} {f : FuncId} {args : Array Value} {v : Value} (h : R2 w A la C lb W) (hc : Calls Tryd.prog f args W fun e w' => e = .returned v ∧ Below W.heap.size W w') : Calls Tryd.prog f args W fun e w' => e = .returned v ∧ R2 w A la C lb w' :=
  hc.mono fun e w' he => ⟨he.1, r2_below h he.2⟩
set_option maxRecDepth 100000 in
set_option maxHeartbeats 8000000 in
theorem valueRows_walk (A : Option Addr) (la : List Val) (n c : Nat) (C : Option Addr) (lb : List Val) (k d : Nat) (hn : n = la.length) (hm : n ≤ maxLen) (hf : ∀ x ∈ la, Fits x) (hn' : k = lb.length) (hm' : k ≤ maxLen) (hf' : ∀ x ∈ lb, Fits x) (w : World) (hV : Vals w w.heap.size A la) (hV' : Vals w w.heap.size C lb) (hG : Gl w) :
    Calls Tryd.prog 6 #[.slice A n c, .slice C k d] w fun e w' => e = .returned (.bool true) ∧ Below w.heap.size w w' := by
  have HW := Lib.hid (fun W (h : R2 w A la C lb W) => r2_call h (works7 W (gl_below hG h.2.2)))
  have hga := fun W (h : R2 w A la C lb W) => r2_call h (great7 A la n c W h.1 hn hm)
  have hgb := fun W (h : R2 w A la C lb W) => r2_call h (great7 C lb k d W h.2.1 hn' hm')
  have H0 := Lib.hid (show R2 w A la C lb w from ⟨hV, hV', Below.refl _ _⟩)
  clear hG
  cases ga : great7B la
  · rw [ga] at hga
    have HGA := Lib.hid hga
    obtain ⟨l1, s1⟩ := great7_len ga
    cases gb : great7B lb
    · rw [gb] at hgb
      have HGB := Lib.hid hgb
      obtain ⟨l2, s2⟩ := great7_len gb
      have HC := Lib.hid (fun W (h : R2 w A la C lb W) => r2_call h (cmpRows_any A la n c C lb k d W h.1 h.2.1 hn hn' (by omega) (by omega)))
      have HR := Lib.hid (fun W (h : R2 w A la C lb W) => r2_call h (rows_any A la n c C lb k d W h.1 h.2.1 hn hn' (by omega) (by omega) hf s1 hf' s2))
      generalize rowCmp la lb = R at *
      clear hga hgb ga gb l1 s1 l2 s2 hn hm hf hn' hm' hf' hV hV'
      go_enter Tryd.func6, Tryd.ntmps6
      go_wp2_with fail
      refine (HW.out _ H0.out).mono ?_
      rintro e w1 ⟨rfl, h1⟩
      have H1 := Lib.hid h1
      clear h1
      go_wp2_with fail
      refine (HGA.out _ H1.out).mono ?_
      rintro e w2 ⟨rfl, h2⟩
      have H2 := Lib.hid h2
      clear h2
      go_wp2_with fail
      refine (HGB.out _ H2.out).mono ?_
      rintro e w3 ⟨rfl, h3⟩
      have H3 := Lib.hid h3
      clear h3
      go_wp2_with fail
      refine (HC.out _ H3.out).mono ?_
      rintro e w4 ⟨rfl, h4⟩
      have H4 := Lib.hid h4
      clear h4
      go_wp2_with fail
      refine (HR.out _ H4.out).mono ?_
      rintro e w5 ⟨rfl, h5⟩
      have H5 := Lib.hid h5
      clear h5
      go_wp2
      go_ret
      exact ⟨rfl, H5.out.2.2⟩
    · rw [gb] at hgb
      have HGB := Lib.hid hgb
      clear hga hgb ga gb l1 s1 hn hm hf hn' hm' hf' hV hV'
      go_enter Tryd.func6, Tryd.ntmps6
      go_wp2_with fail
      refine (HW.out _ H0.out).mono ?_
      rintro e w1 ⟨rfl, h1⟩
      have H1 := Lib.hid h1
      clear h1
      go_wp2_with fail
      refine (HGA.out _ H1.out).mono ?_
      rintro e w2 ⟨rfl, h2⟩
      have H2 := Lib.hid h2
      clear h2
      go_wp2_with fail
      refine (HGB.out _ H2.out).mono ?_
      rintro e w3 ⟨rfl, h3⟩
      have H3 := Lib.hid h3
      clear h3
      go_wp2
      go_ret
      exact ⟨rfl, H3.out.2.2⟩
  · rw [ga] at hga
    have HGA := Lib.hid hga
    clear hga hgb ga hn hm hf hn' hm' hf' hV hV'
    go_enter Tryd.func6, Tryd.ntmps6
    go_wp2_with fail
    refine (HW.out _ H0.out).mono ?_
    rintro e w1 ⟨rfl, h1⟩
    have H1 := Lib.hid h1
    clear h1
    go_wp2_with fail
    refine (HGA.out _ H1.out).mono ?_
    rintro e w2 ⟨rfl, h2⟩
    have H2 := Lib.hid h2
    clear h2
    go_wp2
    go_ret
    exact ⟨rfl, H2.out.2.2⟩
end Go.Proofs.YtlbalhiiamenfaaDoor
