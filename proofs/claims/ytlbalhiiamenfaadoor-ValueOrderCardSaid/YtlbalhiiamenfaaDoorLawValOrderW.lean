/- The walk of ValueOrder, around its main way. Conditions: the numbers fit their kinds; the laid variables hold what they should. -/
import Derived.Test.YtlbalhiiamenfaaDoorLawValOrder
namespace Go.Proofs.YtlbalhiiamenfaaDoor
open Go.RowKit
set_option linter.unusedVariables false
set_option maxRecDepth 100000 in
set_option maxHeartbeats 8000000 in
theorem valueOrder_walk (A : Option Addr) (la : List Val) (n c : Nat) (B : Option Addr) (lb : List Val) (k d : Nat) (C : Option Addr) (lc : List Val) (r u : Nat) (hn : n = la.length) (hm : n ≤ maxLen) (hf : ∀ x ∈ la, Fits x) (hn' : k = lb.length) (hm' : k ≤ maxLen) (hf' : ∀ x ∈ lb, Fits x) (hn'' : r = lc.length) (hm'' : r ≤ maxLen) (hf'' : ∀ x ∈ lc, Fits x) (w : World) (hV : Vals w w.heap.size A la) (hV' : Vals w w.heap.size B lb) (hV'' : Vals w w.heap.size C lc) (hG : Gl w) :
    Calls Tryd.prog 8 #[.slice A n c, .slice B k d, .slice C r u] w fun e w' => e = .returned (.bool true) ∧ Below w.heap.size w w' := by
  have HW := Lib.hid (fun W (h : R3 w A la B lb C lc W) => r3_call h (works7 W (gl_below hG h.2.2.2)))
  have hga := fun W (h : R3 w A la B lb C lc W) => r3_call h (great7 A la n c W h.1 hn hm)
  have hgb := fun W (h : R3 w A la B lb C lc W) => r3_call h (great7 B lb k d W h.2.1 hn' hm')
  have hgc := fun W (h : R3 w A la B lb C lc W) => r3_call h (great7 C lc r u W h.2.2.1 hn'' hm'')
  have H0 := Lib.hid (show R3 w A la B lb C lc w from ⟨hV, hV', hV'', Below.refl _ _⟩)
  clear hG
  cases ga : great7B la
  · rw [ga] at hga
    have HGA := Lib.hid hga
    obtain ⟨l1, s1⟩ := great7_len ga
    cases gb : great7B lb
    · rw [gb] at hgb
      have HGB := Lib.hid hgb
      obtain ⟨l2, s2⟩ := great7_len gb
      cases gc : great7B lc
      · rw [gc] at hgc
        have HGC := Lib.hid hgc
        obtain ⟨l3, s3⟩ := great7_len gc
        have HAB := Lib.hid (fun W (h : R3 w A la B lb C lc W) => r3_call h (cmpRows_any A la n c B lb k d W h.1 h.2.1 hn hn' (by omega) (by omega)))
        have HBC := Lib.hid (fun W (h : R3 w A la B lb C lc W) => r3_call h (cmpRows_any B lb k d C lc r u W h.2.1 h.2.2.1 hn' hn'' (by omega) (by omega)))
        have HAC := Lib.hid (fun W (h : R3 w A la B lb C lc W) => r3_call h (cmpRows_any A la n c C lc r u W h.1 h.2.2.1 hn hn'' (by omega) (by omega)))
        have hba := fun W (h : R3 w A la B lb C lc W) => r3_call h (cmpRows_any B lb k d A la n c W h.2.1 h.1 hn' hn (by omega) (by omega))
        have haa := fun W (h : R3 w A la B lb C lc W) => r3_call h (cmpRows_any A la n c A la n c W h.1 h.1 hn hn (by omega) (by omega))
        rw [good_row.anti la lb] at hba
        rw [good_row.self la] at haa
        exact valueOrder_main A la n c B lb k d C lc r u (rowCmp la lb) (rowCmp lb lc) (rowCmp la lc) w hn hn' (by omega) (by omega) hf hf' hV hV'
          (by rcases good_row.range la lb with h | h | h <;> rw [h] <;> decide) (good_row.trans la lb lc)
          (fun e => ⟨by have h := (row_zero la lb e).1; omega, (row_zero la lb e).2⟩)
          H0 HW HGA HGB HGC HAB HBC HAC (Lib.hid hba) (Lib.hid haa)
      · rw [gc] at hgc
        have HGC := Lib.hid hgc
        clear hga hgb hgc ga gb gc l1 s1 l2 s2 hn hm hf hn' hm' hf' hn'' hm'' hf'' hV hV' hV''
        go_enter Tryd.func8, Tryd.ntmps8
        go_wp2_with fail
        refine (HW.out _ H0.out).mono ?_
        rintro e w1 ⟨rfl, h1⟩
        have H1 := Lib.hid h1
        clear h1
        go_wp2_with fail
        refine (HGA.out _ H1.out).mono ?_
        rintro e w2 ⟨rfl, h2⟩
        have H2 := Lib.hid h2
        clear h2
        go_wp2_with fail
        refine (HGB.out _ H2.out).mono ?_
        rintro e w3 ⟨rfl, h3⟩
        have H3 := Lib.hid h3
        clear h3
        go_wp2_with fail
        refine (HGC.out _ H3.out).mono ?_
        rintro e w4 ⟨rfl, h4⟩
        have H4 := Lib.hid h4
        clear h4
        go_wp2
        go_ret
        exact ⟨rfl, H4.out.2.2.2⟩
    · rw [gb] at hgb
      have HGB := Lib.hid hgb
      clear hga hgb hgc ga gb l1 s1 hn hm hf hn' hm' hf' hn'' hm'' hf'' hV hV' hV''
      go_enter Tryd.func8, Tryd.ntmps8
      go_wp2_with fail
      refine (HW.out _ H0.out).mono ?_
      rintro e w1 ⟨rfl, h1⟩
      have H1 := Lib.hid h1
      clear h1
      go_wp2_with fail
      refine (HGA.out _ H1.out).mono ?_
      rintro e w2 ⟨rfl, h2⟩
      have H2 := Lib.hid h2
      clear h2
      go_wp2_with fail
      refine (HGB.out _ H2.out).mono ?_
      rintro e w3 ⟨rfl, h3⟩
      have H3 := Lib.hid h3
      clear h3
      go_wp2
      go_ret
      exact ⟨rfl, H3.out.2.2.2⟩
  · rw [ga] at hga
    have HGA := Lib.hid hga
    clear hga hgb hgc ga hn hm hf hn' hm' hf' hn'' hm'' hf'' hV hV' hV''
    go_enter Tryd.func8, Tryd.ntmps8
    go_wp2_with fail
    refine (HW.out _ H0.out).mono ?_
    rintro e w1 ⟨rfl, h1⟩
    have H1 := Lib.hid h1
    clear h1
    go_wp2_with fail
    refine (HGA.out _ H1.out).mono ?_
    rintro e w2 ⟨rfl, h2⟩
    have H2 := Lib.hid h2
    clear h2
    go_wp2
    go_ret
    exact ⟨rfl, H2.out.2.2.2⟩
end Go.Proofs.YtlbalhiiamenfaaDoor
