/- Layer 22: slices.Equal of rows. Conditions: those of each lemma. -/
import Derived.Test.YtocbdehcjcggeaaCg2
import Derived.Deep.QuietTactic
import Derived.BigQuiet
namespace Go.Proofs.Ytocbdehcjcggeaa
open Go.RowKit Go
set_option linter.unusedVariables false
set_option linter.unusedSimpArgs false
theorem take_eq_snoc {α : Type} {a b : List α} {j : Nat} (ha : j < a.length) (hb : j < b.length) (h : a.take j = b.take j) (he : a[j] = b[j]) : a.take (j + 1) = b.take (j + 1) := by
  rw [take_snocC ha, take_snocC hb, h, he]
set_option maxRecDepth 100000 in
set_option maxHeartbeats 4000000 in
theorem rowEq_any (A C : Option Addr) (la lb : List Val) (n m c c' : Nat) (w : World) (hI : Vals w w.heap.size A la) (hJ : Vals w w.heap.size C lb) (hn : n = la.length) (hm : m = lb.length) (hx : n ≤ maxLen) :
    Calls Try.prog 30 #[.slice A n c, .slice C m c'] w fun e w' => e = .returned (.bool (decide (la = lb))) ∧ Below w.heap.size w w' := by
  have hnI : (n : Int) ≤ 9223372036854775807 := by unfold maxLen at hx; omega
  by_cases hnm : n = m
  · subst hnm
    have hnn : ((n : Int) != n) = false := by simp
    by_cases h0 : n = 0
    · obtain rfl : la = [] := List.eq_nil_of_length_eq_zero (by omega)
      obtain rfl : lb = [] := List.eq_nil_of_length_eq_zero (by omega)
      subst h0
      clear hI hJ hn hm
      go_enter Try.func30, Try.ntmps30
      go_wp2
      go_loopw [5, 13] (fun a i wr => i = .int .i64 0 ∧ Below w.heap.size w wr) (fun _ _ _ => 0)
      case atStart => exact ⟨rfl, Below.refl _ _⟩
      case round =>
        obtain ⟨rfl, hb⟩ := hrel
        go_wp2
        go_ret
        exact ⟨rfl, hb⟩
    · obtain ⟨b1, o1, rfl, l1, c1⟩ := vals_get hI (fun e => by rw [e] at hn; exact h0 hn)
      obtain ⟨b2, o2, rfl, l2, c2⟩ := vals_get hJ (fun e => by rw [e] at hm; exact h0 hm)
      have H1 := Lib.hid c1
      have H2 := Lib.hid c2
      have HN := Lib.hid (And.intro hn hm)
      clear c1 c2 hI hJ h0 hn hm hx
      go_enter Try.func30, Try.ntmps30
      go_wp2
      go_loopw [5, 13] (fun a i wr => ∃ j : Nat, j ≤ n ∧ i = .int .i64 j ∧ la.take j = lb.take j ∧ Below w.heap.size w wr) (fun _ i _ => n - (intOf i).toNat)
      case atStart => exact ⟨0, by omega, rfl, by simp, Below.refl _ _⟩
      case round =>
        obtain ⟨j, hj, rfl, heq, hbw⟩ := hrel
        clear hnn
        by_cases hlt : j < n
        · have ja : j < la.length := by have := HN.out; omega
          have jb : j < lb.length := by have := HN.out; omega
          obtain ⟨a1, a2, a3⟩ := H1.out j la[j] (List.getElem?_eq_getElem ja)
          obtain ⟨a4, a5, a6⟩ := H2.out j lb[j] (List.getElem?_eq_getElem jb)
          have d1 := (hbw.cell (p := ⟨b1, _, none⟩) l1).trans a1
          have d2 := (hbw.cell (p := ⟨b1, _, none⟩) l1).trans a2
          have d3 := (hbw.cell (p := ⟨b1, _, none⟩) l1).trans a3
          have d4 := (hbw.cell (p := ⟨b2, _, none⟩) l2).trans a4
          have d5 := (hbw.cell (p := ⟨b2, _, none⟩) l2).trans a5
          have d6 := (hbw.cell (p := ⟨b2, _, none⟩) l2).trans a6
          have HQ := Lib.hid (fun h : la[j] = lb[j] => take_eq_snoc ja jb heq h)
          have HNE := Lib.hid (fun (h : ¬ la[j] = lb[j]) => (show ¬ la = lb from fun h2 => h (by subst h2; rfl)))
          clear a1 a2 a3 a4 a5 a6 heq
          generalize la[j] = x at *
          generalize lb[j] = y at *
          have i1 : (0 : Int) ≤ (j : Int) := by omega
          have i2 : (j : Int) < (n : Int) := by omega
          by_cases hxy : x = y
          · subst hxy
            have HQ2 := Lib.hid (HQ.out rfl)
            obtain ⟨x1, x2, x3⟩ := x
            simp only at d1 d2 d3 d4 d5 d6
            clear HQ HNE
            go_wp2_with fail
            go_quiet (fail)
            go_wp2
            go_roundw
            case rel => exact ⟨j + 1, by omega, by go_num, HQ2.out, below_drewN hbw _⟩
            case measure => simp [intOf]; omega
          · have HD := Lib.hid (show decide (la = lb) = false from decide_eq_false (HNE.out hxy))
            obtain ⟨x1, x2, x3⟩ := x
            obtain ⟨y1, y2, y3⟩ := y
            simp only at d1 d2 d3 d4 d5 d6
            clear HQ HNE
            by_cases e1 : x1 = y1
            · subst e1
              by_cases e2 : x2 = y2
              · subst e2
                have e3 : ¬ x3 = y3 := fun e => hxy (by rw [e])
                have n3 : (x3.toList == y3.toList) = false := by
                  rw [beq_eq_false_iff_ne]
                  exact fun e => e3 (str_ext e)
                clear hxy
                go_wp2_with fail
                go_quiet (fail)
                go_wp2
                go_ret
                exact ⟨by rw [HD.out]; rfl, below_drewN hbw _⟩
              · have n2 : (x2 == y2) = false := beq_no e2
                clear hxy
                go_wp2_with fail
                go_quiet (fail)
                go_wp2
                go_ret
                exact ⟨by rw [HD.out]; rfl, below_drewN hbw _⟩
            · have n1 : (x1 == y1) = false := beq_no e1
              clear hxy
              go_wp2_with fail
              go_quiet (fail)
              go_wp2
              go_ret
              exact ⟨by rw [HD.out]; rfl, below_drewN hbw _⟩
        · obtain rfl : j = n := by omega
          have HD := Lib.hid (show decide (la = lb) = true from decide_eq_true (by have h1 := HN.out.1; have h2 := HN.out.2; rw [h1, List.take_length, ← h1, h2, List.take_length] at heq; exact heq))
          go_wp2
          go_ret
          exact ⟨by rw [HD.out]; rfl, hbw⟩
  · have hd : ((n : Int) != m) = true := by rw [bne_iff_ne]; omega
    have HD := Lib.hid (show decide (la = lb) = false from decide_eq_false (fun e => by subst e; omega))
    clear hI hJ hn hm hx
    go_enter Try.func30, Try.ntmps30
    go_wp2
    go_ret
    exact ⟨by rw [HD.out]; rfl, Below.refl _ _⟩
end Go.Proofs.Ytocbdehcjcggeaa
