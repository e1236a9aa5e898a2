/- counterfoilref08.Same. Conditions: those of each lemma. -/
import Derived.Test.YtocbdehcjcggeaaProg
import Derived.Test.YtocbdehcjcggeaaRecT3
import Derived.Test.YtocbdehcjcggeaaRec4
import Derived.Deep.QuietTactic
import Derived.BigQuiet
import Derived.Deep.RegionHeld3
namespace Go.Proofs.Ytocbdehcjcggeaa
open Go.RowKit
set_option linter.unusedVariables false
theorem take_same {α : Type} {l m : List α} {j : Nat} {x : α} (h : l.take j = m.take j) (h1 : l[j]? = some x) (h2 : m[j]? = some x) : l.take (j + 1) = m.take (j + 1) := by
  rw [List.take_add_one, List.take_add_one, h, h1, h2]
set_option maxRecDepth 100000 in
set_option maxHeartbeats 4000000 in
theorem same_any (A C : Option Addr) (l m : List Val) (n c n' c' : Nat) (b : Bool) (w : World) (hI : Vals w w.heap.size A l) (hJ : Vals w w.heap.size C m) (hn : n = l.length) (hn' : n' = m.length) (hm : n ≤ maxLen) (hm' : n' ≤ maxLen) (hb : decide (l = m) = b) :
    Calls Try.prog 44 #[.slice A n c, .slice C n' c'] w fun e w' => e = .returned (.bool b) ∧ Below w.heap.size w w' := by
  unfold maxLen at hm hm'
  by_cases hne : n = n'
  · subst hne
    by_cases h0 : n = 0
    · have e1 : l = [] := List.eq_nil_of_length_eq_zero (by omega)
      have e2 : m = [] := List.eq_nil_of_length_eq_zero (by omega)
      obtain rfl : b = true := by rw [← hb, e1, e2]; rfl
      subst h0
      clear hI hJ hn hn' hb e1 e2
      go_enter Try.func44, Try.ntmps44
      go_wp2
      go_loopw [5] (fun i wr => i = .int .i64 0 ∧ Below w.heap.size w wr) (fun _ _ => 0)
      case atStart => exact ⟨rfl, Below.refl _ _⟩
      case round =>
        obtain ⟨rfl, hb⟩ := hrel
        go_wp2
        go_ret
        exact ⟨rfl, hb⟩
    · obtain ⟨b1, o1, rfl, l1, c1⟩ := vals_get hI (fun e => by rw [e] at hn; simp at hn; omega)
      obtain ⟨b2, o2, rfl, l2, c2⟩ := vals_get hJ (fun e => by rw [e] at hn'; simp at hn'; omega)
      have hnn : ((n : Int) != n) = false := by simp
      have H1 := Lib.hid c1
      have H2 := Lib.hid c2
      have HN := Lib.hid hn
      have HM := Lib.hid hn'
      have HB := Lib.hid hb
      clear c1 c2 hn hn' hb hI hJ h0
      go_enter Try.func44, Try.ntmps44
      go_wp2
      go_loopw [5] (fun i wr => ∃ j : Nat, j ≤ n ∧ i = .int .i64 j ∧ l.take j = m.take j ∧ Below w.heap.size w wr) (fun i _ => n - (intOf i).toNat)
      case atStart => exact ⟨0, by omega, rfl, rfl, Below.refl _ _⟩
      case round =>
        obtain ⟨j, hj, rfl, ht, hbw⟩ := hrel
        have HT := Lib.hid ht
        clear ht hnn
        by_cases hlt : j < n
        · have g1 : l[j]? = some (l[j]'(by rw [← HN.out]; exact hlt)) := List.getElem?_eq_getElem _
          have g2 : m[j]? = some (m[j]'(by rw [← HM.out]; exact hlt)) := List.getElem?_eq_getElem _
          generalize l[j]'(by rw [← HN.out]; exact hlt) = x at *
          generalize m[j]'(by rw [← HM.out]; exact hlt) = y at *
          obtain ⟨k, p, d⟩ := x
          obtain ⟨k', q, f⟩ := y
          obtain ⟨a1, a2, a3⟩ := H1.out j _ g1
          obtain ⟨a4, a5, a6⟩ := H2.out j _ g2
          simp only at a1 a2 a3 a4 a5 a6
          have d1 := (hbw.cell (p := ⟨b1, o1 + j * 3, none⟩) l1).trans a1
          have d2 := (hbw.cell (p := ⟨b1, o1 + j * 3 + 1, none⟩) l1).trans a2
          have d3 := (hbw.cell (p := ⟨b1, o1 + j * 3 + 2, none⟩) l1).trans a3
          have d4 := (hbw.cell (p := ⟨b2, o2 + j * 3, none⟩) l2).trans a4
          have d5 := (hbw.cell (p := ⟨b2, o2 + j * 3 + 1, none⟩) l2).trans a5
          have d6 := (hbw.cell (p := ⟨b2, o2 + j * 3 + 2, none⟩) l2).trans a6
          have G1 := Lib.hid g1
          have G2 := Lib.hid g2
          clear a1 a2 a3 a4 a5 a6 g1 g2
          have i1 : (0 : Int) ≤ (j : Int) := by omega
          have i2 : (j : Int) < (n : Int) := by omega
          have bad : ¬ (k = k' ∧ p = q ∧ d = f) → b = false := fun hne => by
            rw [← HB.out]
            refine decide_eq_false fun e => hne ?_
            have e2 := G1.out
            rw [e, G2.out] at e2
            simp only [Option.some.injEq, Prod.mk.injEq] at e2
            exact ⟨e2.1.symm, e2.2.1.symm, e2.2.2.symm⟩
          by_cases k0 : k = k'
          · by_cases k1 : p = q
            · by_cases k2 : d = f
              · subst k0 k1 k2
                clear bad
                go_wp2_with fail
                go_quiet (fail)
                go_wp2
                go_roundw
                case rel => exact ⟨j + 1, by omega, by go_num, take_same HT.out G1.out G2.out, below_drewN hbw _⟩
                case measure => simp [intOf]; omega
              · obtain rfl := bad (fun h => k2 h.2.2)
                have e1 := toList_ne (S := d) (T := f) (fun e => k2 e.symm)
                subst k0 k1
                have HK := Lib.hid k2
                clear bad k2
                go_wp2_with fail
                go_quiet (fail)
                go_wp2
                go_ret
                exact ⟨rfl, below_drewN hbw _⟩
            · obtain rfl := bad (fun h => k1 h.2.1)
              have e1 := beq_no k1
              subst k0
              have HK := Lib.hid k1
              clear bad k1
              go_wp2_with fail
              go_quiet (fail)
              go_wp2
              go_ret
              exact ⟨rfl, below_drewN hbw _⟩
          · obtain rfl := bad (fun h => k0 h.1)
            have e1 := beq_no k0
            have HK := Lib.hid k0
            clear bad k0
            go_wp2_with fail
            go_quiet (fail)
            go_wp2
            go_ret
            exact ⟨rfl, below_drewN hbw _⟩
        · obtain rfl : j = n := by omega
          have e : l = m := by
            have h := HT.out
            rwa [List.take_of_length_le (by rw [← HN.out]; exact Nat.le_refl _), List.take_of_length_le (by rw [← HM.out]; exact Nat.le_refl _)] at h
          obtain rfl : b = true := by rw [← HB.out]; exact decide_eq_true e
          clear e
          go_wp2
          go_ret
          exact ⟨rfl, hbw⟩
  · obtain rfl : b = false := by rw [← hb]; exact decide_eq_false fun e => hne (by rw [hn, hn', e])
    have hnn : ((n : Int) != n') = true := by rw [bne_iff_ne]; omega
    clear hn hn' hb hI hJ hne
    go_enter Try.func44, Try.ntmps44
    go_wp2
    go_ret
    exact ⟨rfl, Below.refl _ _⟩
def greatB (l : List Val) : Bool := decide (60 < l.length) || l.any (fun x => decide (4096 < x.2.2.size))
end Go.Proofs.Ytocbdehcjcggeaa
