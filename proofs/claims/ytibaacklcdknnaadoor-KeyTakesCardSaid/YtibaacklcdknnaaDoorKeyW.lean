/- The laws' own small functions of layer 8; counterfoilref08.Same. Conditions: those of each lemma. -/
import Derived.Test.YtibaacklcdknnaaDoorProg
import Derived.Test.YtibaacklcdknnaaDoorKey2
import Derived.Test.YtibaacklcdknnaaDoorKey6
import Derived.Deep.QuietTactic
import Derived.BigQuiet
import Derived.Deep.RegionHeld3
namespace Go.Proofs.YtibaacklcdknnaaDoor
open Go.RowKit
set_option linter.unusedVariables false
theorem take_same {α : Type} {l m : List α} {j : Nat} {x : α} (h : l.take j = m.take j) (h1 : l[j]? = some x) (h2 : m[j]? = some x) : l.take (j + 1) = m.take (j + 1) := by
  rw [List.take_add_one, List.take_add_one, h, h1, h2]
set_option maxRecDepth 100000 in
set_option maxHeartbeats 4000000 in
theorem same_any (A C : Option Addr) (l m : List Val) (n c n' c' : Nat) (b : Bool) (w : World) (hI : Vals w w.heap.size A l) (hJ : Vals w w.heap.size C m) (hn : n = l.length) (hn' : n' = m.length) (hm : n ≤ maxLen) (hm' : n' ≤ maxLen) (hb : decide (l = m) = b) :
    Calls Tryd.prog 10 #[.slice A n c, .slice C n' c'] w fun e w' => e = .returned (.bool b) ∧ Below w.heap.size w w' := by
  unfold maxLen at hm hm'
  by_cases hne : n = n'
  · subst hne
    by_cases h0 : n = 0
    · have e1 : l = [] := List.eq_nil_of_length_eq_zero (by omega)
      have e2 : m = [] := List.eq_nil_of_length_eq_zero (by omega)
      obtain rfl : b = true := by rw [← hb, e1, e2]; rfl
      subst h0
      clear hI hJ hn hn' hb e1 e2
      go_enter Tryd.func10, Tryd.ntmps10
      go_wp2
      go_loopw [5] (fun i wr => i = .int .i64 0 ∧ Below w.heap.size w wr) (fun _ _ => 0)
      case atStart => exact ⟨rfl, Below.refl _ _⟩
      case round =>
        obtain ⟨rfl, hb⟩ := hrel
        go_wp2
        go_ret
        exact ⟨rfl, hb⟩
    · obtain ⟨b1, o1, rfl, l1, c1⟩ := vals_get hI (fun e => by rw [e] at hn; simp at hn; omega)
      obtain ⟨b2, o2, rfl, l2, c2⟩ := vals_get hJ (fun e => by rw [e] at hn'; simp at hn'; omega)
      have hnn : ((n : Int) != n) = false := by simp
      have H1 := Lib.hid c1
      have H2 := Lib.hid c2
      have HN := Lib.hid hn
      have HM := Lib.hid hn'
      have HB := Lib.hid hb
      clear c1 c2 hn hn' hb hI hJ h0
      go_enter Tryd.func10, Tryd.ntmps10
      go_wp2
      go_loopw [5] (fun i wr => ∃ j : Nat, j ≤ n ∧ i = .int .i64 j ∧ l.take j = m.take j ∧ Below w.heap.size w wr) (fun i _ => n - (intOf i).toNat)
      case atStart => exact ⟨0, by omega, rfl, rfl, Below.refl _ _⟩
      case round =>
        obtain ⟨j, hj, rfl, ht, hbw⟩ := hrel
        have HT := Lib.hid ht
        clear ht hnn
        by_cases hlt : j < n
        · have g1 : l[j]? = some (l[j]'(by rw [← HN.out]; exact hlt)) := List.getElem?_eq_getElem _
          have g2 : m[j]? = some (m[j]'(by rw [← HM.out]; exact hlt)) := List.getElem?_eq_getElem _
          generalize l[j]'(by rw [← HN.out]; exact hlt) = x at *
          generalize m[j]'(by rw [← HM.out]; exact hlt) = y at *
          obtain ⟨k, p, d⟩ := x
          obtain ⟨k', q, f⟩ := y
          obtain ⟨a1, a2, a3⟩ := H1.out j _ g1
          obtain ⟨a4, a5, a6⟩ := H2.out j _ g2
          simp only at a1 a2 a3 a4 a5 a6
          have d1 := (hbw.cell (p := ⟨b1, o1 + j * 3, none⟩) l1).trans a1
          have d2 := (hbw.cell (p := ⟨b1, o1 + j * 3 + 1, none⟩) l1).trans a2
          have d3 := (hbw.cell (p := ⟨b1, o1 + j * 3 + 2, none⟩) l1).trans a3
          have d4 := (hbw.cell (p := ⟨b2, o2 + j * 3, none⟩) l2).trans a4
          have d5 := (hbw.cell (p := ⟨b2, o2 + j * 3 + 1, none⟩) l2).trans a5
          have d6 := (hbw.cell (p := ⟨b2, o2 + j * 3 + 2, none⟩) l2).trans a6
          have G1 := Lib.hid g1
          have G2 := Lib.hid g2
          clear a1 a2 a3 a4 a5 a6 g1 g2
          have i1 : (0 : Int) ≤ (j : Int) := by omega
          have i2 : (j : Int) < (n : Int) := by omega
          have bad : ¬ (k = k' ∧ p = q ∧ d = f) → b = false := fun hne => by
            rw [← HB.out]
            refine decide_eq_false fun e => hne ?_
            have e2 := G1.out
            rw [e, G2.out] at e2
            simp only [Option.some.injEq, Prod.mk.injEq] at e2
            exact ⟨e2.1.symm, e2.2.1.symm, e2.2.2.symm⟩
          by_cases k0 : k = k'
          · by_cases k1 : p = q
            · by_cases k2 : d = f
              · subst k0 k1 k2
                clear bad
                go_wp2_with fail
                go_quiet (fail)
                go_wp2
                go_roundw
                case rel => exact ⟨j + 1, by omega, by go_num, take_same HT.out G1.out G2.out, below_drewN hbw _⟩
                case measure => simp [intOf]; omega
              · obtain rfl := bad (fun h => k2 h.2.2)
                have e1 := toList_ne (S := d) (T := f) (fun e => k2 e.symm)
                subst k0 k1
                have HK := Lib.hid k2
                clear bad k2
                go_wp2_with fail
                go_quiet (fail)
                go_wp2
                go_ret
                exact ⟨rfl, below_drewN hbw _⟩
            · obtain rfl := bad (fun h => k1 h.2.1)
              have e1 := beq_no k1
              subst k0
              have HK := Lib.hid k1
              clear bad k1
              go_wp2_with fail
              go_quiet (fail)
              go_wp2
              go_ret
              exact ⟨rfl, below_drewN hbw _⟩
          · obtain rfl := bad (fun h => k0 h.1)
            have e1 := beq_no k0
            have HK := Lib.hid k0
            clear bad k0
            go_wp2_with fail
            go_quiet (fail)
            go_wp2
            go_ret
            exact ⟨rfl, below_drewN hbw _⟩
        · obtain rfl : j = n := by omega
          have e : l = m := by
            have h := HT.out
            rwa [List.take_of_length_le (by rw [← HN.out]; exact Nat.le_refl _), List.take_of_length_le (by rw [← HM.out]; exact Nat.le_refl _)] at h
          obtain rfl : b = true := by rw [← HB.out]; exact decide_eq_true e
          clear e
          go_wp2
          go_ret
          exact ⟨rfl, hbw⟩
  · obtain rfl : b = false := by rw [← hb]; exact decide_eq_false fun e => hne (by rw [hn, hn', e])
    have hnn : ((n : Int) != n') = true := by rw [bne_iff_ne]; omega
    clear hn hn' hb hI hJ hne
    go_enter Tryd.func10, Tryd.ntmps10
    go_wp2
    go_ret
    exact ⟨rfl, Below.refl _ _⟩
def greatB (l : List Val) : Bool := decide (60 < l.length) || l.any (fun x => decide (4096 < x.2.2.size))
/-- a row that is written out -/
theorem vals_blk {W : World} {g : Nat} {t : TypeId} {l : List Val} {cs : Array Value} (h : Blk W g t cs) (hc : ∀ (j : Nat) x, l[j]? = some x → cs[j * 3]? = some (.int .u8 x.1) ∧ cs[j * 3 + 1]? = some (.int .i64 x.2.1) ∧ cs[j * 3 + 2]? = some (.string x.2.2)) : Vals W W.heap.size (some ⟨g, 0, none⟩) l := by
  refine .inr ⟨g, 0, rfl, h.lt, fun j x hx => ?_⟩
  obtain ⟨a, b, c⟩ := hc j x hx
  rw [Nat.zero_add]
  exact ⟨(h.cell _).trans a, (h.cell _).trans b, (h.cell _).trans c⟩
def Vw (w : World) (A : Option Addr) (l : List Val) (W : World) : Prop := Vals W W.heap.size A l ∧ Below w.heap.size w W
theorem vw_step {w W W' : World} {A : Option Addr} {l : List Val} (h : Vw w A l W) (hb : Below W.heap.size W W') : Vw w A l W' := ⟨vals_step h.1 hb, bj h.2 hb⟩
set_option maxRecDepth 100000 in
theorem long_any (s : ByteArray) (w : World) : Calls Tryd.prog 5 #[.string s] w fun e w' => e = .returned (.bool (decide (8192 < s.size))) ∧ w' = w := by
  go_enter Tryd.func5, Tryd.ntmps5
  go_wp2
  go_ret
  exact ⟨(rbool (decide_eq_decide.2 (by omega)) : Ending.returned (.bool (decide ((8192 : Int) < (s.size : Int)))) = .returned (.bool (decide (8192 < s.size)))), rfl⟩
def row2 : List Val := [(2, 0, bstr [97]), (1, 1, bstr [])]
theorem row2_fits : ∀ x ∈ row2, Fits x := by
  intro x hx
  simp only [row2, List.mem_cons, List.mem_nil_iff, or_false] at hx
  rcases hx with rfl | rfl <;> exact ⟨by decide, by decide, by decide, by decide⟩
theorem row2_put : kputS row2 = (⟨#[3, 97, 0, 0, 2, 128, 0, 0, 0, 0, 0, 0, 1]⟩, 0) := by
  unfold kputS
  rw [if_pos (by decide)]
  decide
theorem row2_take : takeK (bts ⟨#[3, 97, 0, 0, 2, 128, 0, 0, 0, 0, 0, 0, 1]⟩) = some row2 := by decide
theorem vw2 {w W : World} {b o : Nat} (h : Vw w (some ⟨b, o, none⟩) row2 W) : W.cell? ⟨b, o + 3, none⟩ = some (.int .u8 1) ∧ W.cell? ⟨b, o + 4, none⟩ = some (.int .i64 1) ∧ W.cell? ⟨b, o + 5, none⟩ = some (.string ⟨#[]⟩) := by
  obtain ⟨b', o', he, _, hc⟩ := vals_get h.1 (by simp [row2])
  simp only [Option.some.injEq, Addr.mk.injEq, and_true] at he
  obtain ⟨rfl, rfl⟩ := he
  exact hc 1 (1, 1, bstr []) rfl
set_option maxRecDepth 100000 in
set_option maxHeartbeats 4000000 in
theorem works_any (m : Int) (w : World) (hm : w.cell? ⟨0, 0, none⟩ = some (.int .i64 m)) : Calls Tryd.prog 4 #[] w fun e w' => e = .returned (.bool true) ∧ Below w.heap.size w w' := by
  have hlt0 := lt_of_cell hm
  have hpt : ∀ (W : World) (g : Nat), Below w.heap.size w W → Blk W g 31 #[.int .u8 2, .int .i64 0, .string ⟨#[97]⟩, .int .u8 1, .int .i64 1, .string ⟨#[]⟩] →
      Calls Tryd.prog 11 #[.slice (some ⟨g, 0, none⟩) 2 2] W fun e w' => e = .returned (.tuple #[.string ⟨#[3, 97, 0, 0, 2, 128, 0, 0, 0, 0, 0, 0, 1]⟩, .int .i64 0]) ∧ Below W.heap.size W w' := fun W g hb hB => by
    have h := kput_row (some ⟨g, 0, none⟩) row2 2 2 m W (vals_blk hB (fun j x hx => by
      match j, hx with
      | 0, hx => simp [row2] at hx; subst hx; exact ⟨rfl, rfl, rfl⟩
      | 1, hx => simp [row2] at hx; subst hx; exact ⟨rfl, rfl, rfl⟩
      | j + 2, hx => simp [row2] at hx)) rfl (by omega) row2_fits ((hb.cell (p := ⟨0, 0, none⟩) hlt0).trans hm)
    rw [row2_put] at h
    exact h
  have htk : ∀ W : World, Calls Tryd.prog 6 #[.string ⟨#[3, 97, 0, 0, 2, 128, 0, 0, 0, 0, 0, 0, 1]⟩] W fun e w' => ∃ b o c, e = .returned (.tuple #[.slice (some ⟨b, o, none⟩) 2 c, .int .i64 0]) ∧ Vals w' w'.heap.size (some ⟨b, o, none⟩) row2 ∧ Below W.heap.size W w' := fun W => by
    refine (ktake_any _ W (by decide)).mono ?_
    rintro e w' ⟨A, n, c, er, l, rfl, hV, hn, _, _, _, hb, hh⟩
    rw [row2_take] at hh
    rcases hh with ⟨h, _⟩ | ⟨h, rfl⟩
    · cases h
    · simp only [Option.some.injEq] at h
      subst h
      obtain ⟨b, o, rfl, _, _⟩ := vals_get hV (by simp [row2])
      subst hn
      exact ⟨b, o, c, rfl, hV, hb⟩
  have HPT := Lib.hid hpt
  have HTK := Lib.hid htk
  clear hpt htk hm hlt0
  go_enter Tryd.func4, Tryd.ntmps4
  go_wp2_with fail
  refine (HPT.out _ _ (by first | exact Below.refl _ _ | exact (Below.refl _ _).alloc (Nat.le_refl _) _) (blk_new _ _ _ _ rfl)).mono ?_
  rintro e w2 ⟨rfl, hb2⟩
  go_wp2_with fail
  refine (HTK.out _).mono ?_
  rintro e w3 ⟨b, o, c, rfl, hV, hb3⟩
  have hbw : Below w.heap.size w w3 := bj (bja _ (Below.refl _ _) hb2) hb3
  have HV := Lib.hid (show Vw w (some ⟨b, o, none⟩) row2 w3 from ⟨hV, hbw⟩)
  obtain ⟨d0, d1, d2⟩ := vw2 HV.out
  clear hV hbw hb2 hb3
  go_wp2
  go_ret
  exact ⟨rfl, HV.out.2⟩
end Go.Proofs.YtibaacklcdknnaaDoor
