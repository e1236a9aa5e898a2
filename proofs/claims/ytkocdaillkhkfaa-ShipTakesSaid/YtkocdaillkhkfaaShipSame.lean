/- slices.Equal of images, and ship.Same. Conditions: none but those of each lemma. -/
import Derived.Test.YtkocdaillkhkfaaShip1
import Derived.Deep.QuietTactic
import Derived.BigQuiet
namespace Go.Proofs.Ytkocdaillkhkfaa
open Go.RowKit
set_option linter.unusedVariables false
theorem take_same {α : Type} {l m : List α} {j : Nat} {x : α} (h : l.take j = m.take j) (h1 : l[j]? = some x) (h2 : m[j]? = some x) : l.take (j + 1) = m.take (j + 1) := by
  rw [List.take_add_one, List.take_add_one, h, h1, h2]
theorem imgs_get {w : World} {B : Nat} {A : Option Addr} {l : List (Int × ByteArray)} (h : Imgs w B A l) (hl : l ≠ []) : ∃ b o, A = some ⟨b, o, none⟩ ∧ b < B ∧ ∀ (j : Nat) x, l[j]? = some x → w.cell? ⟨b, o + j * 2, none⟩ = some (.int .i64 x.1) ∧ w.cell? ⟨b, o + j * 2 + 1, none⟩ = some (.string x.2) := by
  rcases h with h | h
  · exact absurd h hl
  · exact h
set_option maxRecDepth 100000 in
set_option maxHeartbeats 4000000 in
theorem sliceEq_any (A C : Option Addr) (l m : List (Int × ByteArray)) (n c n' c' : Nat) (b : Bool) (w : World) (hI : Imgs w w.heap.size A l) (hJ : Imgs w w.heap.size C m) (hn : n = l.length) (hn' : n' = m.length) (hm : n ≤ maxLen) (hb : decide (l = m) = b) :
    Calls Try.prog 35 #[.slice A n c, .slice C n' c'] w fun e w' => e = .returned (.bool b) ∧ Below w.heap.size w w' := by
  unfold maxLen at hm
  by_cases hne : n = n'
  · subst hne
    by_cases h0 : n = 0
    · have e1 : l = [] := List.eq_nil_of_length_eq_zero (by omega)
      have e2 : m = [] := List.eq_nil_of_length_eq_zero (by omega)
      obtain rfl : b = true := by rw [← hb, e1, e2]; rfl
      subst h0
      clear hI hJ hn hn' hb e1 e2
      go_enter Try.func35, Try.ntmps35
      go_wp2
      go_loopw [5, 13] (fun a i wr => i = .int .i64 0 ∧ Below w.heap.size w wr) (fun _ _ _ => 0)
      case atStart => exact ⟨rfl, Below.refl _ _⟩
      case round =>
        obtain ⟨rfl, hb⟩ := hrel
        go_wp2
        go_ret
        exact ⟨rfl, hb⟩
    · obtain ⟨b1, o1, rfl, l1, c1⟩ := imgs_get hI (fun e => by rw [e] at hn; simp at hn; omega)
      obtain ⟨b2, o2, rfl, l2, c2⟩ := imgs_get hJ (fun e => by rw [e] at hn'; simp at hn'; omega)
      have hnn : ((n : Int) != n) = false := by simp
      have H1 := Lib.hid c1
      have H2 := Lib.hid c2
      have HN := Lib.hid hn
      have HM := Lib.hid hn'
      have HB := Lib.hid hb
      clear c1 c2 hn hn' hb hI hJ h0
      go_enter Try.func35, Try.ntmps35
      go_wp2
      go_loopw [5, 13] (fun a i wr => ∃ j : Nat, j ≤ n ∧ i = .int .i64 j ∧ l.take j = m.take j ∧ Below w.heap.size w wr) (fun _ i _ => n - (intOf i).toNat)
      case atStart => exact ⟨0, by omega, rfl, rfl, Below.refl _ _⟩
      case round =>
        obtain ⟨j, hj, rfl, ht, hbw⟩ := hrel
        have HT := Lib.hid ht
        clear ht hnn
        by_cases hlt : j < n
        · have g1 : l[j]? = some (l[j]'(by rw [← HN.out]; exact hlt)) := List.getElem?_eq_getElem _
          have g2 : m[j]? = some (m[j]'(by rw [← HM.out]; exact hlt)) := List.getElem?_eq_getElem _
          generalize l[j]'(by rw [← HN.out]; exact hlt) = x at *
          generalize m[j]'(by rw [← HM.out]; exact hlt) = y at *
          obtain ⟨p, d⟩ := x
          obtain ⟨q, f⟩ := y
          obtain ⟨a1, a2⟩ := H1.out j _ g1
          obtain ⟨a3, a4⟩ := H2.out j _ g2
          simp only at a1 a2 a3 a4
          have d1 := (hbw.cell (p := ⟨b1, o1 + j * 2, none⟩) l1).trans a1
          have d2 := (hbw.cell (p := ⟨b1, o1 + j * 2 + 1, none⟩) l1).trans a2
          have d3 := (hbw.cell (p := ⟨b2, o2 + j * 2, none⟩) l2).trans a3
          have d4 := (hbw.cell (p := ⟨b2, o2 + j * 2 + 1, none⟩) l2).trans a4
          have G1 := Lib.hid g1
          have G2 := Lib.hid g2
          clear a1 a2 a3 a4 g1 g2
          have i1 : (0 : Int) ≤ (j : Int) := by omega
          have i2 : (j : Int) < (n : Int) := by omega
          have bad : ¬ (p = q ∧ d = f) → b = false := fun hne => by
            rw [← HB.out]
            refine decide_eq_false fun e => hne ?_
            have e2 := G1.out
            rw [e, G2.out] at e2
            simp only [Option.some.injEq, Prod.mk.injEq] at e2
            exact ⟨e2.1.symm, e2.2.symm⟩
          by_cases k1 : p = q
          · by_cases k2 : d = f
            · subst k1 k2
              clear bad
              go_wp2_with fail
              go_quiet (fail)
              go_wp2
              go_roundw
              case rel => exact ⟨j + 1, by omega, by go_num, take_same HT.out G1.out G2.out, below_drewN hbw _⟩
              case measure => simp [intOf]; omega
            · obtain rfl := bad (fun h => k2 h.2)
              have e1 := toList_ne (S := d) (T := f) (fun e => k2 e.symm)
              subst k1
              have HK := Lib.hid k2
              clear bad k2
              go_wp2_with fail
              go_quiet (fail)
              go_wp2
              go_ret
              exact ⟨rfl, below_drewN hbw _⟩
          · obtain rfl := bad (fun h => k1 h.1)
            have e1 : (p == q) = false := by simpa using k1
            have HK := Lib.hid k1
            clear bad k1
            go_wp2_with fail
            go_quiet (fail)
            go_wp2
            go_ret
            exact ⟨rfl, below_drewN hbw _⟩
        · obtain rfl : j = n := by omega
          have e : l = m := by
            have h := HT.out
            rwa [List.take_of_length_le (by rw [← HN.out]; exact Nat.le_refl _), List.take_of_length_le (by rw [← HM.out]; exact Nat.le_refl _)] at h
          obtain rfl : b = true := by rw [← HB.out]; exact decide_eq_true e
          clear e
          go_wp2
          go_ret
          exact ⟨rfl, hbw⟩
  · obtain rfl : b = false := by rw [← hb]; exact decide_eq_false fun e => hne (by rw [hn, hn', e])
    have hnn : ((n : Int) != n') = true := by rw [bne_iff_ne]; omega
    clear hn hn' hb hI hJ hne
    go_enter Try.func35, Try.ntmps35
    go_wp2
    go_ret
    exact ⟨rfl, Below.refl _ _⟩
def sameB (k1 e1 K1 p1 : Int) (f1 : Bool) (l : List (Int × ByteArray)) (k2 e2 K2 p2 : Int) (f2 : Bool) (m : List (Int × ByteArray)) : Bool := decide (k1 = k2 ∧ e1 = e2 ∧ K1 = K2 ∧ f1 = f2 ∧ p1 = p2 ∧ l = m)
theorem beq_no {a b : Int} (h : ¬ a = b) : (a == b) = false := by simpa using h
set_option maxRecDepth 100000 in
set_option maxHeartbeats 8000000 in
theorem same_any (k1 e1 K1 p1 : Int) (f1 : Bool) (A : Option Addr) (l : List (Int × ByteArray)) (n c : Nat) (k2 e2 K2 p2 : Int) (f2 : Bool) (C : Option Addr) (m : List (Int × ByteArray)) (n' c' : Nat) (w : World)
    (hI : Imgs w w.heap.size A l) (hJ : Imgs w w.heap.size C m) (hn : n = l.length) (hn' : n' = m.length) (hm : n ≤ maxLen) :
    Calls Try.prog 16 #[.agg #[.int .u8 k1, .int .u64 e1, .int .u64 K1, .bool f1, .int .i64 p1, .slice A n c], .agg #[.int .u8 k2, .int .u64 e2, .int .u64 K2, .bool f2, .int .i64 p2, .slice C n' c']] w fun e w' => e = .returned (.bool (sameB k1 e1 K1 p1 f1 l k2 e2 K2 p2 f2 m)) ∧ Below w.heap.size w w' := by
  generalize hb : sameB k1 e1 K1 p1 f1 l k2 e2 K2 p2 f2 m = b at *
  have hb2 : Below w.heap.size w ((w.alloc (.cells #[.int .u8 k1, .int .u64 e1, .int .u64 K1, .bool f1, .int .i64 p1, .slice A n c] 28)).alloc (.cells #[.int .u8 k2, .int .u64 e2, .int .u64 K2, .bool f2, .int .i64 p2, .slice C n' c'] 28)) := ((Below.refl _ _).alloc (Nat.le_refl _) _).alloc (by simp) _
  have hE := fun (b : Bool) (h : decide (l = m) = b) => sliceEq_any A C l m n c n' c' b _ (imgs_mono (imgs_below hI hb2) hb2.size) (imgs_mono (imgs_below hJ hb2) hb2.size) hn hn' hm h
  have HI := Lib.hid hb2
  have HE := Lib.hid hE
  clear hI hJ hn hn' hm hb2 hE
  by_cases q1 : k1 = k2
  · by_cases q2 : e1 = e2
    · by_cases q3 : K1 = K2
      · by_cases q4 : f1 = f2
        · by_cases q5 : p1 = p2
          · subst q1 q2 q3 q4 q5
            have hd : decide (l = m) = b := by rw [← hb]; simp [sameB]
            have HC := Lib.hid (HE.out b hd)
            clear hb hd HE
            cases f1
            all_goals
              go_enter Try.func16, Try.ntmps16
              go_wp2_with fail
              refine (HC.out).mono ?_
              rintro e w1 ⟨rfl, hb1⟩
              go_wp2
              go_ret
              exact ⟨rfl, bj HI.out hb1⟩
          · obtain rfl : b = false := by rw [← hb]; simp [sameB, q5]
            subst q1 q2 q3 q4
            have g := beq_no q5
            clear q5 hb HE
            cases f1
            all_goals
              go_enter Try.func16, Try.ntmps16
              go_wp2
              go_ret
              exact ⟨rfl, HI.out⟩
        · obtain rfl : b = false := by rw [← hb]; simp [sameB, q4]
          subst q1 q2 q3
          clear hb HE
          cases f1 <;> cases f2 <;> simp at q4
          all_goals
            go_enter Try.func16, Try.ntmps16
            go_wp2
            go_ret
            exact ⟨rfl, HI.out⟩
      · obtain rfl : b = false := by rw [← hb]; simp [sameB, q3]
        subst q1 q2
        have g := beq_no q3
        clear q3 hb HE
        go_enter Try.func16, Try.ntmps16
        go_wp2
        go_ret
        exact ⟨rfl, HI.out⟩
    · obtain rfl : b = false := by rw [← hb]; simp [sameB, q2]
      subst q1
      have g := beq_no q2
      clear q2 hb HE
      go_enter Try.func16, Try.ntmps16
      go_wp2
      go_ret
      exact ⟨rfl, HI.out⟩
  · obtain rfl : b = false := by rw [← hb]; simp [sameB, q1]
    have g := beq_no q1
    clear q1 hb HE
    go_enter Try.func16, Try.ntmps16
    go_wp2
    go_ret
    exact ⟨rfl, HI.out⟩
end Go.Proofs.Ytkocdaillkhkfaa
