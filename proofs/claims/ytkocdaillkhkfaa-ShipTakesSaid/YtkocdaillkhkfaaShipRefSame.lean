/- The document's own Same of two ships. Conditions: those of each lemma. -/
import Derived.Test.YtkocdaillkhkfaaShipSame
namespace Go.Proofs.Ytkocdaillkhkfaa
open Go.RowKit
set_option linter.unusedVariables false
def Sd (w : World) (k1 e1 K1 p1 : Int) (f1 : Bool) (A : Option Addr) (n c : Nat) (k2 e2 K2 p2 : Int) (f2 : Bool) (C : Option Addr) (n' c' : Nat) (W : World) : Prop :=
  Blk W w.heap.size 28 #[.int .u8 k1, .int .u64 e1, .int .u64 K1, .bool f1, .int .i64 p1, .slice A n c] ∧ Blk W (w.heap.size + 1) 28 #[.int .u8 k2, .int .u64 e2, .int .u64 K2, .bool f2, .int .i64 p2, .slice C n' c'] ∧ Below w.heap.size w W
theorem sd_new (w : World) (k1 e1 K1 p1 : Int) (f1 : Bool) (A : Option Addr) (n c : Nat) (k2 e2 K2 p2 : Int) (f2 : Bool) (C : Option Addr) (n' c' : Nat) :
    Sd w k1 e1 K1 p1 f1 A n c k2 e2 K2 p2 f2 C n' c' ((w.alloc (.cells #[.int .u8 k1, .int .u64 e1, .int .u64 K1, .bool f1, .int .i64 p1, .slice A n c] 28)).alloc (.cells #[.int .u8 k2, .int .u64 e2, .int .u64 K2, .bool f2, .int .i64 p2, .slice C n' c'] 28)) :=
  ⟨(Blk.new w _ _).alloc _, blk_new _ _ _ _ (by simp), ((Below.refl _ _).alloc (Nat.le_refl _) _).alloc (by simp) _⟩
theorem sd_drewN {w W : World} {k1 e1 K1 p1 : Int} {f1 : Bool} {A : Option Addr} {n c : Nat} {k2 e2 K2 p2 : Int} {f2 : Bool} {C : Option Addr} {n' c' : Nat} (m : Nat) (h : Sd w k1 e1 K1 p1 f1 A n c k2 e2 K2 p2 f2 C n' c' W) : Sd w k1 e1 K1 p1 f1 A n c k2 e2 K2 p2 f2 C n' c' (W.drewN m) := ⟨h.1.drewN m, h.2.1.drewN m, below_drewN h.2.2 m⟩
theorem bne_no {a b : Int} (h : ¬ a = b) : (a != b) = true := by rw [bne_iff_ne]; exact h
set_option maxRecDepth 100000 in
set_option maxHeartbeats 8000000 in
theorem refSame_loop (k1 e1 K1 p1 : Int) (f1 : Bool) (A : Option Addr) (l m : List (Int × ByteArray)) (n c : Nat) (C : Option Addr) (c' : Nat) (b : Bool) (w : World)
    (hI : Imgs w w.heap.size A l) (hJ : Imgs w w.heap.size C m) (hn : n = l.length) (hn' : n = m.length) (hm : n ≤ maxLen) (hb : decide (l = m) = b) :
    Calls Try.prog 17 #[.agg #[.int .u8 k1, .int .u64 e1, .int .u64 K1, .bool f1, .int .i64 p1, .slice A n c], .agg #[.int .u8 k1, .int .u64 e1, .int .u64 K1, .bool f1, .int .i64 p1, .slice C n c']] w fun e w' => e = .returned (.bool b) ∧ Below w.heap.size w w' := by
  unfold maxLen at hm
  have hs0 := sd_new w k1 e1 K1 p1 f1 A n c k1 e1 K1 p1 f1 C n c'
  by_cases h0 : n = 0
  · have q1 : l = [] := List.eq_nil_of_length_eq_zero (by omega)
    have q2 : m = [] := List.eq_nil_of_length_eq_zero (by omega)
    obtain rfl : b = true := by rw [← hb, q1, q2]; rfl
    subst h0
    have HS := Lib.hid hs0
    clear hI hJ hn hn' hb q1 q2 hs0
    cases f1
    all_goals
      go_enter Try.func17, Try.ntmps17
      go_wp2
      go_loopw [5] (fun i wr => i = .int .i64 0 ∧ Sd w k1 e1 K1 p1 _ A 0 c k1 e1 K1 p1 _ C 0 c' wr) (fun _ _ => 0)
      case atStart => exact ⟨rfl, HS.out⟩
      case round =>
        obtain ⟨rfl, hs⟩ := hrel
        have r5 := hs.1.cell 5
        have s5 := hs.2.1.cell 5
        simp only [List.getElem?_toArray, List.getElem?_cons_succ, List.getElem?_cons_zero] at r5 s5
        go_wp2
        go_ret
        exact ⟨rfl, hs.2.2⟩
  · obtain ⟨b1, o1, rfl, l1, c1⟩ := imgs_get hI (fun e => by rw [e] at hn; simp at hn; omega)
    obtain ⟨b2, o2, rfl, l2, c2⟩ := imgs_get hJ (fun e => by rw [e] at hn'; simp at hn'; omega)
    have H1 := Lib.hid c1
    have H2 := Lib.hid c2
    have HN := Lib.hid hn
    have HM := Lib.hid hn'
    have HB := Lib.hid hb
    have HS := Lib.hid hs0
    clear c1 c2 hn hn' hb hI hJ h0 hs0
    cases f1
    all_goals
      go_enter Try.func17, Try.ntmps17
      go_wp2
      go_loopw [5] (fun i wr => ∃ j : Nat, j ≤ n ∧ i = .int .i64 j ∧ l.take j = m.take j ∧ Sd w k1 e1 K1 p1 _ (some ⟨b1, o1, none⟩) n c k1 e1 K1 p1 _ (some ⟨b2, o2, none⟩) n c' wr) (fun i _ => n - (intOf i).toNat)
      case atStart => exact ⟨0, by omega, rfl, rfl, HS.out⟩
      case round =>
        obtain ⟨j, hj, rfl, ht, hs⟩ := hrel
        have HT := Lib.hid ht
        clear ht
        have r5 := hs.1.cell 5
        have s5 := hs.2.1.cell 5
        simp only [List.getElem?_toArray, List.getElem?_cons_succ, List.getElem?_cons_zero] at r5 s5
        by_cases hlt : j < n
        · have g1 : l[j]? = some (l[j]'(by rw [← HN.out]; exact hlt)) := List.getElem?_eq_getElem _
          have g2 : m[j]? = some (m[j]'(by rw [← HM.out]; exact hlt)) := List.getElem?_eq_getElem _
          generalize l[j]'(by rw [← HN.out]; exact hlt) = x at *
          generalize m[j]'(by rw [← HM.out]; exact hlt) = y at *
          obtain ⟨p, d⟩ := x
          obtain ⟨q, f⟩ := y
          obtain ⟨a1, a2⟩ := H1.out j _ g1
          obtain ⟨a3, a4⟩ := H2.out j _ g2
          simp only at a1 a2 a3 a4
          have d1 := (hs.2.2.cell (p := ⟨b1, o1 + j * 2, none⟩) l1).trans a1
          have d2 := (hs.2.2.cell (p := ⟨b1, o1 + j * 2 + 1, none⟩) l1).trans a2
          have d3 := (hs.2.2.cell (p := ⟨b2, o2 + j * 2, none⟩) l2).trans a3
          have d4 := (hs.2.2.cell (p := ⟨b2, o2 + j * 2 + 1, none⟩) l2).trans a4
          have G1 := Lib.hid g1
          have G2 := Lib.hid g2
          have HS2 := Lib.hid hs
          clear a1 a2 a3 a4 g1 g2 hs
          have i1 : (0 : Int) ≤ (j : Int) := by omega
          have i2 : (j : Int) < (n : Int) := by omega
          have bad : ¬ (p = q ∧ d = f) → b = false := fun hne => by
            rw [← HB.out]
            refine decide_eq_false fun e => hne ?_
            have e2 := G1.out
            rw [e, G2.out] at e2
            simp only [Option.some.injEq, Prod.mk.injEq] at e2
            exact ⟨e2.1.symm, e2.2.symm⟩
          by_cases k1 : p = q
          · by_cases k2 : d = f
            · subst k1 k2
              clear bad
              go_wp2_with fail
              go_quiet (fail)
              go_wp2
              go_roundw
              case rel => exact ⟨j + 1, by omega, by go_num, take_same HT.out G1.out G2.out, sd_drewN _ HS2.out⟩
              case measure => simp [intOf]; omega
            · obtain rfl := bad (fun h => k2 h.2)
              have e1 := toList_ne (S := d) (T := f) (fun e => k2 e.symm)
              subst k1
              have HK := Lib.hid k2
              clear bad k2
              go_wp2_with fail
              go_quiet (fail)
              go_wp2
              go_ret
              exact ⟨rfl, below_drewN HS2.out.2.2 _⟩
          · obtain rfl := bad (fun h => k1 h.1)
            have e1 : (p == q) = false := by simpa using k1
            have HK := Lib.hid k1
            clear bad k1
            go_wp2_with fail
            go_quiet (fail)
            go_wp2
            go_ret
            exact ⟨rfl, below_drewN HS2.out.2.2 _⟩
        · obtain rfl : j = n := by omega
          have e : l = m := by
            have h := HT.out
            rwa [List.take_of_length_le (by rw [← HN.out]; exact Nat.le_refl _), List.take_of_length_le (by rw [← HM.out]; exact Nat.le_refl _)] at h
          obtain rfl : b = true := by rw [← HB.out]; exact decide_eq_true e
          have HS2 := Lib.hid hs
          clear e hs
          go_wp2
          go_ret
          exact ⟨rfl, HS2.out.2.2⟩
set_option maxRecDepth 100000 in
set_option maxHeartbeats 8000000 in
theorem refSame_any (k1 e1 K1 p1 : Int) (f1 : Bool) (A : Option Addr) (l : List (Int × ByteArray)) (n c : Nat) (k2 e2 K2 p2 : Int) (f2 : Bool) (C : Option Addr) (m : List (Int × ByteArray)) (n' c' : Nat) (w : World)
    (hI : Imgs w w.heap.size A l) (hJ : Imgs w w.heap.size C m) (hn : n = l.length) (hn' : n' = m.length) (hm : n ≤ maxLen) :
    Calls Try.prog 17 #[.agg #[.int .u8 k1, .int .u64 e1, .int .u64 K1, .bool f1, .int .i64 p1, .slice A n c], .agg #[.int .u8 k2, .int .u64 e2, .int .u64 K2, .bool f2, .int .i64 p2, .slice C n' c']] w fun e w' => e = .returned (.bool (sameB k1 e1 K1 p1 f1 l k2 e2 K2 p2 f2 m)) ∧ Below w.heap.size w w' := by
  generalize hb : sameB k1 e1 K1 p1 f1 l k2 e2 K2 p2 f2 m = b at *
  have hb2 := (sd_new w k1 e1 K1 p1 f1 A n c k2 e2 K2 p2 f2 C n' c').2.2
  have HI := Lib.hid hb2
  clear hb2
  by_cases q1 : k1 = k2
  · by_cases q2 : e1 = e2
    · by_cases q3 : K1 = K2
      · by_cases q4 : f1 = f2
        · by_cases q5 : p1 = p2
          · by_cases q6 : n = n'
            · subst q1 q2 q3 q4 q5 q6
              exact refSame_loop k1 e1 K1 p1 f1 A l m n c C c' b w hI hJ hn hn' hm (by rw [← hb]; simp [sameB])
            · obtain rfl : b = false := by
                rw [← hb]
                unfold sameB
                exact decide_eq_false fun h => q6 (by rw [hn, hn', h.2.2.2.2.2])
              subst q1 q2 q3 q4 q5
              have g : ((n : Int) != n') = true := bne_no (by omega)
              clear q6 hb hn hn' hI hJ
              cases f1
              all_goals
                go_enter Try.func17, Try.ntmps17
                go_wp2
                go_ret
                exact ⟨rfl, HI.out⟩
          · obtain rfl : b = false := by rw [← hb]; simp [sameB, q5]
            subst q1 q2 q3 q4
            have g := bne_no q5
            clear q5 hb hn hn' hI hJ
            cases f1
            all_goals
              go_enter Try.func17, Try.ntmps17
              go_wp2
              go_ret
              exact ⟨rfl, HI.out⟩
        · obtain rfl : b = false := by rw [← hb]; simp [sameB, q4]
          subst q1 q2 q3
          clear hb hn hn' hI hJ
          cases f1 <;> cases f2 <;> simp at q4
          all_goals
            go_enter Try.func17, Try.ntmps17
            go_wp2
            go_ret
            exact ⟨rfl, HI.out⟩
      · obtain rfl : b = false := by rw [← hb]; simp [sameB, q3]
        subst q1 q2
        have g := bne_no q3
        clear q3 hb hn hn' hI hJ
        go_enter Try.func17, Try.ntmps17
        go_wp2
        go_ret
        exact ⟨rfl, HI.out⟩
    · obtain rfl : b = false := by rw [← hb]; simp [sameB, q2]
      subst q1
      have g := bne_no q2
      clear q2 hb hn hn' hI hJ
      go_enter Try.func17, Try.ntmps17
      go_wp2
      go_ret
      exact ⟨rfl, HI.out⟩
  · obtain rfl : b = false := by rw [← hb]; simp [sameB, q1]
    have g := bne_no q1
    clear q1 hb hn hn' hI hJ
    go_enter Try.func17, Try.ntmps17
    go_wp2
    go_ret
    exact ⟨rfl, HI.out⟩
end Go.Proofs.Ytkocdaillkhkfaa
