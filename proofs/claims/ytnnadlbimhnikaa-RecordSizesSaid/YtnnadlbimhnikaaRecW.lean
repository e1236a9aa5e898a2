/- The laws' own small functions of layer 9; counterfoilref08.Same. Conditions: none but those of each lemma. -/
import Derived.Test.YtnnadlbimhnikaaProg
import Derived.Test.YtnnadlbimhnikaaRecT3
import Derived.Test.YtnnadlbimhnikaaRec4
import Derived.Deep.QuietTactic
import Derived.BigQuiet
import Derived.Deep.RegionHeld3
namespace Go.Proofs.Ytnnadlbimhnikaa
open Go.RowKit
set_option linter.unusedVariables false
theorem take_same {α : Type} {l m : List α} {j : Nat} {x : α} (h : l.take j = m.take j) (h1 : l[j]? = some x) (h2 : m[j]? = some x) : l.take (j + 1) = m.take (j + 1) := by
  rw [List.take_add_one, List.take_add_one, h, h1, h2]
set_option maxRecDepth 100000 in
set_option maxHeartbeats 4000000 in
theorem same_any (A C : Option Addr) (l m : List Val) (n c n' c' : Nat) (b : Bool) (w : World) (hI : Vals w w.heap.size A l) (hJ : Vals w w.heap.size C m) (hn : n = l.length) (hn' : n' = m.length) (hm : n ≤ maxLen) (hm' : n' ≤ maxLen) (hb : decide (l = m) = b) :
    Calls Try.prog 19 #[.slice A n c, .slice C n' c'] w fun e w' => e = .returned (.bool b) ∧ Below w.heap.size w w' := by
  unfold maxLen at hm hm'
  by_cases hne : n = n'
  · subst hne
    by_cases h0 : n = 0
    · have e1 : l = [] := List.eq_nil_of_length_eq_zero (by omega)
      have e2 : m = [] := List.eq_nil_of_length_eq_zero (by omega)
      obtain rfl : b = true := by rw [← hb, e1, e2]; rfl
      subst h0
      clear hI hJ hn hn' hb e1 e2
      go_enter Try.func19, Try.ntmps19
      go_wp2
      go_loopw [5] (fun i wr => i = .int .i64 0 ∧ Below w.heap.size w wr) (fun _ _ => 0)
      case atStart => exact ⟨rfl, Below.refl _ _⟩
      case round =>
        obtain ⟨rfl, hb⟩ := hrel
        go_wp2
        go_ret
        exact ⟨rfl, hb⟩
    · obtain ⟨b1, o1, rfl, l1, c1⟩ := vals_get hI (fun e => by rw [e] at hn; simp at hn; omega)
      obtain ⟨b2, o2, rfl, l2, c2⟩ := vals_get hJ (fun e => by rw [e] at hn'; simp at hn'; omega)
      have hnn : ((n : Int) != n) = false := by simp
      have H1 := Lib.hid c1
      have H2 := Lib.hid c2
      have HN := Lib.hid hn
      have HM := Lib.hid hn'
      have HB := Lib.hid hb
      clear c1 c2 hn hn' hb hI hJ h0
      go_enter Try.func19, Try.ntmps19
      go_wp2
      go_loopw [5] (fun i wr => ∃ j : Nat, j ≤ n ∧ i = .int .i64 j ∧ l.take j = m.take j ∧ Below w.heap.size w wr) (fun i _ => n - (intOf i).toNat)
      case atStart => exact ⟨0, by omega, rfl, rfl, Below.refl _ _⟩
      case round =>
        obtain ⟨j, hj, rfl, ht, hbw⟩ := hrel
        have HT := Lib.hid ht
        clear ht hnn
        by_cases hlt : j < n
        · have g1 : l[j]? = some (l[j]'(by rw [← HN.out]; exact hlt)) := List.getElem?_eq_getElem _
          have g2 : m[j]? = some (m[j]'(by rw [← HM.out]; exact hlt)) := List.getElem?_eq_getElem _
          generalize l[j]'(by rw [← HN.out]; exact hlt) = x at *
          generalize m[j]'(by rw [← HM.out]; exact hlt) = y at *
          obtain ⟨k, p, d⟩ := x
          obtain ⟨k', q, f⟩ := y
          obtain ⟨a1, a2, a3⟩ := H1.out j _ g1
          obtain ⟨a4, a5, a6⟩ := H2.out j _ g2
          simp only at a1 a2 a3 a4 a5 a6
          have d1 := (hbw.cell (p := ⟨b1, o1 + j * 3, none⟩) l1).trans a1
          have d2 := (hbw.cell (p := ⟨b1, o1 + j * 3 + 1, none⟩) l1).trans a2
          have d3 := (hbw.cell (p := ⟨b1, o1 + j * 3 + 2, none⟩) l1).trans a3
          have d4 := (hbw.cell (p := ⟨b2, o2 + j * 3, none⟩) l2).trans a4
          have d5 := (hbw.cell (p := ⟨b2, o2 + j * 3 + 1, none⟩) l2).trans a5
          have d6 := (hbw.cell (p := ⟨b2, o2 + j * 3 + 2, none⟩) l2).trans a6
          have G1 := Lib.hid g1
          have G2 := Lib.hid g2
          clear a1 a2 a3 a4 a5 a6 g1 g2
          have i1 : (0 : Int) ≤ (j : Int) := by omega
          have i2 : (j : Int) < (n : Int) := by omega
          have bad : ¬ (k = k' ∧ p = q ∧ d = f) → b = false := fun hne => by
            rw [← HB.out]
            refine decide_eq_false fun e => hne ?_
            have e2 := G1.out
            rw [e, G2.out] at e2
            simp only [Option.some.injEq, Prod.mk.injEq] at e2
            exact ⟨e2.1.symm, e2.2.1.symm, e2.2.2.symm⟩
          by_cases k0 : k = k'
          · by_cases k1 : p = q
            · by_cases k2 : d = f
              · subst k0 k1 k2
                clear bad
                go_wp2_with fail
                go_quiet (fail)
                go_wp2
                go_roundw
                case rel => exact ⟨j + 1, by omega, by go_num, take_same HT.out G1.out G2.out, below_drewN hbw _⟩
                case measure => simp [intOf]; omega
              · obtain rfl := bad (fun h => k2 h.2.2)
                have e1 := toList_ne (S := d) (T := f) (fun e => k2 e.symm)
                subst k0 k1
                have HK := Lib.hid k2
                clear bad k2
                go_wp2_with fail
                go_quiet (fail)
                go_wp2
                go_ret
                exact ⟨rfl, below_drewN hbw _⟩
            · obtain rfl := bad (fun h => k1 h.2.1)
              have e1 := beq_no k1
              subst k0
              have HK := Lib.hid k1
              clear bad k1
              go_wp2_with fail
              go_quiet (fail)
              go_wp2
              go_ret
              exact ⟨rfl, below_drewN hbw _⟩
          · obtain rfl := bad (fun h => k0 h.1)
            have e1 := beq_no k0
            have HK := Lib.hid k0
            clear bad k0
            go_wp2_with fail
            go_quiet (fail)
            go_wp2
            go_ret
            exact ⟨rfl, below_drewN hbw _⟩
        · obtain rfl : j = n := by omega
          have e : l = m := by
            have h := HT.out
            rwa [List.take_of_length_le (by rw [← HN.out]; exact Nat.le_refl _), List.take_of_length_le (by rw [← HM.out]; exact Nat.le_refl _)] at h
          obtain rfl : b = true := by rw [← HB.out]; exact decide_eq_true e
          clear e
          go_wp2
          go_ret
          exact ⟨rfl, hbw⟩
  · obtain rfl : b = false := by rw [← hb]; exact decide_eq_false fun e => hne (by rw [hn, hn', e])
    have hnn : ((n : Int) != n') = true := by rw [bne_iff_ne]; omega
    clear hn hn' hb hI hJ hne
    go_enter Try.func19, Try.ntmps19
    go_wp2
    go_ret
    exact ⟨rfl, Below.refl _ _⟩
def greatB (l : List Val) : Bool := decide (60 < l.length) || l.any (fun x => decide (4096 < x.2.2.size))
set_option maxRecDepth 100000 in
set_option maxHeartbeats 4000000 in
theorem great_any (A : Option Addr) (l : List Val) (n c : Nat) (w : World) (hV : Vals w w.heap.size A l) (hn : n = l.length) (hm : n ≤ maxLen) :
    Calls Try.prog 14 #[.slice A n c] w fun e w' => e = .returned (.bool (greatB l)) ∧ Below w.heap.size w w' := by
  unfold maxLen at hm
  by_cases h60 : 60 < n
  · have HR := Lib.hid (show greatB l = true by unfold greatB; rw [decide_eq_true (by omega)]; rfl)
    have h60' : (60 : Int) < n := by omega
    clear hn h60
    go_enter Try.func14, Try.ntmps14
    go_wp2
    go_ret
    exact ⟨rbool HR.out.symm, Below.refl _ _⟩
  · have HR := Lib.hid (show greatB l = l.any (fun x => decide (4096 < x.2.2.size)) by unfold greatB; rw [decide_eq_false (by omega)]; rfl)
    have h60' : (n : Int) ≤ 60 := by omega
    clear h60
    by_cases h0 : n = 0
    · subst h0
      obtain rfl : l = [] := List.eq_nil_of_length_eq_zero hn.symm
      have HE := Lib.hid (show greatB [] = false by decide)
      clear hV hn
      go_enter Try.func14, Try.ntmps14
      go_wp2
      go_loopw [10] (fun i wr => i = .int .i64 0 ∧ Below w.heap.size w wr) (fun _ _ => 0)
      case atStart => exact ⟨rfl, Below.refl _ _⟩
      case round =>
        obtain ⟨rfl, hb⟩ := hrel
        go_wp2
        go_ret
        exact ⟨rbool HE.out.symm, hb⟩
    · obtain ⟨b, o, rfl, hbl, hc⟩ := vals_get hV (fun e => by rw [e] at hn; exact h0 hn)
      have HC := Lib.hid hc
      have HN := Lib.hid hn
      clear hc hV hn h0
      go_enter Try.func14, Try.ntmps14
      go_wp2
      go_loopw [10] (fun i wr => ∃ j : Nat, j ≤ n ∧ i = .int .i64 j ∧ l.any (fun x => decide (4096 < x.2.2.size)) = (l.drop j).any (fun x => decide (4096 < x.2.2.size)) ∧ Below w.heap.size w wr) (fun i _ => n - (intOf i).toNat)
      case atStart => exact ⟨0, by omega, rfl, rfl, Below.refl _ _⟩
      case round =>
        obtain ⟨j, hj, rfl, heq, hb⟩ := hrel
        by_cases hjn : j < n
        · have hjl : j < l.length := by have := HN.out; omega
          obtain ⟨a1, a2, a3⟩ := HC.out j l[j] (List.getElem?_eq_getElem hjl)
          have c1 := (hb.cell (p := ⟨b, o + j * 3, none⟩) hbl).trans a1
          have c2 := (hb.cell (p := ⟨b, o + j * 3 + 1, none⟩) hbl).trans a2
          have c3 := (hb.cell (p := ⟨b, o + j * 3 + 2, none⟩) hbl).trans a3
          have hd : l.drop j = l[j] :: l.drop (j + 1) := List.drop_eq_getElem_cons hjl
          rw [hd, List.any_cons] at heq
          generalize l[j] = x at *
          obtain ⟨p, q, s⟩ := x
          simp only at c1 c2 c3 heq
          clear a1 a2 a3 hd
          by_cases hs : 4096 < s.size
          · have HE := Lib.hid (show greatB l = true by rw [HR.out, heq, decide_eq_true hs]; rfl)
            have hsI : (4096 : Int) < s.size := by omega
            clear heq hs
            go_wp2
            go_ret
            exact ⟨rbool HE.out.symm, hb.alloc hb.size _⟩
          · rw [decide_eq_false hs, Bool.false_or] at heq
            have HE := Lib.hid heq
            have hsI : (s.size : Int) ≤ 4096 := by omega
            clear heq hs
            go_wp2
            go_roundw
            case rel => exact ⟨j + 1, by omega, by go_num, HE.out, hb.alloc hb.size _⟩
            case measure => simp [intOf]; omega
        · obtain rfl : j = n := by omega
          have hE : greatB l = false := by rw [HR.out, heq, List.drop_of_length_le (by have := HN.out; omega)]; rfl
          have HE := Lib.hid hE
          clear heq hE
          go_wp2
          go_ret
          exact ⟨rbool HE.out.symm, hb⟩
set_option maxRecDepth 100000 in
theorem text_val (s : ByteArray) (w : World) : Calls Try.prog 11 #[.string s] w fun e w' => e = .returned (valV (2, 0, s)) ∧ Below w.heap.size w w' := by
  go_enter Try.func11, Try.ntmps11
  go_wp2
  have hb := Blk.new w 26 #[.int .u8 2, .int .i64 0, .string s]
  have d0 := hb.cell 0
  have d1 := hb.cell 1
  have d2 := hb.cell 2
  refine bodyPost_ret (v := valV (2, 0, s)) ?_ rfl ⟨rfl, (Below.refl _ _).alloc (Nat.le_refl _) _⟩
  simp [results, Try.results11, go_sem, d0, d1, d2]
/-- a row that is written out -/
theorem vals_blk {W : World} {g : Nat} {t : TypeId} {l : List Val} {cs : Array Value} (h : Blk W g t cs) (hc : ∀ (j : Nat) x, l[j]? = some x → cs[j * 3]? = some (.int .u8 x.1) ∧ cs[j * 3 + 1]? = some (.int .i64 x.2.1) ∧ cs[j * 3 + 2]? = some (.string x.2.2)) : Vals W W.heap.size (some ⟨g, 0, none⟩) l := by
  refine .inr ⟨g, 0, rfl, h.lt, fun j x hx => ?_⟩
  obtain ⟨a, b, c⟩ := hc j x hx
  rw [Nat.zero_add]
  exact ⟨(h.cell _).trans a, (h.cell _).trans b, (h.cell _).trans c⟩
def row3 : List Val := [(0, 0, bstr []), (1, 1, bstr []), (2, 0, bstr [97, 98])]
theorem row3_fits : ∀ x ∈ row3, Fits x := by
  intro x hx
  simp only [row3, List.mem_cons, List.mem_nil_iff, or_false] at hx
  rcases hx with rfl | rfl | rfl <;> exact ⟨by decide, by decide, by decide, by decide⟩
theorem row3_rec : recL row3 = [3, 0, 1, 6, 2, 97, 98] := by decide
theorem row3_chk : chkR row3 = 0 := by decide
theorem row3_put : putS row3 = (bstr [3, 0, 1, 6, 2, 97, 98], 0) := by rw [putS_ok row3_chk (by rw [row3_rec]; decide), row3_rec]
theorem row3_take : takeR (bts (bstr [3, 0, 1, 6, 2, 97, 98])) = some row3 := by
  rw [bts_bstr _ (by decide), ← row3_rec]
  exact takeR_put _ row3_fits row3_chk (by rw [row3_rec]; decide)
theorem row3_size : sizeZ row3 = 7 := by unfold sizeZ; rw [if_pos row3_chk, row3_rec]; rfl
def Vw (w : World) (A : Option Addr) (l : List Val) (W : World) : Prop := Vals W W.heap.size A l ∧ Below w.heap.size w W
theorem vw_step {w W W' : World} {A : Option Addr} {l : List Val} (h : Vw w A l W) (hb : Below W.heap.size W W') : Vw w A l W' := ⟨vals_step h.1 hb, bj h.2 hb⟩
theorem vw3 {w W : World} {b o : Nat} (h : Vw w (some ⟨b, o, none⟩) row3 W) : W.cell? ⟨b, o + 6, none⟩ = some (.int .u8 2) ∧ W.cell? ⟨b, o + 7, none⟩ = some (.int .i64 0) ∧ W.cell? ⟨b, o + 8, none⟩ = some (.string ⟨#[97, 98]⟩) := by
  obtain ⟨b', o', he, _, hc⟩ := vals_get h.1 (by simp [row3])
  simp only [Option.some.injEq, Addr.mk.injEq, and_true] at he
  obtain ⟨rfl, rfl⟩ := he
  exact hc 2 (2, 0, bstr [97, 98]) rfl
theorem sv3 {w W W' : World} {b o : Nat} (hb : Below W.heap.size W W') (h : Vw w (some ⟨b, o, none⟩) row3 W) : W'.cell? ⟨b, o + 6, none⟩ = some (.int .u8 2) ∧ W'.cell? ⟨b, o + 7, none⟩ = some (.int .i64 0) ∧ W'.cell? ⟨b, o + 8, none⟩ = some (.string ⟨#[97, 98]⟩) ∧ Vw w (some ⟨b, o, none⟩) row3 W' :=
  have h' := vw_step h hb
  ⟨(vw3 h').1, (vw3 h').2.1, (vw3 h').2.2, h'⟩
set_option maxRecDepth 100000 in
set_option maxHeartbeats 4000000 in
theorem works_any (w : World) : Calls Try.prog 10 #[] w fun e w' => e = .returned (.bool true) ∧ Below w.heap.size w w' := by
  have htx := fun W => text_val ⟨#[97, 98]⟩ W
  have hpt : ∀ (W : World) (g : Nat), Blk W g 26 #[.int .u8 0, .int .i64 0, .string ⟨#[]⟩, .int .u8 1, .int .i64 1, .string ⟨#[]⟩, .int .u8 2, .int .i64 0, .string ⟨#[97, 98]⟩] →
      Calls Try.prog 8 #[.slice (some ⟨g, 0, none⟩) 3 3] W fun e w' => e = .returned (.tuple #[.string ⟨#[3, 0, 1, 6, 2, 97, 98]⟩, .int .i64 0]) ∧ Below W.heap.size W w' := fun W g hB => by
    have h := put_row (some ⟨g, 0, none⟩) row3 3 3 W (vals_blk hB (fun j x hx => by
      match j, hx with
      | 0, hx => simp [row3] at hx; subst hx; exact ⟨rfl, rfl, rfl⟩
      | 1, hx => simp [row3] at hx; subst hx; exact ⟨rfl, rfl, rfl⟩
      | 2, hx => simp [row3] at hx; subst hx; exact ⟨rfl, rfl, rfl⟩
      | j + 3, hx => simp [row3] at hx)) rfl row3_fits
    rw [row3_put] at h
    exact h
  have htk : ∀ W : World, Calls Try.prog 9 #[.string ⟨#[3, 0, 1, 6, 2, 97, 98]⟩] W fun e w' => ∃ b o c, e = .returned (.tuple #[.slice (some ⟨b, o, none⟩) 3 c, .int .i64 0]) ∧ Vals w' w'.heap.size (some ⟨b, o, none⟩) row3 ∧ Below W.heap.size W w' := fun W => by
    refine (rtake_any (bstr [3, 0, 1, 6, 2, 97, 98]) W).mono ?_
    rintro e w' ⟨A, n, c, er, l, rfl, hV, hn, _, _, hb, hh⟩
    rw [row3_take] at hh
    rcases hh with ⟨h, _⟩ | ⟨h, rfl⟩
    · cases h
    · simp only [Option.some.injEq] at h
      subst h
      obtain ⟨b, o, rfl, _, _⟩ := vals_get hV (by simp [row3])
      subst hn
      exact ⟨b, o, c, rfl, hV, hb⟩
  have hsz : ∀ (W : World) (b o c : Nat), Vw w (some ⟨b, o, none⟩) row3 W → Calls Try.prog 13 #[.slice (some ⟨b, o, none⟩) 3 c] W fun e w' => e = .returned (.int .i64 7) ∧ Below W.heap.size W w' := fun W b o c hV => by
    have h := size_row (some ⟨b, o, none⟩) row3 3 c W hV.1 rfl row3_fits
    rw [row3_size] at h
    exact h
  have HTX := Lib.hid htx
  have HPT := Lib.hid hpt
  have HTK := Lib.hid htk
  have HSZ := Lib.hid hsz
  clear htx hpt htk hsz
  go_enter Try.func10, Try.ntmps10
  go_wp2_with fail
  refine (HTX.out _).mono ?_
  rintro e w1 ⟨rfl, hb1⟩
  go_wp2_with fail
  refine (HPT.out _ _ (blk_new _ _ _ _ rfl)).mono ?_
  rintro e w2 ⟨rfl, hb2⟩
  go_wp2_with fail
  refine (HTK.out _).mono ?_
  rintro e w3 ⟨b, o, c, rfl, hV, hb3⟩
  have hbw : Below w.heap.size w w3 := bj (bja _ hb1 hb2) hb3
  have HV := Lib.hid (show Vw w (some ⟨b, o, none⟩) row3 w3 from ⟨hV, hbw⟩)
  clear hV hbw hb1 hb2 hb3
  go_wp2_with fail
  go_region_held3 (fun W => W.cell? ⟨b, o + 6, none⟩ = some (.int .u8 2) ∧ W.cell? ⟨b, o + 7, none⟩ = some (.int .i64 0) ∧ W.cell? ⟨b, o + 8, none⟩ = some (.string ⟨#[97, 98]⟩) ∧ Vw w (some ⟨b, o, none⟩) row3 W)
    (first | exact sv3 (Below.refl _ _).drew HV.out | (go_split_ands; exact sv3 (by assumption) (by assumption)))
    (first
      | (go_at_call 11; (with_reducible refine (HTX.out _).mono ?_); rintro e w5 ⟨rfl, hb5⟩)
      | (go_at_call 13; (with_reducible refine (HSZ.out _ _ _ _ (by go_split_ands; assumption)).mono ?_); rintro e w6 ⟨rfl, hb6⟩))
  all_goals
    rename_i hH
    have hv := Lib.hid hH.2.2.2.2
    clear hH
    go_wp2
    go_ret
    exact ⟨rfl, hv.out⟩
end Go.Proofs.Ytnnadlbimhnikaa
