/- The walk of ValueOrder. Conditions: the numbers fit their kinds; the laid variables hold what they should. -/
import Derived.Test.YtlbalhiiamenfaaDoorLawValRows
import Derived.Test.YtlbalhiiamenfaaDoorValMath
import Derived.Outline
namespace Go.Proofs.YtlbalhiiamenfaaDoor
open Go.RowKit
set_option linter.unusedVariables false
/-- three rows that stand -/
def R3 (w : World) (A : Option Addr) (la : List Val) (B : Option Addr) (lb : List Val) (C : Option Addr) (lc : List Val) (W : World) : Prop := Vals W W.heap.size A la ∧ Vals W W.heap.size B lb ∧ Vals W W.heap.size C lc ∧ Below w.heap.size w W
theorem r3_below {w W W' : World} {A B C : Option Addr} {la lb lc : List Val} (h : R3 w A la B lb C lc W) (hb : Below W.heap.size W W') : R3 w A la B lb C lc W' := ⟨vals_step h.1 hb, vals_step h.2.1 hb, vals_step h.2.2.1 hb, bj h.2.2.2 hb⟩
theorem r3_call {w W : World} {A B C : Option Addr} {la lb lc : List Val} {f : FuncId} {args : Array Value} {v : Value} (h : R3 w A la B lb C lc W) (hc : Calls Tryd.prog f args W fun e w' => e = .returned v ∧ Below W.heap.size W w') : Calls Tryd.prog f args W fun e w' => e = .returned v ∧ R3 w A la B lb C lc w' :=
  hc.mono fun e w' he => ⟨he.1, r3_below h he.2⟩
/-- the value at hand and the one beside it -/
def Qo (w : World) (g : Nat) (x : Val) (b o : Nat) (y : Val) (W : World) : Prop := W.cell? ⟨g, 0, none⟩ = some (.int .u8 x.1) ∧ W.cell? ⟨g, 1, none⟩ = some (.int .i64 x.2.1) ∧ W.cell? ⟨g, 2, none⟩ = some (.string x.2.2) ∧ W.cell? ⟨b, o, none⟩ = some (.int .u8 y.1) ∧ W.cell? ⟨b, o + 1, none⟩ = some (.int .i64 y.2.1) ∧ W.cell? ⟨b, o + 2, none⟩ = some (.string y.2.2) ∧ Below w.heap.size w W
theorem qo_below {w W W' : World} {g b o : Nat} {x y : Val} (h : Qo w g x b o y W) (hb : Below W.heap.size W W') : Qo w g x b o y W' :=
  ⟨cell_bel hb h.1, cell_bel hb h.2.1, cell_bel hb h.2.2.1, cell_bel hb h.2.2.2.1, cell_bel hb h.2.2.2.2.1, cell_bel hb h.2.2.2.2.2.1, bj h.2.2.2.2.2.2 hb⟩
theorem qo_drew {w W : World} {g b o : Nat} {x y : Val} (h : Qo w g x b o y W) : Qo w g x b o y W.drew := ⟨h.1, h.2.1, h.2.2.1, h.2.2.2.1, h.2.2.2.2.1, h.2.2.2.2.2.1, h.2.2.2.2.2.2.drew⟩
theorem qo_S {w W : World} {g b o : Nat} {p q p' q' : Int} {s s' : ByteArray} (h : Qo w g (p, q, s) b o (p', q', s') W) : W.cell? ⟨g, 0, none⟩ = some (.int .u8 p) ∧ W.cell? ⟨g, 1, none⟩ = some (.int .i64 q) ∧ W.cell? ⟨g, 2, none⟩ = some (.string s) ∧ W.cell? ⟨b, o, none⟩ = some (.int .u8 p') ∧ W.cell? ⟨b, o + 1, none⟩ = some (.int .i64 q') ∧ W.cell? ⟨b, o + 2, none⟩ = some (.string s') ∧ Qo w g (p, q, s) b o (p', q', s') W :=
  ⟨h.1, h.2.1, h.2.2.1, h.2.2.2.1, h.2.2.2.2.1, h.2.2.2.2.2.1, h⟩
theorem qo_call {w W : World} {g b o : Nat} {x y : Val} {f : FuncId} {args : Array Value} {v : Value} (h : Qo w g x b o y W) (hc : Calls Tryd.prog f args W fun e w' => e = .returned v ∧ Below W.heap.size W w') : Calls Tryd.prog f args W fun e w' => e = .returned v ∧ Qo w g x b o y w' :=
  hc.mono fun e w' he => ⟨he.1, qo_below h he.2⟩
theorem chk_two {x : Val} (h : ¬ chk x = 0) : chk x = 2 ∨ chk x = 3 := by
  unfold chk at h ⊢
  split
  · exact .inl rfl
  · split
    · exact .inr rfl
    · simp_all
set_option maxRecDepth 100000 in
set_option maxHeartbeats 16000000 in
theorem valueOrder_main (A : Option Addr) (la : List Val) (n c : Nat) (B : Option Addr) (lb : List Val) (k d : Nat) (C : Option Addr) (lc : List Val) (r u : Nat) (x y z : Int) (w : World) (hn : n = la.length) (hn' : k = lb.length) (l1 : n ≤ 100) (l2 : k ≤ 100)
    (hf : ∀ v ∈ la, Fits v) (hf' : ∀ v ∈ lb, Fits v) (hV : Vals w w.heap.size A la) (hV' : Vals w w.heap.size B lb)
    (hx : -1 ≤ x ∧ x ≤ 1) (ht : x ≤ 0 → y ≤ 0 → z ≤ 0 ∧ (z = 0 → x = 0 ∧ y = 0)) (h0 : x = 0 → n = k ∧ ∀ (j : Nat) p q, la[j]? = some p → lb[j]? = some q → valCmp p q = 0)
    (H0 : Hid (R3 w A la B lb C lc w))
    (HW : Hid (∀ W, R3 w A la B lb C lc W → Calls Tryd.prog 18 #[] W fun e w' => e = .returned (.bool true) ∧ R3 w A la B lb C lc w'))
    (HGA : Hid (∀ W, R3 w A la B lb C lc W → Calls Tryd.prog 24 #[.slice A n c] W fun e w' => e = .returned (.bool false) ∧ R3 w A la B lb C lc w'))
    (HGB : Hid (∀ W, R3 w A la B lb C lc W → Calls Tryd.prog 24 #[.slice B k d] W fun e w' => e = .returned (.bool false) ∧ R3 w A la B lb C lc w'))
    (HGC : Hid (∀ W, R3 w A la B lb C lc W → Calls Tryd.prog 24 #[.slice C r u] W fun e w' => e = .returned (.bool false) ∧ R3 w A la B lb C lc w'))
    (HAB : Hid (∀ W, R3 w A la B lb C lc W → Calls Tryd.prog 15 #[.slice A n c, .slice B k d] W fun e w' => e = .returned (.int .i64 x) ∧ R3 w A la B lb C lc w'))
    (HBC : Hid (∀ W, R3 w A la B lb C lc W → Calls Tryd.prog 15 #[.slice B k d, .slice C r u] W fun e w' => e = .returned (.int .i64 y) ∧ R3 w A la B lb C lc w'))
    (HAC : Hid (∀ W, R3 w A la B lb C lc W → Calls Tryd.prog 15 #[.slice A n c, .slice C r u] W fun e w' => e = .returned (.int .i64 z) ∧ R3 w A la B lb C lc w'))
    (HBA : Hid (∀ W, R3 w A la B lb C lc W → Calls Tryd.prog 15 #[.slice B k d, .slice A n c] W fun e w' => e = .returned (.int .i64 (-x)) ∧ R3 w A la B lb C lc w'))
    (HAA : Hid (∀ W, R3 w A la B lb C lc W → Calls Tryd.prog 15 #[.slice A n c, .slice A n c] W fun e w' => e = .returned (.int .i64 0) ∧ R3 w A la B lb C lc w')) :
    Calls Tryd.prog 8 #[.slice A n c, .slice B k d, .slice C r u] w fun e w' => e = .returned (.bool true) ∧ Below w.heap.size w w' := by
  have HA : Hid (0 < n → ∃ b o, A = some ⟨b, o, none⟩ ∧ b < w.heap.size ∧ ∀ (j : Nat) x, la[j]? = some x → w.cell? ⟨b, o + j * 3, none⟩ = some (.int .u8 x.1) ∧ w.cell? ⟨b, o + j * 3 + 1, none⟩ = some (.int .i64 x.2.1) ∧ w.cell? ⟨b, o + j * 3 + 2, none⟩ = some (.string x.2.2)) :=
    Lib.hid fun h => vals_get hV (fun e => by rw [e] at hn; simp at hn; omega)
  have HB : Hid (0 < k → ∃ b o, B = some ⟨b, o, none⟩ ∧ b < w.heap.size ∧ ∀ (j : Nat) x, lb[j]? = some x → w.cell? ⟨b, o + j * 3, none⟩ = some (.int .u8 x.1) ∧ w.cell? ⟨b, o + j * 3 + 1, none⟩ = some (.int .i64 x.2.1) ∧ w.cell? ⟨b, o + j * 3 + 2, none⟩ = some (.string x.2.2)) :=
    Lib.hid fun h => vals_get hV' (fun e => by rw [e] at hn'; simp at hn'; omega)
  have HN := Lib.hid (And.intro hn hn')
  have HF := Lib.hid (And.intro hf hf')
  have HZ := Lib.hid h0
  have HT := Lib.hid ht
  obtain ⟨xa, xb⟩ := hx
  have hnI : (n : Int) ≤ 100 := by omega
  have hkI : (k : Int) ≤ 100 := by omega
  clear hn hn' l1 l2 hf hf' hV hV' h0 ht
  go_enter Tryd.func8, Tryd.ntmps8
  go_wp2_with fail
  refine (HW.out _ H0.out).mono ?_
  rintro e w1 ⟨rfl, h1⟩
  replace h1 := Lib.hid h1
  go_wp2_with fail
  refine (HGA.out _ h1.out).mono ?_
  rintro e w2 ⟨rfl, h2⟩
  replace h2 := Lib.hid h2
  go_wp2_with fail
  refine (HGB.out _ h2.out).mono ?_
  rintro e w3 ⟨rfl, h3⟩
  replace h3 := Lib.hid h3
  go_wp2_with fail
  refine (HGC.out _ h3.out).mono ?_
  rintro e w4 ⟨rfl, h4⟩
  replace h4 := Lib.hid h4
  go_wp2_with fail
  refine (HAB.out _ h4.out).mono ?_
  rintro e w5 ⟨rfl, h5⟩
  replace h5 := Lib.hid h5
  go_wp2_with fail
  refine (HBC.out _ h5.out).mono ?_
  rintro e w6 ⟨rfl, h6⟩
  replace h6 := Lib.hid h6
  go_wp2_with fail
  refine (HAC.out _ h6.out).mono ?_
  rintro e w7 ⟨rfl, h7⟩
  replace h7 := Lib.hid h7
  go_wp2_with fail
  refine (HBA.out _ h7.out).mono ?_
  rintro e w8 ⟨rfl, h8⟩
  replace h8 := Lib.hid h8
  go_wp2_with fail
  refine (HAA.out _ h8.out).mono ?_
  rintro e w9 ⟨rfl, h9⟩
  replace h9 := Lib.hid h9
  clear h1 h2 h3 h4 h5 h6 h7 h8
  go_upto_region 8 with fail
  go_cut [74] (fun s74 wx => s74 = .bool false ∧ wx = w9)
  case first =>
    by_cases x0 : 0 < x
    · go_wp2_with fail
      go_meet
      exact ⟨rfl, rfl⟩
    · have x1 : x ≤ 0 := by omega
      by_cases y0 : 0 < y
      · go_wp2_with fail
        go_meet
        exact ⟨rfl, rfl⟩
      · have y1 : y ≤ 0 := by omega
        obtain ⟨z1, z2⟩ := HT.out x1 y1
        by_cases z0 : z = 0
        · obtain ⟨e1, e2⟩ := z2 z0
          subst z0 e1 e2
          clear x0 y0 x1 y1 z1 z2
          go_wp2_with fail
          go_meet
          exact ⟨rfl, rfl⟩
        · have z3 := beq_no z0
          have z4 : decide (0 < z) = false := by rw [decide_eq_false_iff_not]; omega
          clear z2 z0
          go_wp2_with fail
          go_meet
          exact ⟨by first | rfl | rw [z4], rfl⟩
  case rest =>
    obtain ⟨rfl, rfl⟩ := hcut
    by_cases x0 : x = 0
    · subst x0
      obtain ⟨hnk, hj0⟩ := HZ.out rfl
      subst hnk
      have HJ := Lib.hid hj0
      clear hj0 HZ HT
      have hnn : ((n : Int) != n) = false := by simp
      go_wp2
      go_loopw [84] (fun i wr => ∃ j : Nat, j ≤ n ∧ i = .int .i64 j ∧ Below w.heap.size w wr) (fun i _ => n - (intOf i).toNat)
      case atStart => exact ⟨0, by omega, rfl, h9.out.2.2.2⟩
      case round =>
        obtain ⟨j, hj, rfl, hb⟩ := hrel
        by_cases hjn : j < n
        · obtain ⟨b1, o1, rfl, m1, q1⟩ := HA.out (by omega)
          obtain ⟨b2, o2, rfl, m2, q2⟩ := HB.out (by omega)
          have hjl : j < la.length := by have := HN.out.1; omega
          have hjl' : j < lb.length := by have := HN.out.2; omega
          obtain ⟨a1, a2, a3⟩ := q1 j la[j] (List.getElem?_eq_getElem hjl)
          obtain ⟨a4, a5, a6⟩ := q2 j lb[j] (List.getElem?_eq_getElem hjl')
          have hv0 := HJ.out j _ _ (List.getElem?_eq_getElem hjl) (List.getElem?_eq_getElem hjl')
          have hfx := HF.out.1 _ (List.getElem_mem hjl)
          have hfy := HF.out.2 _ (List.getElem_mem hjl')
          have c1 := (hb.cell (p := ⟨b1, o1 + j * 3, none⟩) m1).trans a1
          have c2 := (hb.cell (p := ⟨b1, o1 + j * 3 + 1, none⟩) m1).trans a2
          have c3 := (hb.cell (p := ⟨b1, o1 + j * 3 + 2, none⟩) m1).trans a3
          have c4 := (hb.cell (p := ⟨b2, o2 + j * 3, none⟩) m2).trans a4
          have c5 := (hb.cell (p := ⟨b2, o2 + j * 3 + 1, none⟩) m2).trans a5
          have c6 := (hb.cell (p := ⟨b2, o2 + j * 3 + 2, none⟩) m2).trans a6
          generalize la[j] = X at *
          generalize lb[j] = Y at *
          have hk := Blk.new wr 24 (valC X)
          have hba : Below wr.heap.size wr (wr.alloc (.cells (valC X) 24)) := one_alloc
          have hq : Qo w wr.heap.size X b2 (o2 + j * 3) Y (wr.alloc (.cells (valC X) 24)) := ⟨hk.cell 0, hk.cell 1, hk.cell 2, cell_bel hba c4, cell_bel hba c5, cell_bel hba c6, bj hb hba⟩
          have hcx := fun W (h : Qo w wr.heap.size X b2 (o2 + j * 3) Y W) => qo_call h (check_any X W hfx)
          have hcy := fun W (h : Qo w wr.heap.size X b2 (o2 + j * 3) Y W) => qo_call h (check_any Y W hfy)
          have hsame := val_same hv0
          have hI1 : (j : Int) < n := by omega
          have hI0 : (0 : Int) ≤ j := by omega
          have hs := qo_drew hq
          obtain ⟨p, q, s⟩ := X
          obtain ⟨p', q', t⟩ := Y
          simp only at c1 c2 c3
          by_cases ex : chk (p, q, s) = 0
          · rw [ex] at hcx
            have HCX := Lib.hid hcx
            by_cases ey : chk (p', q', t) = 0
            · rw [ey] at hcy
              have HCY := Lib.hid hcy
              have es := hsame ex ey
              simp only [Prod.mk.injEq] at es
              obtain ⟨rfl, rfl, rfl⟩ := es
              clear ex ey hcx hcy hsame hv0 hfx hfy a1 a2 a3 a4 a5 a6 q1 q2 hjl hjl' c4 c5 c6 hk hba hq
              go_wp2_with fail
              go_region_held3 (fun W => W.cell? ⟨wr.heap.size, 0, none⟩ = some (.int .u8 p) ∧ W.cell? ⟨wr.heap.size, 1, none⟩ = some (.int .i64 q) ∧ W.cell? ⟨wr.heap.size, 2, none⟩ = some (.string s) ∧ W.cell? ⟨b2, o2 + j * 3, none⟩ = some (.int .u8 p) ∧ W.cell? ⟨b2, o2 + j * 3 + 1, none⟩ = some (.int .i64 q) ∧ W.cell? ⟨b2, o2 + j * 3 + 2, none⟩ = some (.string s) ∧ Qo w wr.heap.size (p, q, s) b2 (o2 + j * 3) (p, q, s) W)
                (exact qo_S (by assumption))
                (first | (go_at_call 20; (with_reducible refine (HCX.out _ (by assumption)).mono ?_); rintro e w3 ⟨rfl, hs⟩))
              all_goals
                go_wp2
                go_roundw
                case rel => exact ⟨j + 1, by omega, by go_num, hs.2.2.2.2.2.2⟩
                case measure => simp [intOf]; omega
            · have ey' := beq_no ey
              generalize chk (p', q', t) = EY at *
              have HCY := Lib.hid hcy
              clear ex ey hcx hcy hsame hv0 hfx hfy a1 a2 a3 a4 a5 a6 q1 q2 hjl hjl' c4 c5 c6 hk hba hq
              go_wp2_with fail
              obtain ⟨d0, d1, d2, d3, d4, d5, _⟩ := qo_S hs
              have HS := Lib.hid hs
              clear hs
              first
                | (go_region_with (first
                  | (go_at_call 20; (with_reducible refine (HCX.out _ (by first | exact HS.out | exact qo_drew HS.out)).mono ?_); rintro e w3 ⟨rfl, hs⟩; obtain ⟨d0, d1, d2, d3, d4, d5, _⟩ := qo_S hs; have HS := Lib.hid hs; clear hs)
                  | (go_at_call 20; (with_reducible refine (HCY.out _ (by first | exact HS.out | exact qo_drew HS.out)).mono ?_); rintro e w3 ⟨rfl, hs⟩; have HS := Lib.hid hs; clear hs)))
                | fail
              all_goals
                go_wp2
                go_roundw
                case rel => exact ⟨j + 1, by omega, by go_num, HS.out.2.2.2.2.2.2⟩
                case measure => simp [intOf]; omega
          · have ex' := beq_no ex
            generalize chk (p, q, s) = EX at *
            have HCX := Lib.hid hcx
            clear ex hcx hcy hsame hv0 hfx hfy a1 a2 a3 a4 a5 a6 q1 q2 hjl hjl' c4 c5 c6 hk hba hq
            go_wp2_with fail
            obtain ⟨d0, d1, d2, d3, d4, d5, _⟩ := qo_S hs
            have HS := Lib.hid hs
            clear hs
            first
              | (go_region_with (go_at_call 20; (with_reducible refine (HCX.out _ (by first | exact HS.out | exact qo_drew HS.out)).mono ?_); rintro e w3 ⟨rfl, hs⟩; have HS := Lib.hid hs; clear hs))
              | fail
            all_goals
              go_wp2
              go_roundw
              case rel => exact ⟨j + 1, by omega, by go_num, HS.out.2.2.2.2.2.2⟩
              case measure => simp [intOf]; omega
        · obtain rfl : j = n := by omega
          go_wp2
          go_ret
          exact ⟨rfl, hb⟩
    · have x1 : (x != 0) = true := by rw [bne_iff_ne]; exact x0
      clear x0
      go_wp2
      go_ret
      exact ⟨rfl, h9.out.2.2.2⟩
end Go.Proofs.YtlbalhiiamenfaaDoor
