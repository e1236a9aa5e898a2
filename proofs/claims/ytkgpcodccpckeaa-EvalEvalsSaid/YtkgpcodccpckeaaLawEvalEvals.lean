/- The walk of EvalEvals. Conditions: how its arguments lie in memory. -/
import Derived.Test.YtkgpcodccpckeaaEt16
import Derived.Test.YtkgpcodccpckeaaOpenRow
import Derived.Test.YtkgpcodccpckeaaEv12
import Derived.Test.YtkgpcodccpckeaaFacts
import Derived.Deep.CutBlock
import Derived.OrdersHeld
import Derived.Deep.RegionHeld3
namespace Go.Proofs.Ytkgpcodccpckeaa
open Go Go.RowKit
set_option linter.unusedVariables false
set_option linter.unusedSimpArgs false
/-- what stands behind both calls: the expression's box, both values -/
def Tev (w : World) (x : Ex) (g g' : Nat) (v : Val) (W : World) : Prop := Bx w x W ∧ Blk W g 23 (valC v) ∧ Blk W g' 23 (valC v)
theorem tev_below {w W W' : World} {x : Ex} {g g' : Nat} {v : Val} (h : Tev w x g g' v W) (hb : Below W.heap.size W W') : Tev w x g g' v W' := ⟨bx_below h.1 hb, blk_step h.2.1 hb, blk_step h.2.2 hb⟩
theorem tev_drew {w W : World} {x : Ex} {g g' : Nat} {v : Val} (h : Tev w x g g' v W) : Tev w x g g' v W.drew := ⟨⟨h.1.1.drew, h.1.2.drew⟩, h.2.1.drew, h.2.2.drew⟩
theorem tev_S {w W : World} {x : Ex} {g g' : Nat} {k q : Int} {s : ByteArray} (h : Tev w x g g' (k, q, s) W) : W.cell? ⟨g, 0, none⟩ = some (.int .u8 k) ∧ W.cell? ⟨g, 1, none⟩ = some (.int .i64 q) ∧ W.cell? ⟨g, 2, none⟩ = some (.string s) ∧ W.cell? ⟨g', 0, none⟩ = some (.int .u8 k) ∧ W.cell? ⟨g', 1, none⟩ = some (.int .i64 q) ∧ W.cell? ⟨g', 2, none⟩ = some (.string s) :=
  ⟨h.2.1.cell 0, h.2.1.cell 1, h.2.1.cell 2, h.2.2.cell 0, h.2.2.cell 1, h.2.2.cell 2⟩
def mkev (g : Nat) (r1 r2 re : Int) (r3 : ByteArray) : Nat → Nat → Nat → Nat → Value
  | 0, _, _, _ => .agg #[.int .u8 r1, .int .i64 r2, .string r3]
  | 1, _, _, _ => .agg #[.int .u8 r1, .int .i64 r2, .string r3]
  | 2, _, _, _ => .bool true
  | 3, _, _, _ => .bool true
  | 4, _, _, _ => .int .i64 re
  | 5, _, _, _ => .int .i64 re
  | 6, _, _, _ => .bool true
  | 7, _, _, _ => .bool true
  | 8, _, _, _ => .bool true
  | 9, _, _, _ => .agg #[.int .u8 r1, .int .i64 r2, .string r3]
  | 10, _, _, _ => .bool false
  | 11, _, _, _ => .pointer (some ⟨g, 0, none⟩)
  | 12, _, _, _ => .int .u8 r1
  | 13, _, _, _ => .bool false
  | 14, _, _, _ => .bool false
  | 15, _, _, _ => undef
  | 16, _, _, _ => undef
  | 17, _, _, _ => undef
  | 18, _, _, _ => .bool false
  | 19, _, _, _ => .bool true
  | 20, _, _, _ => .bool true
  | 21, _, _, _ => .bool true
  | _, _, _, _ => .bool false
def D4ev : Nat → List Nat
  | 2 => [0, 1]
  | 3 => [2]
  | 4 => [3]
  | 5 => [3]
  | 6 => [3, 4, 5]
  | 7 => [3, 6]
  | 8 => [7]
  | 9 => [8]
  | 10 => [8, 9]
  | 11 => [8]
  | 12 => [8, 11]
  | 13 => [8, 12]
  | 14 => [8, 13]
  | 15 => [14]
  | 16 => [14, 15]
  | 17 => [14, 16]
  | 18 => [8, 14, 17]
  | 19 => [8, 10, 18]
  | 20 => [8, 19]
  | 21 => [20]
  | _ => []
set_option maxRecDepth 100000 in
set_option maxHeartbeats 8000000 in
theorem evals_walk (op vk vn : Int) (vs tb nm : ByteArray) (n : Int) (A : Option Addr) (m c : Nat) (RA : Option Addr) (rn rc : Nat) (z : Nat) (r1 r2 re : Int) (r3 : ByteArray) (w : World)
    (HS : Hid (∀ W : World, Below w.heap.size w W → Calls Try.prog 22 #[exV ⟨op, (vk, vn, vs), tb, nm, n, A, m, c⟩, .int .i64 0] W fun e w' => e = .returned (.int .i64 z) ∧ Below W.heap.size W w'))
    (HG : Hid (∀ (g : Nat) (t : TypeId) (W : World), Below w.heap.size w W → Blk W g t #[.slice RA rn rc] → Calls Try.prog 24 #[.slice (some ⟨g, 0, none⟩) 1 1] W fun e w' => ∃ B : Bool, e = .returned (.bool B) ∧ (B = false → rn ≤ 40) ∧ Below W.heap.size W w'))
    (HE : Hid (rn ≤ 40 → ∀ W : World, Below w.heap.size w W → Calls Try.prog 15 #[exV ⟨op, (vk, vn, vs), tb, nm, n, A, m, c⟩, .slice RA rn rc] W fun e w' => e = .returned (.tuple #[.agg #[.int .u8 r1, .int .i64 r2, .string r3], .int .i64 re]) ∧ Below W.heap.size W w'))
    (HR : Hid (z ≤ 300 → ∀ W : World, Below w.heap.size w W → Calls Try.prog 25 #[exV ⟨op, (vk, vn, vs), tb, nm, n, A, m, c⟩, .slice RA rn rc] W fun e w' => e = .returned (.tuple #[.agg #[.int .u8 r1, .int .i64 r2, .string r3], .int .i64 re]) ∧ Below W.heap.size W w')) :
    Calls Try.prog 5 #[exV ⟨op, (vk, vn, vs), tb, nm, n, A, m, c⟩, .slice RA rn rc] w fun e w' => e = .returned (.bool true) ∧ Below w.heap.size w w' := by
  have HB := Lib.hid (bx_new w ⟨op, (vk, vn, vs), tb, nm, n, A, m, c⟩)
  by_cases hz : 300 < z
  · have hzI : decide (300 < (z : Int)) = true := decide_eq_true (by omega)
    clear hz HR HE HG
    go_enter Try.func5, Try.ntmps5
    go_wp2_with fail
    refine (works15 _).mono ?_
    rintro e w1 ⟨rfl, hb1⟩
    have HB1 := Lib.hid (bx_below HB.out hb1)
    obtain ⟨c0, c1, c2, c3, c4, c5, c6, c7⟩ := bx_cells (bx_below HB.out hb1)
    clear hb1
    go_wp2_with fail
    refine (HS.out _ HB1.out.2).mono ?_
    rintro e w2 ⟨rfl, hb2⟩
    have HB2 := Lib.hid (bx_below HB1.out hb2)
    clear hb2
    go_wp2
    go_ret
    exact ⟨rfl, HB2.out.2⟩
  · have hzI : decide (300 < (z : Int)) = false := decide_eq_false (by omega)
    have HR2 := Lib.hid (HR.out (by omega))
    clear hz HR
    go_enter Try.func5, Try.ntmps5
    go_wp2_with fail
    refine (works15 _).mono ?_
    rintro e w1 ⟨rfl, hb1⟩
    have HB1 := Lib.hid (bx_below HB.out hb1)
    obtain ⟨c0, c1, c2, c3, c4, c5, c6, c7⟩ := bx_cells (bx_below HB.out hb1)
    clear hb1
    go_wp2_with fail
    refine (HS.out _ HB1.out.2).mono ?_
    rintro e w2 ⟨rfl, hb2⟩
    have HB2 := Lib.hid (bx_below HB1.out hb2)
    clear hb2 c0 c1 c2 c3 c4 c5 c6 c7
    go_wp2_with fail
    refine (HG.out _ _ _ (bx_below HB2.out one_alloc).2 (Blk.new _ _ _)).mono ?_
    rintro e w3 ⟨B, rfl, hB, hb3⟩
    have HB3 := Lib.hid (bx_below (bx_below HB2.out one_alloc) hb3)
    clear hb3
    cases B
    case' true =>
      clear hB
      go_wp2
      go_ret
      exact ⟨rfl, HB3.out.2⟩
    have HE2 := Lib.hid (HE.out (hB rfl))
    clear hB HE
    obtain ⟨c0, c1, c2, c3, c4, c5, c6, c7⟩ := bx_cells HB3.out
    go_wp2_with fail
    refine (HE2.out _ HB3.out.2).mono ?_
    rintro e w4 ⟨rfl, hb4⟩
    have HB4 := Lib.hid (bx_below (bx_below HB3.out hb4) (one_alloc (o := .cells (valC (r1, r2, r3)) 23)))
    have HV4 := Lib.hid (Blk.new w4 23 (valC (r1, r2, r3)))
    clear hb4 c0 c1 c2 c3 c4 c5 c6 c7
    obtain ⟨c0, c1, c2, c3, c4, c5, c6, c7⟩ := bx_cells HB4.out
    go_wp2_with fail
    refine (HR2.out _ HB4.out.2).mono ?_
    rintro e w5 ⟨rfl, hb5⟩
    have HT := Lib.hid (show Tev w ⟨op, (vk, vn, vs), tb, nm, n, A, m, c⟩ w4.heap.size w5.heap.size (r1, r2, r3) (w5.alloc (.cells (valC (r1, r2, r3)) 23)) from ⟨bx_below (bx_below HB4.out hb5) one_alloc, blk_step (blk_step HV4.out hb5) one_alloc, Blk.new _ _ _⟩)
    clear hb5 c0 c1 c2 c3 c4 c5 c6 c7 HB HB1 HB2 HB3 HB4 HV4 HS HG HE2 HR2
    have HTR := Lib.hid (fun W (h : Tev w ⟨op, (vk, vn, vs), tb, nm, n, A, m, c⟩ w4.heap.size w5.heap.size (r1, r2, r3) W) => (vtrue_any (r1, r2, r3) W).mono fun e w' he => And.intro he.1 (tev_below h he.2))
    have hs := tev_drew HT.out
    by_cases h1 : r1 = 1
    · subst h1
      by_cases h2 : r2 = 0
      · subst h2
        rw [show trueB (1, 0, r3) = false from rfl] at HTR
        go_wp2_with fail
        go_region_held3 (fun W => W.cell? ⟨w4.heap.size, 0, none⟩ = some (.int .u8 1) ∧ W.cell? ⟨w4.heap.size, 1, none⟩ = some (.int .i64 0) ∧ W.cell? ⟨w4.heap.size, 2, none⟩ = some (.string r3) ∧ W.cell? ⟨w5.heap.size, 0, none⟩ = some (.int .u8 1) ∧ W.cell? ⟨w5.heap.size, 1, none⟩ = some (.int .i64 0) ∧ W.cell? ⟨w5.heap.size, 2, none⟩ = some (.string r3))
          (with_reducible exact tev_S (by assumption))
          ((go_at_call 26; (with_reducible refine (HTR.out _ (by assumption)).mono ?_); rintro e w6 ⟨rfl, hs⟩))
        all_goals
          go_wp2
          go_ret
          exact ⟨rfl, hs.1.2⟩
      · have hb2 : (r2 != 0) = true := by simp [bne, h2]
        rw [show trueB (1, r2, r3) = true by simp [trueB, h2]] at HTR
        clear h2
        go_wp2_with fail
        go_region_held3 (fun W => W.cell? ⟨w4.heap.size, 0, none⟩ = some (.int .u8 1) ∧ W.cell? ⟨w4.heap.size, 1, none⟩ = some (.int .i64 r2) ∧ W.cell? ⟨w4.heap.size, 2, none⟩ = some (.string r3) ∧ W.cell? ⟨w5.heap.size, 0, none⟩ = some (.int .u8 1) ∧ W.cell? ⟨w5.heap.size, 1, none⟩ = some (.int .i64 r2) ∧ W.cell? ⟨w5.heap.size, 2, none⟩ = some (.string r3))
          (with_reducible exact tev_S (by assumption))
          ((go_at_call 26; (with_reducible refine (HTR.out _ (by assumption)).mono ?_); rintro e w6 ⟨rfl, hs⟩))
        all_goals
          go_wp2
          go_ret
          exact ⟨rfl, hs.1.2⟩
    · have hb1 := beq_no h1
      have htb := fun W => vtrue_any (r1, r2, r3) W
      rw [show trueB (r1, r2, r3) = false by simp [trueB, h1]] at htb
      have HTB := Lib.hid htb
      clear h1 htb HTR
      have HD := Lib.hid hs
      clear hs
      go_upto_region 7 with fail
      refine wp_region_noPanic ?_
      refine wp_region_any (by kernel_rfl) ?_
      refine facts_start (0 :: 1 :: 2 :: 3 :: 4 :: 5 :: 6 :: 7 :: 8 :: 9 :: 10 :: 11 :: 12 :: 13 :: 14 :: 15 :: 16 :: 17 :: 18 :: 19 :: 20 :: 21 :: []) [] D4ev (Ft (mkev w4.heap.size r1 r2 re r3) (fun _ _ _ _ => [])) _ _ _ 0 _ #[true, true, true, true, true, true, true, true, true, true, true, true, true, true, true, true, true, true, true, true, true, true] (by kernel_rfl) (by rfl) ft_step no_al' ?hstep ?hend
      case hstep =>
        intro i hi x W hd hb K hK
        have hs := tev_below HD.out hb
        simp only [List.mem_cons, List.not_mem_nil, or_false] at hi
        rcases hi with rfl | rfl | rfl | rfl | rfl | rfl | rfl | rfl | rfl | rfl | rfl | rfl | rfl | rfl | rfl | rfl | rfl | rfl | rfl | rfl | rfl | rfl
        · generalize hA : putsA _ _ x (0 :: 1 :: 2 :: 3 :: 4 :: 5 :: 6 :: 7 :: 8 :: 9 :: 10 :: 11 :: 12 :: 13 :: 14 :: 15 :: 16 :: 17 :: 18 :: 19 :: 20 :: 21 :: []) = A at *
          have e5 : A.tmps[5]? = some (.pointer (some ⟨w4.heap.size, 0, none⟩)) := by rw [← hA]; exact putsA_at 5 _ (by decide +kernel)
          clear hA hd
          obtain ⟨d0, d1, d2, d3, d4, d5⟩ := tev_S hs
          refine wpOp_step rfl (fun K' hK' => ?_)
          go_simp
          exact hK' _ _ (hK _ _ ⟨0, 0, 0, rfl, al0⟩ (Below.refl _ _) no_al)
        · generalize hA : putsA _ _ x (0 :: 1 :: 2 :: 3 :: 4 :: 5 :: 6 :: 7 :: 8 :: 9 :: 10 :: 11 :: 12 :: 13 :: 14 :: 15 :: 16 :: 17 :: 18 :: 19 :: 20 :: 21 :: []) = A at *
          have e7 : A.tmps[7]? = some (.pointer (some ⟨w5.heap.size, 0, none⟩)) := by rw [← hA]; exact putsA_at 7 _ (by decide +kernel)
          clear hA hd
          obtain ⟨d0, d1, d2, d3, d4, d5⟩ := tev_S hs
          refine wpOp_step rfl (fun K' hK' => ?_)
          go_simp
          exact hK' _ _ (hK _ _ ⟨0, 0, 0, rfl, al0⟩ (Below.refl _ _) no_al)
        · generalize hA : putsA _ _ x (0 :: 1 :: 2 :: 3 :: 4 :: 5 :: 6 :: 7 :: 8 :: 9 :: 10 :: 11 :: 12 :: 13 :: 14 :: 15 :: 16 :: 17 :: 18 :: 19 :: 20 :: 21 :: []) = A at *
          have e31 : A.tmps[31]? = some (x 0) := by rw [← hA]; exact putsA_in (i := 0) 31 (by rfl) (by show (31 : Nat) < 52; decide) _ (by decide +kernel) (by decide)
          obtain ⟨_, _, _, f0, _⟩ := hd 0 (by decide)
          replace f0 : x 0 = .agg #[.int .u8 r1, .int .i64 r2, .string r3] := f0
          rw [f0] at e31
          have e32 : A.tmps[32]? = some (x 1) := by rw [← hA]; exact putsA_in (i := 1) 32 (by rfl) (by show (32 : Nat) < 52; decide) _ (by decide +kernel) (by decide)
          obtain ⟨_, _, _, f1, _⟩ := hd 1 (by decide)
          replace f1 : x 1 = .agg #[.int .u8 r1, .int .i64 r2, .string r3] := f1
          rw [f1] at e32
          clear hA hd
          refine wpOp_step rfl (fun K' hK' => ?_)
          go_simp
          exact hK' _ _ (hK _ _ ⟨0, 0, 0, rfl, al0⟩ (Below.refl _ _) no_al)
        · generalize hA : putsA _ _ x (0 :: 1 :: 2 :: 3 :: 4 :: 5 :: 6 :: 7 :: 8 :: 9 :: 10 :: 11 :: 12 :: 13 :: 14 :: 15 :: 16 :: 17 :: 18 :: 19 :: 20 :: 21 :: []) = A at *
          have e33 : A.tmps[33]? = some (x 2) := by rw [← hA]; exact putsA_in (i := 2) 33 (by rfl) (by show (33 : Nat) < 52; decide) _ (by decide +kernel) (by decide)
          obtain ⟨_, _, _, f2, _⟩ := hd 2 (by decide)
          replace f2 : x 2 = .bool true := f2
          rw [f2] at e33
          clear hA hd
          refine wpOp_step rfl (fun K' hK' => ?_)
          go_simp
          exact hK' _ _ (hK _ _ ⟨0, 0, 0, rfl, al0⟩ (Below.refl _ _) no_al)
        · generalize hA : putsA _ _ x (0 :: 1 :: 2 :: 3 :: 4 :: 5 :: 6 :: 7 :: 8 :: 9 :: 10 :: 11 :: 12 :: 13 :: 14 :: 15 :: 16 :: 17 :: 18 :: 19 :: 20 :: 21 :: []) = A at *
          have e6 : A.tmps[6]? = some (.int .i64 re) := by rw [← hA]; exact putsA_at 6 _ (by decide +kernel)
          have e34 : A.tmps[34]? = some (x 3) := by rw [← hA]; exact putsA_in (i := 3) 34 (by rfl) (by show (34 : Nat) < 52; decide) _ (by decide +kernel) (by decide)
          obtain ⟨_, _, _, f3, _⟩ := hd 3 (by decide)
          replace f3 : x 3 = .bool true := f3
          rw [f3] at e34
          clear hA hd
          refine wpOp_step rfl (fun K' hK' => ?_)
          go_simp
          exact hK' _ _ (hK _ _ ⟨0, 0, 0, rfl, al0⟩ (Below.refl _ _) no_al)
        · generalize hA : putsA _ _ x (0 :: 1 :: 2 :: 3 :: 4 :: 5 :: 6 :: 7 :: 8 :: 9 :: 10 :: 11 :: 12 :: 13 :: 14 :: 15 :: 16 :: 17 :: 18 :: 19 :: 20 :: 21 :: []) = A at *
          have e8 : A.tmps[8]? = some (.int .i64 re) := by rw [← hA]; exact putsA_at 8 _ (by decide +kernel)
          have e34 : A.tmps[34]? = some (x 3) := by rw [← hA]; exact putsA_in (i := 3) 34 (by rfl) (by show (34 : Nat) < 52; decide) _ (by decide +kernel) (by decide)
          obtain ⟨_, _, _, f3, _⟩ := hd 3 (by decide)
          replace f3 : x 3 = .bool true := f3
          rw [f3] at e34
          clear hA hd
          refine wpOp_step rfl (fun K' hK' => ?_)
          go_simp
          exact hK' _ _ (hK _ _ ⟨0, 0, 0, rfl, al0⟩ (Below.refl _ _) no_al)
        · generalize hA : putsA _ _ x (0 :: 1 :: 2 :: 3 :: 4 :: 5 :: 6 :: 7 :: 8 :: 9 :: 10 :: 11 :: 12 :: 13 :: 14 :: 15 :: 16 :: 17 :: 18 :: 19 :: 20 :: 21 :: []) = A at *
          have e34 : A.tmps[34]? = some (x 3) := by rw [← hA]; exact putsA_in (i := 3) 34 (by rfl) (by show (34 : Nat) < 52; decide) _ (by decide +kernel) (by decide)
          obtain ⟨_, _, _, f3, _⟩ := hd 3 (by decide)
          replace f3 : x 3 = .bool true := f3
          rw [f3] at e34
          have e35 : A.tmps[35]? = some (x 4) := by rw [← hA]; exact putsA_in (i := 4) 35 (by rfl) (by show (35 : Nat) < 52; decide) _ (by decide +kernel) (by decide)
          obtain ⟨_, _, _, f4, _⟩ := hd 4 (by decide)
          replace f4 : x 4 = .int .i64 re := f4
          rw [f4] at e35
          have e36 : A.tmps[36]? = some (x 5) := by rw [← hA]; exact putsA_in (i := 5) 36 (by rfl) (by show (36 : Nat) < 52; decide) _ (by decide +kernel) (by decide)
          obtain ⟨_, _, _, f5, _⟩ := hd 5 (by decide)
          replace f5 : x 5 = .int .i64 re := f5
          rw [f5] at e36
          clear hA hd
          refine wpOp_step rfl (fun K' hK' => ?_)
          go_simp
          exact hK' _ _ (hK _ _ ⟨0, 0, 0, rfl, al0⟩ (Below.refl _ _) no_al)
        · generalize hA : putsA _ _ x (0 :: 1 :: 2 :: 3 :: 4 :: 5 :: 6 :: 7 :: 8 :: 9 :: 10 :: 11 :: 12 :: 13 :: 14 :: 15 :: 16 :: 17 :: 18 :: 19 :: 20 :: 21 :: []) = A at *
          have e34 : A.tmps[34]? = some (x 3) := by rw [← hA]; exact putsA_in (i := 3) 34 (by rfl) (by show (34 : Nat) < 52; decide) _ (by decide +kernel) (by decide)
          obtain ⟨_, _, _, f3, _⟩ := hd 3 (by decide)
          replace f3 : x 3 = .bool true := f3
          rw [f3] at e34
          have e37 : A.tmps[37]? = some (x 6) := by rw [← hA]; exact putsA_in (i := 6) 37 (by rfl) (by show (37 : Nat) < 52; decide) _ (by decide +kernel) (by decide)
          obtain ⟨_, _, _, f6, _⟩ := hd 6 (by decide)
          replace f6 : x 6 = .bool true := f6
          rw [f6] at e37
          clear hA hd
          refine wpOp_step rfl (fun K' hK' => ?_)
          go_simp
          exact hK' _ _ (hK _ _ ⟨0, 0, 0, rfl, al0⟩ (Below.refl _ _) no_al)
        · generalize hA : putsA _ _ x (0 :: 1 :: 2 :: 3 :: 4 :: 5 :: 6 :: 7 :: 8 :: 9 :: 10 :: 11 :: 12 :: 13 :: 14 :: 15 :: 16 :: 17 :: 18 :: 19 :: 20 :: 21 :: []) = A at *
          have e38 : A.tmps[38]? = some (x 7) := by rw [← hA]; exact putsA_in (i := 7) 38 (by rfl) (by show (38 : Nat) < 52; decide) _ (by decide +kernel) (by decide)
          obtain ⟨_, _, _, f7, _⟩ := hd 7 (by decide)
          replace f7 : x 7 = .bool true := f7
          rw [f7] at e38
          clear hA hd
          refine wpOp_step rfl (fun K' hK' => ?_)
          go_simp
          exact hK' _ _ (hK _ _ ⟨0, 0, 0, rfl, al0⟩ (Below.refl _ _) no_al)
        · generalize hA : putsA _ _ x (0 :: 1 :: 2 :: 3 :: 4 :: 5 :: 6 :: 7 :: 8 :: 9 :: 10 :: 11 :: 12 :: 13 :: 14 :: 15 :: 16 :: 17 :: 18 :: 19 :: 20 :: 21 :: []) = A at *
          have e5 : A.tmps[5]? = some (.pointer (some ⟨w4.heap.size, 0, none⟩)) := by rw [← hA]; exact putsA_at 5 _ (by decide +kernel)
          have e39 : A.tmps[39]? = some (x 8) := by rw [← hA]; exact putsA_in (i := 8) 39 (by rfl) (by show (39 : Nat) < 52; decide) _ (by decide +kernel) (by decide)
          obtain ⟨_, _, _, f8, _⟩ := hd 8 (by decide)
          replace f8 : x 8 = .bool true := f8
          rw [f8] at e39
          clear hA hd
          obtain ⟨d0, d1, d2, d3, d4, d5⟩ := tev_S hs
          refine wpOp_step rfl (fun K' hK' => ?_)
          go_simp
          exact hK' _ _ (hK _ _ ⟨0, 0, 0, rfl, al0⟩ (Below.refl _ _) no_al)
        · generalize hA : putsA _ _ x (0 :: 1 :: 2 :: 3 :: 4 :: 5 :: 6 :: 7 :: 8 :: 9 :: 10 :: 11 :: 12 :: 13 :: 14 :: 15 :: 16 :: 17 :: 18 :: 19 :: 20 :: 21 :: []) = A at *
          have e39 : A.tmps[39]? = some (x 8) := by rw [← hA]; exact putsA_in (i := 8) 39 (by rfl) (by show (39 : Nat) < 52; decide) _ (by decide +kernel) (by decide)
          obtain ⟨_, _, _, f8, _⟩ := hd 8 (by decide)
          replace f8 : x 8 = .bool true := f8
          rw [f8] at e39
          have e40 : A.tmps[40]? = some (x 9) := by rw [← hA]; exact putsA_in (i := 9) 40 (by rfl) (by show (40 : Nat) < 52; decide) _ (by decide +kernel) (by decide)
          obtain ⟨_, _, _, f9, _⟩ := hd 9 (by decide)
          replace f9 : x 9 = .agg #[.int .u8 r1, .int .i64 r2, .string r3] := f9
          rw [f9] at e40
          clear hA hd
          refine wpOp_step rfl (fun K' hK' => ?_)
          go_simp
          refine (HTB.out _).mono ?_
          rintro e w6 ⟨rfl, hb6⟩
          exact hK' _ _ (hK _ _ ⟨0, 0, 0, rfl, al0⟩ hb6 no_al)
        · generalize hA : putsA _ _ x (0 :: 1 :: 2 :: 3 :: 4 :: 5 :: 6 :: 7 :: 8 :: 9 :: 10 :: 11 :: 12 :: 13 :: 14 :: 15 :: 16 :: 17 :: 18 :: 19 :: 20 :: 21 :: []) = A at *
          have e5 : A.tmps[5]? = some (.pointer (some ⟨w4.heap.size, 0, none⟩)) := by rw [← hA]; exact putsA_at 5 _ (by decide +kernel)
          have e39 : A.tmps[39]? = some (x 8) := by rw [← hA]; exact putsA_in (i := 8) 39 (by rfl) (by show (39 : Nat) < 52; decide) _ (by decide +kernel) (by decide)
          obtain ⟨_, _, _, f8, _⟩ := hd 8 (by decide)
          replace f8 : x 8 = .bool true := f8
          rw [f8] at e39
          clear hA hd
          refine wpOp_step rfl (fun K' hK' => ?_)
          go_simp
          exact hK' _ _ (hK _ _ ⟨0, 0, 0, rfl, al0⟩ (Below.refl _ _) no_al)
        · generalize hA : putsA _ _ x (0 :: 1 :: 2 :: 3 :: 4 :: 5 :: 6 :: 7 :: 8 :: 9 :: 10 :: 11 :: 12 :: 13 :: 14 :: 15 :: 16 :: 17 :: 18 :: 19 :: 20 :: 21 :: []) = A at *
          have e39 : A.tmps[39]? = some (x 8) := by rw [← hA]; exact putsA_in (i := 8) 39 (by rfl) (by show (39 : Nat) < 52; decide) _ (by decide +kernel) (by decide)
          obtain ⟨_, _, _, f8, _⟩ := hd 8 (by decide)
          replace f8 : x 8 = .bool true := f8
          rw [f8] at e39
          have e42 : A.tmps[42]? = some (x 11) := by rw [← hA]; exact putsA_in (i := 11) 42 (by rfl) (by show (42 : Nat) < 52; decide) _ (by decide +kernel) (by decide)
          obtain ⟨_, _, _, f11, _⟩ := hd 11 (by decide)
          replace f11 : x 11 = .pointer (some ⟨w4.heap.size, 0, none⟩) := f11
          rw [f11] at e42
          clear hA hd
          obtain ⟨d0, d1, d2, d3, d4, d5⟩ := tev_S hs
          refine wpOp_step rfl (fun K' hK' => ?_)
          go_simp
          exact hK' _ _ (hK _ _ ⟨0, 0, 0, rfl, al0⟩ (Below.refl _ _) no_al)
        · generalize hA : putsA _ _ x (0 :: 1 :: 2 :: 3 :: 4 :: 5 :: 6 :: 7 :: 8 :: 9 :: 10 :: 11 :: 12 :: 13 :: 14 :: 15 :: 16 :: 17 :: 18 :: 19 :: 20 :: 21 :: []) = A at *
          have e39 : A.tmps[39]? = some (x 8) := by rw [← hA]; exact putsA_in (i := 8) 39 (by rfl) (by show (39 : Nat) < 52; decide) _ (by decide +kernel) (by decide)
          obtain ⟨_, _, _, f8, _⟩ := hd 8 (by decide)
          replace f8 : x 8 = .bool true := f8
          rw [f8] at e39
          have e43 : A.tmps[43]? = some (x 12) := by rw [← hA]; exact putsA_in (i := 12) 43 (by rfl) (by show (43 : Nat) < 52; decide) _ (by decide +kernel) (by decide)
          obtain ⟨_, _, _, f12, _⟩ := hd 12 (by decide)
          replace f12 : x 12 = .int .u8 r1 := f12
          rw [f12] at e43
          clear hA hd
          refine wpOp_step rfl (fun K' hK' => ?_)
          go_simp
          exact hK' _ _ (hK _ _ ⟨0, 0, 0, rfl, al0⟩ (Below.refl _ _) no_al)
        · generalize hA : putsA _ _ x (0 :: 1 :: 2 :: 3 :: 4 :: 5 :: 6 :: 7 :: 8 :: 9 :: 10 :: 11 :: 12 :: 13 :: 14 :: 15 :: 16 :: 17 :: 18 :: 19 :: 20 :: 21 :: []) = A at *
          have e39 : A.tmps[39]? = some (x 8) := by rw [← hA]; exact putsA_in (i := 8) 39 (by rfl) (by show (39 : Nat) < 52; decide) _ (by decide +kernel) (by decide)
          obtain ⟨_, _, _, f8, _⟩ := hd 8 (by decide)
          replace f8 : x 8 = .bool true := f8
          rw [f8] at e39
          have e44 : A.tmps[44]? = some (x 13) := by rw [← hA]; exact putsA_in (i := 13) 44 (by rfl) (by show (44 : Nat) < 52; decide) _ (by decide +kernel) (by decide)
          obtain ⟨_, _, _, f13, _⟩ := hd 13 (by decide)
          replace f13 : x 13 = .bool false := f13
          rw [f13] at e44
          clear hA hd
          refine wpOp_step rfl (fun K' hK' => ?_)
          go_simp
          exact hK' _ _ (hK _ _ ⟨0, 0, 0, rfl, al0⟩ (Below.refl _ _) no_al)
        · generalize hA : putsA _ _ x (0 :: 1 :: 2 :: 3 :: 4 :: 5 :: 6 :: 7 :: 8 :: 9 :: 10 :: 11 :: 12 :: 13 :: 14 :: 15 :: 16 :: 17 :: 18 :: 19 :: 20 :: 21 :: []) = A at *
          have e5 : A.tmps[5]? = some (.pointer (some ⟨w4.heap.size, 0, none⟩)) := by rw [← hA]; exact putsA_at 5 _ (by decide +kernel)
          have e45 : A.tmps[45]? = some (x 14) := by rw [← hA]; exact putsA_in (i := 14) 45 (by rfl) (by show (45 : Nat) < 52; decide) _ (by decide +kernel) (by decide)
          obtain ⟨_, _, _, f14, _⟩ := hd 14 (by decide)
          replace f14 : x 14 = .bool false := f14
          rw [f14] at e45
          clear hA hd
          refine wpOp_step rfl (fun K' hK' => ?_)
          go_simp
          exact hK' _ _ (hK _ _ ⟨0, 0, 0, rfl, al0⟩ (Below.refl _ _) no_al)
        · generalize hA : putsA _ _ x (0 :: 1 :: 2 :: 3 :: 4 :: 5 :: 6 :: 7 :: 8 :: 9 :: 10 :: 11 :: 12 :: 13 :: 14 :: 15 :: 16 :: 17 :: 18 :: 19 :: 20 :: 21 :: []) = A at *
          have e45 : A.tmps[45]? = some (x 14) := by rw [← hA]; exact putsA_in (i := 14) 45 (by rfl) (by show (45 : Nat) < 52; decide) _ (by decide +kernel) (by decide)
          obtain ⟨_, _, _, f14, _⟩ := hd 14 (by decide)
          replace f14 : x 14 = .bool false := f14
          rw [f14] at e45
          have e46 : A.tmps[46]? = some (x 15) := by rw [← hA]; exact putsA_in (i := 15) 46 (by rfl) (by show (46 : Nat) < 52; decide) _ (by decide +kernel) (by decide)
          obtain ⟨_, _, _, f15, _⟩ := hd 15 (by decide)
          replace f15 : x 15 = undef := f15
          rw [f15] at e46
          clear hA hd
          refine wpOp_step rfl (fun K' hK' => ?_)
          go_simp
          exact hK' _ _ (hK _ _ ⟨0, 0, 0, rfl, al0⟩ (Below.refl _ _) no_al)
        · generalize hA : putsA _ _ x (0 :: 1 :: 2 :: 3 :: 4 :: 5 :: 6 :: 7 :: 8 :: 9 :: 10 :: 11 :: 12 :: 13 :: 14 :: 15 :: 16 :: 17 :: 18 :: 19 :: 20 :: 21 :: []) = A at *
          have e45 : A.tmps[45]? = some (x 14) := by rw [← hA]; exact putsA_in (i := 14) 45 (by rfl) (by show (45 : Nat) < 52; decide) _ (by decide +kernel) (by decide)
          obtain ⟨_, _, _, f14, _⟩ := hd 14 (by decide)
          replace f14 : x 14 = .bool false := f14
          rw [f14] at e45
          have e47 : A.tmps[47]? = some (x 16) := by rw [← hA]; exact putsA_in (i := 16) 47 (by rfl) (by show (47 : Nat) < 52; decide) _ (by decide +kernel) (by decide)
          obtain ⟨_, _, _, f16, _⟩ := hd 16 (by decide)
          replace f16 : x 16 = undef := f16
          rw [f16] at e47
          clear hA hd
          refine wpOp_step rfl (fun K' hK' => ?_)
          go_simp
          exact hK' _ _ (hK _ _ ⟨0, 0, 0, rfl, al0⟩ (Below.refl _ _) no_al)
        · generalize hA : putsA _ _ x (0 :: 1 :: 2 :: 3 :: 4 :: 5 :: 6 :: 7 :: 8 :: 9 :: 10 :: 11 :: 12 :: 13 :: 14 :: 15 :: 16 :: 17 :: 18 :: 19 :: 20 :: 21 :: []) = A at *
          have e39 : A.tmps[39]? = some (x 8) := by rw [← hA]; exact putsA_in (i := 8) 39 (by rfl) (by show (39 : Nat) < 52; decide) _ (by decide +kernel) (by decide)
          obtain ⟨_, _, _, f8, _⟩ := hd 8 (by decide)
          replace f8 : x 8 = .bool true := f8
          rw [f8] at e39
          have e45 : A.tmps[45]? = some (x 14) := by rw [← hA]; exact putsA_in (i := 14) 45 (by rfl) (by show (45 : Nat) < 52; decide) _ (by decide +kernel) (by decide)
          obtain ⟨_, _, _, f14, _⟩ := hd 14 (by decide)
          replace f14 : x 14 = .bool false := f14
          rw [f14] at e45
          have e48 : A.tmps[48]? = some (x 17) := by rw [← hA]; exact putsA_in (i := 17) 48 (by rfl) (by show (48 : Nat) < 52; decide) _ (by decide +kernel) (by decide)
          obtain ⟨_, _, _, f17, _⟩ := hd 17 (by decide)
          replace f17 : x 17 = undef := f17
          rw [f17] at e48
          clear hA hd
          refine wpOp_step rfl (fun K' hK' => ?_)
          go_simp
          exact hK' _ _ (hK _ _ ⟨0, 0, 0, rfl, al0⟩ (Below.refl _ _) no_al)
        · generalize hA : putsA _ _ x (0 :: 1 :: 2 :: 3 :: 4 :: 5 :: 6 :: 7 :: 8 :: 9 :: 10 :: 11 :: 12 :: 13 :: 14 :: 15 :: 16 :: 17 :: 18 :: 19 :: 20 :: 21 :: []) = A at *
          have e39 : A.tmps[39]? = some (x 8) := by rw [← hA]; exact putsA_in (i := 8) 39 (by rfl) (by show (39 : Nat) < 52; decide) _ (by decide +kernel) (by decide)
          obtain ⟨_, _, _, f8, _⟩ := hd 8 (by decide)
          replace f8 : x 8 = .bool true := f8
          rw [f8] at e39
          have e41 : A.tmps[41]? = some (x 10) := by rw [← hA]; exact putsA_in (i := 10) 41 (by rfl) (by show (41 : Nat) < 52; decide) _ (by decide +kernel) (by decide)
          obtain ⟨_, _, _, f10, _⟩ := hd 10 (by decide)
          replace f10 : x 10 = .bool false := f10
          rw [f10] at e41
          have e49 : A.tmps[49]? = some (x 18) := by rw [← hA]; exact putsA_in (i := 18) 49 (by rfl) (by show (49 : Nat) < 52; decide) _ (by decide +kernel) (by decide)
          obtain ⟨_, _, _, f18, _⟩ := hd 18 (by decide)
          replace f18 : x 18 = .bool false := f18
          rw [f18] at e49
          clear hA hd
          refine wpOp_step rfl (fun K' hK' => ?_)
          go_simp
          exact hK' _ _ (hK _ _ ⟨0, 0, 0, rfl, al0⟩ (Below.refl _ _) no_al)
        · generalize hA : putsA _ _ x (0 :: 1 :: 2 :: 3 :: 4 :: 5 :: 6 :: 7 :: 8 :: 9 :: 10 :: 11 :: 12 :: 13 :: 14 :: 15 :: 16 :: 17 :: 18 :: 19 :: 20 :: 21 :: []) = A at *
          have e39 : A.tmps[39]? = some (x 8) := by rw [← hA]; exact putsA_in (i := 8) 39 (by rfl) (by show (39 : Nat) < 52; decide) _ (by decide +kernel) (by decide)
          obtain ⟨_, _, _, f8, _⟩ := hd 8 (by decide)
          replace f8 : x 8 = .bool true := f8
          rw [f8] at e39
          have e50 : A.tmps[50]? = some (x 19) := by rw [← hA]; exact putsA_in (i := 19) 50 (by rfl) (by show (50 : Nat) < 52; decide) _ (by decide +kernel) (by decide)
          obtain ⟨_, _, _, f19, _⟩ := hd 19 (by decide)
          replace f19 : x 19 = .bool true := f19
          rw [f19] at e50
          clear hA hd
          refine wpOp_step rfl (fun K' hK' => ?_)
          go_simp
          exact hK' _ _ (hK _ _ ⟨0, 0, 0, rfl, al0⟩ (Below.refl _ _) no_al)
        · generalize hA : putsA _ _ x (0 :: 1 :: 2 :: 3 :: 4 :: 5 :: 6 :: 7 :: 8 :: 9 :: 10 :: 11 :: 12 :: 13 :: 14 :: 15 :: 16 :: 17 :: 18 :: 19 :: 20 :: 21 :: []) = A at *
          have e51 : A.tmps[51]? = some (x 20) := by rw [← hA]; exact putsA_in (i := 20) 51 (by rfl) (by show (51 : Nat) < 52; decide) _ (by decide +kernel) (by decide)
          obtain ⟨_, _, _, f20, _⟩ := hd 20 (by decide)
          replace f20 : x 20 = .bool true := f20
          rw [f20] at e51
          clear hA hd
          refine wpOp_step rfl (fun K' hK' => ?_)
          go_simp
          exact hK' _ _ (hK _ _ ⟨0, 0, 0, rfl, al0⟩ (Below.refl _ _) no_al)
      case hend =>
        intro x W hf hg hb
        have HSE := Lib.hid (tev_below HD.out hb)
        have hl : x 21 = .bool true := by
          obtain ⟨_, _, _, h, _⟩ := hf 21 (by decide)
          exact h
        rw [putsA_lit _ _ (0 :: 1 :: 2 :: 3 :: 4 :: 5 :: 6 :: 7 :: 8 :: 9 :: 10 :: 11 :: 12 :: 13 :: 14 :: 15 :: 16 :: 17 :: 18 :: 19 :: 20 :: 21 :: []) ((4, 21) :: (31, 0) :: (32, 1) :: (33, 2) :: (34, 3) :: (35, 4) :: (36, 5) :: (37, 6) :: (38, 7) :: (39, 8) :: (40, 9) :: (41, 10) :: (42, 11) :: (43, 12) :: (44, 13) :: (45, 14) :: (46, 15) :: (47, 16) :: (48, 17) :: (49, 18) :: (50, 19) :: (51, 20) :: []) (by kernel_rfl)]
        simp only [setAll, ↓reduceIte, Nat.reduceAdd, Nat.reduceEqDiff]
        rw [hl]
        clear hf hl hg hb HD HTB
        refine wpAny_done (by kernel_rfl) ?_ _
        refine NoPanic.normal ?_
        go_wp2
        go_ret
        exact ⟨rfl, HSE.out.1.2⟩
theorem evalEvals_walk (T0 : XT) (R1 : Rw) (hV1 : ∀ y ∈ R1.l, Vk y) (w : World) (I0 : InT w w.heap.size T0) (I1 : RwOk w w.heap.size R1) :
    Calls Try.prog 5 #[exV T0.ex, .slice R1.A R1.l.length R1.c] w fun e w' => e = .returned (.bool true) ∧ Below w.heap.size w w' := by
  have h1 := fun (W : World) (hb : Below w.heap.size w W) => size_tree T0 W 0 (int_step I0 hb) (by omega)
  have h2 := fun (g : Nat) (t : TypeId) (W : World) (hb : Below w.heap.size w W) (hg : Blk W g t #[.slice R1.A R1.l.length R1.c]) => (great_any (some ⟨g, 0, none⟩) [R1] 1 1 W (rws_one hg (rwok_step I1 hb)) rfl (by unfold maxLen; omega) (by omega)).mono fun e w' he => by
    obtain ⟨B, he1, he2, he3⟩ := he
    exact (⟨B, he1, fun hB => he2 hB R1 (List.mem_cons_self ..), he3⟩ : ∃ B : Bool, e = .returned (.bool B) ∧ (B = false → R1.l.length ≤ 40) ∧ Below W.heap.size W w')
  have h3 := fun (h40 : R1.l.length ≤ 40) (W : World) (hb : Below w.heap.size w W) => eval_tree R1.l R1.A R1.l.length R1.c rfl (by omega) hV1 T0 W (int_step I0 hb) (vals_step I1.1 hb)
  have h4 := fun (hz : szT T0 0 ≤ 300) (W : World) (hb : Below w.heap.size w W) => reval_tree R1.l R1.A R1.l.length R1.c rfl hV1 T0 W (int_step I0 hb) (vals_step I1.1 hb) (sm_of T0 0 hz)
  generalize evP R1.l T0 = r at *
  generalize szT T0 0 = z at *
  clear I0 I1
  obtain ⟨op, ⟨vk, vn, vs⟩, tb, nm, n, A, c, ks⟩ := T0
  obtain ⟨⟨r1, r2, r3⟩, re⟩ := r
  exact evals_walk op vk vn vs tb nm n A ks.length c R1.A R1.l.length R1.c z r1 r2 re r3 w (Lib.hid h1) (Lib.hid h2) (Lib.hid h3) (Lib.hid h4)
end Go.Proofs.Ytkgpcodccpckeaa
