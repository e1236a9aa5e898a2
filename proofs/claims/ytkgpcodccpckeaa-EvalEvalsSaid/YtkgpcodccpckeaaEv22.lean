/- ref15.Eval of two whole numbers. Conditions: the op is one of 6 to 10. -/
import Derived.Test.YtkgpcodccpckeaaEv21
import Derived.Test.YtkgpcodccpckeaaEv12
namespace Go.Proofs.Ytkgpcodccpckeaa
open Go.RowKit
set_option linter.unusedVariables false
set_option linter.unusedSimpArgs false
set_option maxRecDepth 100000 in
set_option maxHeartbeats 4000000 in
theorem check07_1 (q : Int) (w : World) : Calls Try.prog 53 #[.agg #[.int .u8 1, .int .i64 q, .string ⟨#[]⟩]] w fun e w' => e = .returned (.int .i64 0) ∧ Below w.heap.size w w' := by
  go_enter Try.func53, Try.ntmps53
  go_wp2
  go_ret
  exact ⟨rfl, one_alloc⟩
set_option maxRecDepth 100000 in
set_option maxHeartbeats 4000000 in
theorem may15_leaf (q : Int) (w : World) :
    Calls Try.prog 36 #[exV (leafX (1, q, ⟨#[]⟩)), .int .i64 0, .int .i64 0] w fun e w' => e = .returned (.bool true) ∧ Below w.heap.size w w' := by
  have hx := bx_new w (leafX (1, q, ⟨#[]⟩))
  go_enter Try.func36, Try.ntmps36
  go_wp2_with fail
  refine (check07_1 _ _).mono ?_
  rintro e w4 ⟨rfl, hb4⟩
  replace hx := bx_below hx hb4
  obtain ⟨c0, c1, c2, c3, c4, c5, c6, c7⟩ := bx_cells hx
  clear hb4
  go_wp2
  go_loopw [8, 9] (fun k i wr => i = .int .i64 0 ∧ k = .bool true ∧ Below w.heap.size w wr) (fun _ _ _ => 0)
  case atStart => exact ⟨rfl, rfl, hx.2⟩
  case round =>
    obtain ⟨rfl, rfl, hb⟩ := hrel
    go_wp2
    go_ret
    exact ⟨rfl, hb⟩
theorem kids2 {w : World} {g : Nat} {x y : Ex} (h : Kids w w.heap.size (some ⟨g, 0, none⟩) [x, y]) : g < w.heap.size ∧ Cells8 w g 0 x ∧ Cells8 w g 8 y := by
  obtain ⟨b, o, hA, hl, hc⟩ := kids_get h (by simp)
  obtain ⟨rfl, rfl⟩ : g = b ∧ 0 = o := by simpa using hA
  exact ⟨hl, hc 0 x rfl, hc 1 y rfl⟩
set_option maxRecDepth 100000 in
set_option maxHeartbeats 8000000 in
theorem may15_two (op : Int) (h1 : 6 ≤ op) (h2 : op ≤ 10) (p q : Int) (g : Nat) (w : World) (hk : Kids w w.heap.size (some ⟨g, 0, none⟩) [leafX (1, p, ⟨#[]⟩), leafX (1, q, ⟨#[]⟩)]) :
    Calls Try.prog 36 #[exV (nodeX op (some ⟨g, 0, none⟩) 2 2), .int .i64 0, .int .i64 0] w fun e w' => e = .returned (.bool true) ∧ Below w.heap.size w w' := by
  have hx := bx_new w (nodeX op (some ⟨g, 0, none⟩) 2 2)
  obtain ⟨hgl, hc0, hc1⟩ := kids2 hk
  have HGL := Lib.hid hgl
  have HC0 := Lib.hid hc0
  have HC1 := Lib.hid hc1
  have b1 := beq_noI (show op ≠ 1 by omega)
  have b2 := beq_noI (show op ≠ 2 by omega)
  have d3 : decide (3 ≤ op) = true := decide_eq_true (by omega)
  have d5 : decide (op ≤ 5) = false := decide_eq_false (by omega)
  have d6 : decide (6 ≤ op) = true := decide_eq_true (by omega)
  have d19 : decide (op ≤ 19) = true := decide_eq_true (by omega)
  have d20 : decide (20 ≤ op) = false := decide_eq_false (by omega)
  clear hgl hc0 hc1 hk h1 h2
  obtain ⟨c0, c1, c2, c3, c4, c5, c6, c7⟩ := bx_cells hx
  have HB := Lib.hid hx
  clear hx
  go_enter Try.func36, Try.ntmps36
  go_wp2
  go_loopw [8, 9] (fun k i wr => ∃ j : Nat, j ≤ 2 ∧ i = .int .i64 j ∧ k = .bool true ∧ Bx w (nodeX op (some ⟨g, 0, none⟩) 2 2) wr) (fun _ i _ => 2 - (intOf i).toNat)
  case atStart => exact ⟨0, by omega, rfl, rfl, HB.out⟩
  case round =>
    clear HB c0 c1 c2 c3 c4 c5 c6 c7
    obtain ⟨j, hj, rfl, rfl, hbx⟩ := hrel
    have HBX := Lib.hid hbx
    obtain ⟨c0, c1, c2, c3, c4, c5, c6, c7⟩ := bx_cells hbx
    clear hbx
    by_cases hj2 : j < 2
    · rcases (show j = 0 ∨ j = 1 by omega) with rfl | rfl
      · obtain ⟨a0, a1, a2, a3, a4, a5, a6, a7⟩ := cells8_below HC0.out HBX.out.2 HGL.out
        simp only [Nat.reduceAdd] at a0 a1 a2 a3 a4 a5 a6 a7
        go_wp2_with fail
        refine (may15_leaf _ _).mono ?_
        rintro e w5 ⟨rfl, hb5⟩
        have HBY := Lib.hid (bx_below HBX.out hb5)
        clear hb5
        go_wp2
        go_roundw
        case rel => exact ⟨1, by omega, rfl, rfl, HBY.out⟩
        case measure => simp [intOf]
      · obtain ⟨a0, a1, a2, a3, a4, a5, a6, a7⟩ := cells8_below HC1.out HBX.out.2 HGL.out
        simp only [Nat.reduceAdd] at a0 a1 a2 a3 a4 a5 a6 a7
        go_wp2_with fail
        refine (may15_leaf _ _).mono ?_
        rintro e w5 ⟨rfl, hb5⟩
        have HBY := Lib.hid (bx_below HBX.out hb5)
        clear hb5
        go_wp2
        go_roundw
        case rel => exact ⟨2, by omega, rfl, rfl, HBY.out⟩
        case measure => simp [intOf]
    · obtain rfl : j = 2 := by omega
      go_wp2
      go_ret
      exact ⟨rfl, HBX.out.2⟩
set_option maxRecDepth 100000 in
set_option maxHeartbeats 4000000 in
theorem at_leaf (v : Val) (w : World) :
    Calls Try.prog 38 #[exV (leafX v), .slice none 0 0, .slice none 0 0] w fun e w' => e = .returned (.tuple #[valV v, .int .i64 0]) ∧ Below w.heap.size w w' := by
  obtain ⟨k, q, s⟩ := v
  go_enter Try.func38, Try.ntmps38
  go_wp2
  first
    | exact bodyPost_ret (v := .tuple #[.agg #[.int .u8 k, .int .i64 q, .string s], .int .i64 0]) (by simp [results, Try.results38, go_sem]) rfl ⟨rfl, bj one_alloc one_alloc⟩
    | (trace_state; fail)
/-- the expression's box, the answer's, beside what is made -/
def Ax (w : World) (x : Ex) (W : World) : Prop := Blk W w.heap.size 29 (exC x) ∧ Blk W (w.heap.size + 1) 23 #[.int .u8 0, .int .i64 0, .string ⟨#[]⟩] ∧ Below w.heap.size w W ∧ w.heap.size + 1 + 1 ≤ W.heap.size
theorem ax_step {w W W' : World} {x : Ex} (h : Ax w x W) (hb : Below W.heap.size W W') : Ax w x W' := ⟨blk_step h.1 hb, blk_step h.2.1 hb, bj h.2.2.1 hb, Nat.le_trans h.2.2.2 hb.size⟩
theorem ax_new (w : World) (x : Ex) : Ax w x ((w.alloc (.cells (exC x) 29)).alloc (.cells #[.int .u8 0, .int .i64 0, .string ⟨#[]⟩] 23)) := ⟨blk_step (Blk.new _ _ _) one_alloc, blk_new _ _ _ _ (by simp), bj one_alloc one_alloc, by simp⟩
theorem ax_grown {w W W' : World} {x : Ex} {row : Option Nat} (h : Ax w x W) (hg : W.grownBy W' row) (hr : ∀ z, row = some z → w.heap.size + 1 + 1 ≤ z) : Ax w x W' := by
  obtain ⟨h1, h2, h3, h4⟩ := h
  refine ⟨h1.grown hg (fun e => by have := hr _ e.symm; omega), h2.grown hg (fun e => by have := hr _ e.symm; omega), h3.grown hg (by omega) (fun z e => by have := hr _ e; omega), ?_⟩
  exact Nat.le_trans h4 ((Below.refl (w.heap.size + 1 + 1) W).grown hg h4 hr).size
theorem ax_cells {w W : World} {x : Ex} (h : Ax w x W) : W.cell? ⟨w.heap.size, 0, none⟩ = some (.int .u8 x.op) ∧ W.cell? ⟨w.heap.size, 7, none⟩ = some (.slice x.A x.m x.c) := ⟨h.1.cell 0, h.1.cell 7⟩
set_option maxRecDepth 100000 in
set_option maxHeartbeats 8000000 in
theorem at_two (op : Int) (h1 : 6 ≤ op) (h2 : op ≤ 10) (p q : Int) (hp : I64 p) (hq : I64 q) (g : Nat) (w : World) (hk : Kids w w.heap.size (some ⟨g, 0, none⟩) [leafX (1, p, ⟨#[]⟩), leafX (1, q, ⟨#[]⟩)]) (z1 z2 ze : Int) (z3 : ByteArray) (hr : numZ op p q = ((z1, z2, z3), ze)) :
    Calls Try.prog 38 #[exV (nodeX op (some ⟨g, 0, none⟩) 2 2), .slice none 0 0, .slice none 0 0] w fun e w' => e = .returned (.tuple #[.agg #[.int .u8 z1, .int .i64 z2, .string z3], .int .i64 ze]) ∧ Below w.heap.size w w' := by
  have HST := Lib.hid (ax_new w (nodeX op (some ⟨g, 0, none⟩) 2 2))
  obtain ⟨hgl, hc0, hc1⟩ := kids2 hk
  have HGL := Lib.hid hgl
  have HC0 := Lib.hid hc0
  have HC1 := Lib.hid hc1
  have HDO := Lib.hid (fun (b o c : Nat) (W : World) (hV : Vals W W.heap.size (some ⟨b, o, none⟩) [(1, p, ⟨#[]⟩), (1, q, ⟨#[]⟩)]) => do_num op h1 h2 p q hp hq b o c W hV z1 z2 ze z3 hr)
  have b1 := beq_noI (show op ≠ 1 by omega)
  have b2 := beq_noI (show op ≠ 2 by omega)
  have d20 : decide (20 ≤ op) = false := decide_eq_false (by omega)
  obtain ⟨iv, hv1, hv2, hv3, hv4⟩ := info_parts (show (Try.prog.info? 23).map (fun i => (i.zero, i.size, i.bytes)) = some (some (.agg #[.int .u8 0, .int .i64 0, .string ⟨#[]⟩]), 3, 32) by kernel_rfl)
  clear hgl hc0 hc1 hk h1 h2 hp hq hr
  go_enter Try.func38, Try.ntmps38
  go_wp2
  go_loopw [8, 9] (fun k i wr => ∃ (j : Nat) (l : List Val), j ≤ 2 ∧ i = .int .i64 j ∧ l = [(1, p, ⟨#[]⟩), (1, q, ⟨#[]⟩)].take j ∧ wr.ownsRow (w.heap.size + 1 + 1) 23 3 k j (valCs l) ∧ Ax w (nodeX op (some ⟨g, 0, none⟩) 2 2) wr) (fun _ i _ => 2 - (intOf i).toNat)
  case atStart => exact ⟨0, [], by omega, rfl, rfl, World.ownsRow_nil _ _ _ _, HST.out⟩
  case round =>
    clear HST
    obtain ⟨j, l, hj, rfl, hl, hown, hst⟩ := hrel
    have HST := Lib.hid hst
    have HO0 := Lib.hid hown
    obtain ⟨c0, c7⟩ := ax_cells hst
    clear hst hown
    by_cases hj2 : j < 2
    · rcases (show j = 0 ∨ j = 1 by omega) with rfl | rfl
      · obtain ⟨a0, a1, a2, a3, a4, a5, a6, a7⟩ := cells8_below HC0.out HST.out.2.2.1 HGL.out
        simp only [Nat.reduceAdd] at a0 a1 a2 a3 a4 a5 a6 a7
        obtain rfl : l = [] := hl
        clear hj hj2
        go_wp2_with fail
        refine (at_leaf (1, p, ⟨#[]⟩) _).mono ?_
        rintro e w5 ⟨rfl, hb5⟩
        have HS5 := Lib.hid (ax_step HST.out hb5)
        have HO5 := Lib.hid (own_below HO0.out hb5)
        have HS6 := Lib.hid (ax_step HS5.out (one_alloc (o := .cells (valC (1, p, ⟨#[]⟩)) 23)))
        have HS7 := Lib.hid (ax_step HS6.out (one_alloc (o := .cells (valC (1, p, ⟨#[]⟩)) 23)))
        have HO7 := Lib.hid (own_below (own_below HO5.out (one_alloc (o := .cells (valC (1, p, ⟨#[]⟩)) 23))) (one_alloc (o := .cells (valC (1, p, ⟨#[]⟩)) 23)))
        have HBS := Lib.hid HS7.out.2.2.2
        have hrd := reads3g (w5.alloc (.cells (valC (1, p, ⟨#[]⟩)) 23)) (w5.heap.size + 1) (1, p, ⟨#[]⟩) 23 (by simp)
        clear hb5 a0 a1 a2 a3 a4 a5 a6 a7 c0 c7
        go_wp2_with (at_builtin; refine wpList_append_any _ rfl (.tmp 55) (.tmp 57) 42 rfl (w.heap.size + 1 + 1) 23 iv _ 3 32 Try.underlying42 hv1 hv2 hv3 hv4 rfl (by omega) _ 0 (valCs []) rfl HO7.out (w5.heap.size + 1 + 1) (some ⟨w5.heap.size + 1, 0, none⟩) 1 1 [Value.int .u8 1, .int .i64 p, .string ⟨#[]⟩] rfl hrd (by intro u hu; simp at hu; rcases hu with rfl | rfl | rfl <;> rfl) (by simp only [maxLen]; omega) (by omega) HBS.out ?_; intro v1 w8 hown1 hg1 hat1; (have HS8 := Lib.hid (ax_grown HS7.out hg1 (fun z hz => (HO7.out.lt z hz).1))); (have HO8 := Lib.hid hown1); clear hown1 hg1 hat1 hrd)
        go_roundw
        case rel => exact ⟨1, _, by omega, rfl, rfl, HO8.out, HS8.out⟩
        case measure => simp [intOf]
      · obtain ⟨a0, a1, a2, a3, a4, a5, a6, a7⟩ := cells8_below HC1.out HST.out.2.2.1 HGL.out
        simp only [Nat.reduceAdd] at a0 a1 a2 a3 a4 a5 a6 a7
        obtain rfl : l = [(1, p, ⟨#[]⟩)] := hl
        clear hj hj2
        go_wp2_with fail
        refine (at_leaf (1, q, ⟨#[]⟩) _).mono ?_
        rintro e w5 ⟨rfl, hb5⟩
        have HS5 := Lib.hid (ax_step HST.out hb5)
        have HO5 := Lib.hid (own_below HO0.out hb5)
        have HS6 := Lib.hid (ax_step HS5.out (one_alloc (o := .cells (valC (1, q, ⟨#[]⟩)) 23)))
        have HS7 := Lib.hid (ax_step HS6.out (one_alloc (o := .cells (valC (1, q, ⟨#[]⟩)) 23)))
        have HO7 := Lib.hid (own_below (own_below HO5.out (one_alloc (o := .cells (valC (1, q, ⟨#[]⟩)) 23))) (one_alloc (o := .cells (valC (1, q, ⟨#[]⟩)) 23)))
        have HBS := Lib.hid HS7.out.2.2.2
        have hrd := reads3g (w5.alloc (.cells (valC (1, q, ⟨#[]⟩)) 23)) (w5.heap.size + 1) (1, q, ⟨#[]⟩) 23 (by simp)
        clear hb5 a0 a1 a2 a3 a4 a5 a6 a7 c0 c7
        go_wp2_with (at_builtin; refine wpList_append_any _ rfl (.tmp 55) (.tmp 57) 42 rfl (w.heap.size + 1 + 1) 23 iv _ 3 32 Try.underlying42 hv1 hv2 hv3 hv4 rfl (by omega) _ 1 (valCs [(1, p, ⟨#[]⟩)]) rfl HO7.out (w5.heap.size + 1 + 1) (some ⟨w5.heap.size + 1, 0, none⟩) 1 1 [Value.int .u8 1, .int .i64 q, .string ⟨#[]⟩] rfl hrd (by intro u hu; simp at hu; rcases hu with rfl | rfl | rfl <;> rfl) (by simp only [maxLen]; omega) (by omega) HBS.out ?_; intro v1 w8 hown1 hg1 hat1; (have HS8 := Lib.hid (ax_grown HS7.out hg1 (fun z hz => (HO7.out.lt z hz).1))); (have HO8 := Lib.hid hown1); clear hown1 hg1 hat1 hrd)
        go_roundw
        case rel => exact ⟨2, _, by omega, rfl, rfl, HO8.out, HS8.out⟩
        case measure => simp [intOf]
    · obtain rfl : j = 2 := by omega
      obtain rfl : l = [(1, p, ⟨#[]⟩), (1, q, ⟨#[]⟩)] := hl
      obtain ⟨A2, cv, rfl⟩ := own_form HO0.out
      have hvs := vals_of_own HO0.out rfl
      obtain ⟨bq, oq, rfl, _, _⟩ := vals_get hvs (by simp)
      have HVS := Lib.hid hvs
      clear hj hj2 hvs
      go_wp2_with fail
      refine (HDO.out bq oq cv _ HVS.out).mono ?_
      rintro e w9 ⟨rfl, hb9⟩
      have HS9 := Lib.hid (ax_step HST.out hb9)
      obtain ⟨r0, r1, r2, f0, f1, f2⟩ := cell3 HS9.out.2.1
      clear hb9 c0 c7
      go_wp2
      obtain ⟨e0, e1, e2, _, _, _⟩ := cell3 (blk3_set HS9.out.2.1 (.int .u8 z1) (.int .i64 z2) (.string z3))
      exact bodyPost_ret (v := .tuple #[.agg #[.int .u8 z1, .int .i64 z2, .string z3], .int .i64 ze]) (by simp [results, Try.results38, go_sem, e0, e1, e2]) rfl ⟨rfl, ((HS9.out.2.2.1.setCell (Nat.le_succ _) _).setCell (Nat.le_succ _) _).setCell (Nat.le_succ _) _⟩
set_option maxRecDepth 100000 in
set_option maxHeartbeats 8000000 in
theorem eval15_two (op : Int) (h1 : 6 ≤ op) (h2 : op ≤ 10) (p q : Int) (hp : I64 p) (hq : I64 q) (g : Nat) (w : World) (hk : Kids w w.heap.size (some ⟨g, 0, none⟩) [leafX (1, p, ⟨#[]⟩), leafX (1, q, ⟨#[]⟩)]) (z1 z2 ze : Int) (z3 : ByteArray) (hr : numZ op p q = ((z1, z2, z3), ze)) :
    Calls Try.prog 25 #[exV (nodeX op (some ⟨g, 0, none⟩) 2 2), .slice none 0 0] w fun e w' => e = .returned (.tuple #[.agg #[.int .u8 z1, .int .i64 z2, .string z3], .int .i64 ze]) ∧ Below w.heap.size w w' := by
  have HST := Lib.hid (ew_new w (nodeX op (some ⟨g, 0, none⟩) 2 2))
  have HM := Lib.hid (fun (W : World) (hb : Below w.heap.size w W) => may15_two op h1 h2 p q g W (kids_step hk hb))
  have HA := Lib.hid (fun (W : World) (hb : Below w.heap.size w W) => at_two op h1 h2 p q hp hq g W (kids_step hk hb) z1 z2 ze z3 hr)
  obtain ⟨c0, c1, c2, c3, c4, c5, c6, c7⟩ := cell8 HST.out.1
  clear hk h1 h2 hp hq hr
  go_enter Try.func25, Try.ntmps25
  go_wp2_with fail
  refine (HM.out _ HST.out.2.2).mono ?_
  rintro e w4 ⟨rfl, hb4⟩
  have HS4 := Lib.hid (ew_below HST.out hb4)
  clear hb4 c0 c1 c2 c3 c4 c5 c6 c7
  obtain ⟨c0, c1, c2, c3, c4, c5, c6, c7⟩ := cell8 HS4.out.1
  go_wp2_with fail
  refine (HA.out _ HS4.out.2.2).mono ?_
  rintro e w5 ⟨rfl, hb5⟩
  have HS5 := Lib.hid (ew_below HS4.out hb5)
  obtain ⟨r0, r1, r2, f0, f1, f2⟩ := cell3 HS5.out.2.1
  clear hb5 c0 c1 c2 c3 c4 c5 c6 c7
  go_wp2
  obtain ⟨e0, e1, e2, _, _, _⟩ := cell3 (blk3_set HS5.out.2.1 (.int .u8 z1) (.int .i64 z2) (.string z3))
  exact bodyPost_ret (v := .tuple #[.agg #[.int .u8 z1, .int .i64 z2, .string z3], .int .i64 ze]) (by simp [results, Try.results25, go_sem, e0, e1, e2]) rfl ⟨rfl, ((HS5.out.2.2.setCell (Nat.le_succ _) _).setCell (Nat.le_succ _) _).setCell (Nat.le_succ _) _⟩
end Go.Proofs.Ytkgpcodccpckeaa
