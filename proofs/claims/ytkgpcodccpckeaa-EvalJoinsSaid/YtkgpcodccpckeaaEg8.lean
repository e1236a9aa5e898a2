/- EvalJoins' closure: what an operation comes to for each of three groups. Conditions: how they lie in memory. -/
import Derived.Test.YtkgpcodccpckeaaEg7
import Derived.BigRegion
namespace Go.Proofs.Ytkgpcodccpckeaa
open Go Go.RowKit
set_option linter.unusedVariables false
set_option linter.unusedSimpArgs false
/-- the three answers' blocks, the kid's, the expression's -/
def Jw (w : World) (u v x : Val) (kg g : Nat) (op : Int) (W : World) : Prop := Blk W w.heap.size 23 (valC u) ∧ Blk W (w.heap.size + 1) 23 (valC v) ∧ Blk W (w.heap.size + 1 + 1) 23 (valC x) ∧ Blk W kg 29 (exC (colX 0)) ∧ Blk W g 29 (exC (nodeX op (some ⟨kg, 0, none⟩) 1 1)) ∧ (w.heap.size + 1 + 1 < kg ∧ w.heap.size + 1 + 1 < g) ∧ Below w.heap.size w W
theorem jw_step {w W W' : World} {u v x : Val} {kg g : Nat} {op : Int} (h : Jw w u v x kg g op W) (hb : Below W.heap.size W W') : Jw w u v x kg g op W' := ⟨blk_step h.1 hb, blk_step h.2.1 hb, blk_step h.2.2.1 hb, blk_step h.2.2.2.1 hb, blk_step h.2.2.2.2.1 hb, h.2.2.2.2.2.1, bj h.2.2.2.2.2.2 hb⟩
theorem jw_drew {w W : World} {u v x : Val} {kg g : Nat} {op : Int} (h : Jw w u v x kg g op W) : Jw w u v x kg g op W.drew := ⟨h.1.drew, h.2.1.drew, h.2.2.1.drew, h.2.2.2.1.drew, h.2.2.2.2.1.drew, h.2.2.2.2.2.1, h.2.2.2.2.2.2.drew⟩
theorem jw_set {w W : World} {u v x : Val} {kg g : Nat} {op : Int} (h : Jw w u v x kg g op W) (k q : Int) (s : ByteArray) :
    Jw w (k, q, s) v x kg g op (((W.setCell ⟨w.heap.size, 0, none⟩ (.int .u8 k)).setCell ⟨w.heap.size, 1, none⟩ (.int .i64 q)).setCell ⟨w.heap.size, 2, none⟩ (.string s)) ∧
    Jw w u (k, q, s) x kg g op (((W.setCell ⟨w.heap.size + 1, 0, none⟩ (.int .u8 k)).setCell ⟨w.heap.size + 1, 1, none⟩ (.int .i64 q)).setCell ⟨w.heap.size + 1, 2, none⟩ (.string s)) ∧
    Jw w u v (k, q, s) kg g op (((W.setCell ⟨w.heap.size + 1 + 1, 0, none⟩ (.int .u8 k)).setCell ⟨w.heap.size + 1 + 1, 1, none⟩ (.int .i64 q)).setCell ⟨w.heap.size + 1 + 1, 2, none⟩ (.string s)) := by
  obtain ⟨h1, h2, h3, h4, h5, ⟨h6, h7⟩, h8⟩ := h
  have far : ∀ {a b : Nat} {t : TypeId} {cs : Array Value}, Blk W b t cs → b ≠ a → Blk (((W.setCell ⟨a, 0, none⟩ (.int .u8 k)).setCell ⟨a, 1, none⟩ (.int .i64 q)).setCell ⟨a, 2, none⟩ (.string s)) b t cs := fun hb hne => ((hb.far (by simpa using hne) _).far (by simpa using hne) _).far (by simpa using hne) _
  exact ⟨⟨blk3_set h1 _ _ _, far h2 (by omega), far h3 (by omega), far h4 (by omega), far h5 (by omega), ⟨h6, h7⟩, below3_at h8 (by omega) _ _ _⟩,
    ⟨far h1 (by omega), blk3_set h2 _ _ _, far h3 (by omega), far h4 (by omega), far h5 (by omega), ⟨h6, h7⟩, below3_at h8 (by omega) _ _ _⟩,
    ⟨far h1 (by omega), far h2 (by omega), blk3_set h3 _ _ _, far h4 (by omega), far h5 (by omega), ⟨h6, h7⟩, below3_at h8 (by omega) _ _ _⟩⟩
/-- both blocks of the expression and the three groups' cells: what the calls ask -/
abbrev FoldC (w : World) (op : Int) (A : Option Addr) (n c : Nat) (z : Val × Int) : Prop := ∀ (kg : Nat) (W : World), Below w.heap.size w W → Blk W kg 29 (exC (colX 0)) → Calls Try.prog 20 #[exV (nodeX op (some ⟨kg, 0, none⟩) 1 1), .slice A n c, .int .i64 1] W fun e w' => e = .returned (.tuple #[valV z.1, .int .i64 z.2]) ∧ Below W.heap.size W w'
set_option maxRecDepth 100000 in
set_option maxHeartbeats 8000000 in
theorem joins_any (op : Int) (b1 b2 b3 : Nat) (A1 A2 A3 : Option Addr) (n1 c1 n2 c2 n3 c3 : Nat) (z1 z2 z3 : Val × Int) (w : World) (h1 : b1 < w.heap.size) (h2 : b2 < w.heap.size) (h3 : b3 < w.heap.size)
    (x1 : w.cell? ⟨b1, 0, none⟩ = some (.slice A1 n1 c1)) (x2 : w.cell? ⟨b2, 0, none⟩ = some (.slice A2 n2 c2)) (x3 : w.cell? ⟨b3, 0, none⟩ = some (.slice A3 n3 c3)) (F1 : FoldC w op A1 n1 c1 z1) (F2 : FoldC w op A2 n2 c2 z2) (F3 : FoldC w op A3 n3 c3 z3) :
    Calls Try.prog 29 #[.int .u8 op, .pointer (some ⟨b1, 0, none⟩), .pointer (some ⟨b2, 0, none⟩), .pointer (some ⟨b3, 0, none⟩)] w fun e w' => e = .returned (.tuple #[valV z1.1, valV z2.1, valV z3.1, .bool (z1.2 == 0 && (z2.2 == 0 && z3.2 == 0))]) ∧ Below w.heap.size w w' := by
  obtain ⟨⟨p1, q1, s1⟩, r1⟩ := z1
  obtain ⟨⟨p2, q2, s2⟩, r2⟩ := z2
  obtain ⟨⟨p3, q3, s3⟩, r3⟩ := z3
  have HF1 := Lib.hid F1
  have HF2 := Lib.hid F2
  have HF3 := Lib.hid F3
  have HX := Lib.hid (And.intro x1 (And.intro x2 x3))
  have HH := Lib.hid (And.intro h1 (And.intro h2 h3))
  have HN : Hid (Blk (((w.alloc (.cells #[.int .u8 0, .int .i64 0, .string ⟨#[]⟩] 23)).alloc (.cells #[.int .u8 0, .int .i64 0, .string ⟨#[]⟩] 23)).alloc (.cells #[.int .u8 0, .int .i64 0, .string ⟨#[]⟩] 23)) w.heap.size 23 #[.int .u8 0, .int .i64 0, .string ⟨#[]⟩] ∧ Blk (((w.alloc (.cells #[.int .u8 0, .int .i64 0, .string ⟨#[]⟩] 23)).alloc (.cells #[.int .u8 0, .int .i64 0, .string ⟨#[]⟩] 23)).alloc (.cells #[.int .u8 0, .int .i64 0, .string ⟨#[]⟩] 23)) (w.heap.size + 1) 23 #[.int .u8 0, .int .i64 0, .string ⟨#[]⟩] ∧ Blk (((w.alloc (.cells #[.int .u8 0, .int .i64 0, .string ⟨#[]⟩] 23)).alloc (.cells #[.int .u8 0, .int .i64 0, .string ⟨#[]⟩] 23)).alloc (.cells #[.int .u8 0, .int .i64 0, .string ⟨#[]⟩] 23)) (w.heap.size + 1 + 1) 23 #[.int .u8 0, .int .i64 0, .string ⟨#[]⟩]) := Lib.hid ⟨((Blk.new _ _ _).alloc _).alloc _, (blk_new _ _ _ _ (by simp)).alloc _, blk_new _ _ _ _ (by simp)⟩
  clear x1 x2 x3 h1 h2 h3 F1 F2 F3
  go_enter Try.func29, Try.ntmps29
  go_wp2_with fail
  refine (column_any 0 _).mono ?_
  rintro e w2 ⟨rfl, hb2⟩
  have HB2 := Lib.hid (bj bj3 hb2)
  have HN2 := Lib.hid (show Blk w2 w.heap.size 23 #[.int .u8 0, .int .i64 0, .string ⟨#[]⟩] ∧ Blk w2 (w.heap.size + 1) 23 #[.int .u8 0, .int .i64 0, .string ⟨#[]⟩] ∧ Blk w2 (w.heap.size + 1 + 1) 23 #[.int .u8 0, .int .i64 0, .string ⟨#[]⟩] from ⟨blk_step HN.out.1 hb2, blk_step HN.out.2.1 hb2, blk_step HN.out.2.2 hb2⟩)
  clear hb2 HN
  go_wp2_with fail
  refine (mkof_any op _ 1 1 _).mono ?_
  rintro e w3 ⟨rfl, hb3⟩
  have HJ := Lib.hid (show Jw w (0, 0, ⟨#[]⟩) (0, 0, ⟨#[]⟩) (0, 0, ⟨#[]⟩) w2.heap.size w3.heap.size op (w3.alloc (.cells (exC (nodeX op (some ⟨w2.heap.size, 0, none⟩) 1 1)) 29)) from by
    have hb := bj one_alloc hb3
    have hk : Blk w3 w2.heap.size 29 (exC (colX 0)) := blk_step (Blk.new _ _ _) hb3
    have h2 := HN2.out.2.2.lt
    have h3 := hb.size
    exact ⟨(blk_step HN2.out.1 hb).alloc _, (blk_step HN2.out.2.1 hb).alloc _, (blk_step HN2.out.2.2 hb).alloc _, hk.alloc _, Blk.new _ _ _, ⟨by omega, by omega⟩, bj (bj HB2.out hb) one_alloc⟩)
  generalize hkg : w2.heap.size = kg at *
  generalize hgg : w3.heap.size = g at *
  clear hb3 HN2 HB2 hkg
  have x1 := (HJ.out.2.2.2.2.2.2.cell (p := ⟨b1, 0, none⟩) HH.out.1).trans HX.out.1
  obtain ⟨k0, k1, k2, k3, k4, k5, k6, k7⟩ := cell8_all HJ.out.2.2.2.2.1
  go_wp2_with fail
  refine (HF1.out kg _ HJ.out.2.2.2.2.2.2 HJ.out.2.2.2.1).mono ?_
  rintro e w4 ⟨rfl, hb4⟩
  have HJ4 := Lib.hid (jw_step HJ.out hb4)
  clear hb4 x1 k0 k1 k2 k3 k4 k5 k6 k7 HJ hgg
  obtain ⟨y0, y1, y2, f0, f1, f2⟩ := cell3 HJ4.out.1
  have HJ5 := Lib.hid (jw_set HJ4.out p1 q1 s1).1
  have x2 := (HJ5.out.2.2.2.2.2.2.cell (p := ⟨b2, 0, none⟩) HH.out.2.1).trans HX.out.2.1
  obtain ⟨k0, k1, k2, k3, k4, k5, k6, k7⟩ := cell8_all HJ5.out.2.2.2.2.1
  go_wp2_with fail
  refine (HF2.out kg _ HJ5.out.2.2.2.2.2.2 HJ5.out.2.2.2.1).mono ?_
  rintro e w6 ⟨rfl, hb6⟩
  have HJ6 := Lib.hid (jw_step HJ5.out hb6)
  clear hb6 x2 k0 k1 k2 k3 k4 k5 k6 k7 HJ4 HJ5 y0 y1 y2 f0 f1 f2
  obtain ⟨y0, y1, y2, f0, f1, f2⟩ := cell3 HJ6.out.2.1
  have HJ7 := Lib.hid (jw_set HJ6.out p2 q2 s2).2.1
  have x3 := (HJ7.out.2.2.2.2.2.2.cell (p := ⟨b3, 0, none⟩) HH.out.2.2).trans HX.out.2.2
  obtain ⟨k0, k1, k2, k3, k4, k5, k6, k7⟩ := cell8_all HJ7.out.2.2.2.2.1
  go_wp2_with fail
  refine (HF3.out kg _ HJ7.out.2.2.2.2.2.2 HJ7.out.2.2.2.1).mono ?_
  rintro e w8 ⟨rfl, hb8⟩
  have HJ8 := Lib.hid (jw_step HJ7.out hb8)
  clear hb8 x3 k0 k1 k2 k3 k4 k5 k6 k7 HJ6 HJ7 y0 y1 y2 f0 f1 f2
  obtain ⟨y0, y1, y2, f0, f1, f2⟩ := cell3 HJ8.out.2.2.1
  have HJ9 := Lib.hid (jw_set HJ8.out p3 q3 s3).2.2
  go_upto_region 5 with fail
  generalize hW9 : ((((w8.setCell ⟨w.heap.size + 1 + 1, 0, none⟩ (.int .u8 p3)).setCell ⟨w.heap.size + 1 + 1, 1, none⟩ (.int .i64 q3)).setCell ⟨w.heap.size + 1 + 1, 2, none⟩ (.string s3))) = W9 at *
  clear HJ8 y0 y1 y2 f0 f1 f2 hW9 HF1 HF2 HF3 HX HH
  obtain ⟨y0, y1, y2, f0, f1, f2⟩ := cell3 HJ9.out.1
  obtain ⟨y3, y4, y5, f3, f4, f5⟩ := cell3 HJ9.out.2.1
  obtain ⟨y6, y7, y8, f6, f7, f8⟩ := cell3 HJ9.out.2.2.1
  have HJC := Lib.hid (jw_set (jw_set (jw_set HJ9.out p1 q1 s1).1 p2 q2 s2).2.1 p3 q3 s3).2.2
  obtain ⟨t0, t1, t2, _, _, _⟩ := cell3 HJC.out.1
  obtain ⟨t3, t4, t5, _, _, _⟩ := cell3 HJC.out.2.1
  obtain ⟨t6, t7, t8, _, _, _⟩ := cell3 HJC.out.2.2.1
  have HT := Lib.hid (And.intro t0 (And.intro t1 (And.intro t2 (And.intro t3 (And.intro t4 (And.intro t5 (And.intro t6 (And.intro t7 t8))))))))
  clear t0 t1 t2 t3 t4 t5 t6 t7 t8
  by_cases hr1 : r1 = 0
  · subst hr1
    by_cases hr2 : r2 = 0
    · subst hr2
      by_cases hr3 : r3 = 0
      · subst hr3
        go_wp2_with fail
        go_region
        all_goals
          go_wp2
          obtain ⟨t0, t1, t2, t3, t4, t5, t6, t7, t8⟩ := HT.out
          exact bodyPost_ret (v := .tuple #[.agg #[.int .u8 p1, .int .i64 q1, .string s1], .agg #[.int .u8 p2, .int .i64 q2, .string s2], .agg #[.int .u8 p3, .int .i64 q3, .string s3], .bool true]) (by simp [results, Try.results29, go_sem, t0, t1, t2, t3, t4, t5, t6, t7, t8]) rfl ⟨rfl, (jw_drew HJC.out).2.2.2.2.2.2⟩
      · have e3 := beq_no hr3
        clear hr3
        go_wp2_with fail
        go_region
        all_goals
          go_wp2
          obtain ⟨t0, t1, t2, t3, t4, t5, t6, t7, t8⟩ := HT.out
          exact bodyPost_ret (v := .tuple #[.agg #[.int .u8 p1, .int .i64 q1, .string s1], .agg #[.int .u8 p2, .int .i64 q2, .string s2], .agg #[.int .u8 p3, .int .i64 q3, .string s3], .bool false]) (by simp [results, Try.results29, go_sem, t0, t1, t2, t3, t4, t5, t6, t7, t8]) rfl ⟨by rw [e3]; rfl, (jw_drew HJC.out).2.2.2.2.2.2⟩
    · have e2 := beq_no hr2
      clear hr2
      go_wp2_with fail
      go_region
      all_goals
        go_wp2
        obtain ⟨t0, t1, t2, t3, t4, t5, t6, t7, t8⟩ := HT.out
        exact bodyPost_ret (v := .tuple #[.agg #[.int .u8 p1, .int .i64 q1, .string s1], .agg #[.int .u8 p2, .int .i64 q2, .string s2], .agg #[.int .u8 p3, .int .i64 q3, .string s3], .bool false]) (by simp [results, Try.results29, go_sem, t0, t1, t2, t3, t4, t5, t6, t7, t8]) rfl ⟨by rw [e2]; rfl, (jw_drew HJC.out).2.2.2.2.2.2⟩
  · have e1 := beq_no hr1
    clear hr1
    go_wp2_with fail
    go_region
    all_goals
      go_wp2
      obtain ⟨t0, t1, t2, t3, t4, t5, t6, t7, t8⟩ := HT.out
      exact bodyPost_ret (v := .tuple #[.agg #[.int .u8 p1, .int .i64 q1, .string s1], .agg #[.int .u8 p2, .int .i64 q2, .string s2], .agg #[.int .u8 p3, .int .i64 q3, .string s3], .bool false]) (by simp [results, Try.results29, go_sem, t0, t1, t2, t3, t4, t5, t6, t7, t8]) rfl ⟨by rw [e1]; rfl, (jw_drew HJC.out).2.2.2.2.2.2⟩
end Go.Proofs.Ytkgpcodccpckeaa
