/- The walk of FrameBack. Conditions: the numbers fit their kinds, a text is no longer than a machine has addresses. -/
import Derived.Test.YtpgjlpljjbgplaaLawFrameHeadBack
namespace Go.Proofs.Ytpgjlpljjbgplaa
open Go.RowKit
def Bk (w : World) (p1 p2 o1 o2 pg cm : Int) (d : ByteArray) (W : World) : Prop :=
  Blk W w.heap.size 33 #[.int .u32 p1, .int .u32 p2] ∧ Blk W (w.heap.size + 1) 33 #[.int .u32 o1, .int .u32 o2] ∧ Blk W (w.heap.size + 1 + 1) 37 #[.int .i64 pg, .int .i64 cm, .string d] ∧ Below w.heap.size w W
theorem bk_step {w W w' : World} {p1 p2 o1 o2 pg cm : Int} {d : ByteArray} (hb : Below W.heap.size W w') (h : Bk w p1 p2 o1 o2 pg cm d W) : Bk w p1 p2 o1 o2 pg cm d w' := ⟨blk_step h.1 hb, blk_step h.2.1 hb, blk_step h.2.2.1 hb, bj h.2.2.2 hb⟩
theorem bk_alloc {w W : World} {p1 p2 o1 o2 pg cm : Int} {d : ByteArray} (o : Obj) (h : Bk w p1 p2 o1 o2 pg cm d W) : Bk w p1 p2 o1 o2 pg cm d (W.alloc o) := bk_step ((Below.refl _ _).alloc (Nat.le_refl _) _) h
theorem bk_new (w : World) (p1 p2 o1 o2 pg cm : Int) (d : ByteArray) : Bk w p1 p2 o1 o2 pg cm d (((w.alloc (.cells #[.int .u32 p1, .int .u32 p2] 33)).alloc (.cells #[.int .u32 o1, .int .u32 o2] 33)).alloc (.cells #[.int .i64 pg, .int .i64 cm, .string d] 37)) :=
  ⟨((Blk.new w _ _).alloc _).alloc _, (blk_new (w.alloc (.cells #[.int .u32 p1, .int .u32 p2] 33)) (w.heap.size + 1) 33 #[.int .u32 o1, .int .u32 o2] (by simp)).alloc _, blk_new _ _ _ _ (by simp), ((((Below.refl _ _).alloc (Nat.le_refl _) _).alloc (by simp) _).alloc (by simp; omega) _)⟩
theorem bkS {w W : World} {p1 p2 o1 o2 pg cm : Int} {d : ByteArray} (h : Bk w p1 p2 o1 o2 pg cm d W) : W.cell? ⟨w.heap.size, 0, none⟩ = some (.int .u32 p1) ∧ W.cell? ⟨w.heap.size, 1, none⟩ = some (.int .u32 p2) ∧ W.cell? ⟨w.heap.size + 1, 0, none⟩ = some (.int .u32 o1) ∧ W.cell? ⟨w.heap.size + 1, 1, none⟩ = some (.int .u32 o2) ∧
    W.cell? ⟨w.heap.size + 1 + 1, 0, none⟩ = some (.int .i64 pg) ∧ W.cell? ⟨w.heap.size + 1 + 1, 1, none⟩ = some (.int .i64 cm) ∧ W.cell? ⟨w.heap.size + 1 + 1, 2, none⟩ = some (.string d) := ⟨h.1.cell 0, h.1.cell 1, h.2.1.cell 0, h.2.1.cell 1, h.2.2.1.cell 0, h.2.2.1.cell 1, h.2.2.1.cell 2⟩
theorem pair_at {W : World} {g : Nat} {t : TypeId} {a b : Value} (h : Blk W g t #[a, b]) : W.cell? ⟨g, 0, none⟩ = some a ∧ W.cell? ⟨g, 1, none⟩ = some b := ⟨h.cell 0, h.cell 1⟩
theorem trip_at {W : World} {g : Nat} {t : TypeId} {a b c : Value} (h : Blk W g t #[a, b, c]) : W.cell? ⟨g, 0, none⟩ = some a ∧ W.cell? ⟨g, 1, none⟩ = some b ∧ W.cell? ⟨g, 2, none⟩ = some c := ⟨h.cell 0, h.cell 1, h.cell 2⟩
structure BackIn (p1 p2 o1 o2 pg cm : Int) (salt wrong : Int) (d m S : ByteArray) (Q1 Q2 : Int) (b1 b2 b4 b5 x : Int) (b3 : ByteArray) (y1 y2 y4 y5 y : Int) (y3 : ByteArray) (bw : Bool) : Prop where
  h1 : ∀ w, Calls Try.prog 13 #[.agg #[.int .u32 p1, .int .u32 p2], .int .u64 salt, .agg #[.int .i64 pg, .int .i64 cm, .string d]] w fun e w' => e = .returned (.tuple #[.string S, .agg #[.int .u32 Q1, .int .u32 Q2], .int .i64 0]) ∧ Below w.heap.size w w'
  h2 : ∀ w, Calls Try.prog 14 #[.agg #[.int .u32 p1, .int .u32 p2], .int .u64 salt, .string (S ++ m)] w fun e w' => e = .returned (.tuple #[.agg #[.int .i64 pg, .int .i64 cm, .string d], .agg #[.int .u32 Q1, .int .u32 Q2], .int .i64 0]) ∧ Below w.heap.size w w'
  h3 : ∀ w, Calls Try.prog 14 #[.agg #[.int .u32 o1, .int .u32 o2], .int .u64 salt, .string S] w fun e w' => e = .returned (.tuple #[.agg #[.int .i64 b1, .int .i64 b2, .string b3], .agg #[.int .u32 b4, .int .u32 b5], .int .i64 x]) ∧ Below w.heap.size w w'
  h4 : ∀ w, Calls Try.prog 14 #[.agg #[.int .u32 p1, .int .u32 p2], .int .u64 wrong, .string S] w fun e w' => e = .returned (.tuple #[.agg #[.int .i64 y1, .int .i64 y2, .string y3], .agg #[.int .u32 y4, .int .u32 y5], .int .i64 y]) ∧ Below w.heap.size w w'
  hy : (y == 0) = bw
  hw : (wrong == salt) = bw
theorem bin {p1 p2 o1 o2 pg cm : Int} {salt wrong : Int} {d m S : ByteArray} {Q1 Q2 : Int} {b1 b2 b4 b5 x : Int} {b3 : ByteArray} {y1 y2 y4 y5 y : Int} {y3 : ByteArray} {bw : Bool} (h : Hid (BackIn p1 p2 o1 o2 pg cm salt wrong d m S Q1 Q2 b1 b2 b4 b5 x b3 y1 y2 y4 y5 y y3 bw)) : BackIn p1 p2 o1 o2 pg cm salt wrong d m S Q1 Q2 b1 b2 b4 b5 x b3 y1 y2 y4 y5 y y3 bw := h
set_option maxRecDepth 100000 in
set_option maxHeartbeats 8000000 in
theorem frameBack_long1 (p1 p2 o1 o2 salt wrong pg cm : Int) (d m : ByteArray) (w : World) (hd : 8192 < d.size) :
    Calls Try.prog 7 #[.agg #[.int .u32 p1, .int .u32 p2], .agg #[.int .u32 o1, .int .u32 o2], .int .u64 salt, .int .u64 wrong, .agg #[.int .i64 pg, .int .i64 cm, .string d], .string m] w fun e w' => e = .returned (.bool true) ∧ Below w.heap.size w w' := by
  have hs0 := bk_new w p1 p2 o1 o2 pg cm d
  go_enter Try.func7, Try.ntmps7
  go_wp2_with fail
  refine (works_any _).mono ?_
  rintro e w1 ⟨rfl, hb1⟩
  have hs1 := bk_step hb1 hs0
  obtain ⟨c0, c1, c2, c3, c4, c5, c6⟩ := bkS hs1
  clear hb1 hs0
  go_wp2
  go_ret
  exact ⟨rfl, hs1.2.2.2⟩
set_option maxRecDepth 100000 in
set_option maxHeartbeats 8000000 in
theorem frameBack_long2 (p1 p2 o1 o2 salt wrong pg cm : Int) (d m : ByteArray) (w : World) (hd : d.size ≤ 8192) (hm : 8192 < m.size) :
    Calls Try.prog 7 #[.agg #[.int .u32 p1, .int .u32 p2], .agg #[.int .u32 o1, .int .u32 o2], .int .u64 salt, .int .u64 wrong, .agg #[.int .i64 pg, .int .i64 cm, .string d], .string m] w fun e w' => e = .returned (.bool true) ∧ Below w.heap.size w w' := by
  have hs0 := bk_new w p1 p2 o1 o2 pg cm d
  go_enter Try.func7, Try.ntmps7
  go_wp2_with fail
  refine (works_any _).mono ?_
  rintro e w1 ⟨rfl, hb1⟩
  have hs1 := bk_step hb1 hs0
  obtain ⟨c0, c1, c2, c3, c4, c5, c6⟩ := bkS hs1
  clear hb1 hs0
  go_wp2
  go_ret
  exact ⟨rfl, hs1.2.2.2⟩
set_option maxRecDepth 100000 in
set_option maxHeartbeats 8000000 in
theorem frameBack_bad (p1 p2 o1 o2 salt wrong pg cm : Int) (d m : ByteArray) (w : World) (hd : d.size ≤ 8192) (hm : m.size ≤ 8192) (HPUT : Hid (∀ w, Calls Try.prog 13 #[.agg #[.int .u32 p1, .int .u32 p2], .int .u64 salt, .agg #[.int .i64 pg, .int .i64 cm, .string d]] w fun e w' => e = .returned (.tuple #[.string ⟨#[]⟩, .agg #[.int .u32 0, .int .u32 0], .int .i64 2]) ∧ Below w.heap.size w w')) :
    Calls Try.prog 7 #[.agg #[.int .u32 p1, .int .u32 p2], .agg #[.int .u32 o1, .int .u32 o2], .int .u64 salt, .int .u64 wrong, .agg #[.int .i64 pg, .int .i64 cm, .string d], .string m] w fun e w' => e = .returned (.bool true) ∧ Below w.heap.size w w' := by
  have hs0 := bk_new w p1 p2 o1 o2 pg cm d
  go_enter Try.func7, Try.ntmps7
  go_wp2_with fail
  refine (works_any _).mono ?_
  rintro e w1 ⟨rfl, hb1⟩
  have hs1 := bk_step hb1 hs0
  obtain ⟨c0, c1, c2, c3, c4, c5, c6⟩ := bkS hs1
  clear hb1 hs0
  go_wp2_with fail
  refine (HPUT.out _).mono ?_
  rintro e w2 ⟨rfl, hb2⟩
  have hs2 := bk_step hb2 hs1
  clear hb2 hs1
  go_wp2
  go_ret
  exact ⟨rfl, hs2.2.2.2.alloc hs2.2.2.2.size _⟩
set_option maxRecDepth 100000 in
set_option maxHeartbeats 8000000 in
theorem frameBack_eq (p1 p2 salt wrong pg cm : Int) (d m S : ByteArray) (Q1 Q2 b1 b2 b4 b5 x : Int) (b3 : ByteArray) (y1 y2 y4 y5 y : Int) (y3 : ByteArray) (bw : Bool) (w : World) (hd : d.size ≤ 8192) (hm : m.size ≤ 8192) (hS : S.size ≤ 576) (hS2 : ((S.size : Int) != 576) = false) (H : Hid (BackIn p1 p2 p1 p2 pg cm salt wrong d m S Q1 Q2 b1 b2 b4 b5 x b3 y1 y2 y4 y5 y y3 bw)) (hx : (x == 0) = true) :
    Calls Try.prog 7 #[.agg #[.int .u32 p1, .int .u32 p2], .agg #[.int .u32 p1, .int .u32 p2], .int .u64 salt, .int .u64 wrong, .agg #[.int .i64 pg, .int .i64 cm, .string d], .string m] w fun e w' => e = .returned (.bool true) ∧ Below w.heap.size w w' := by
  have hs0 := bk_new w p1 p2 p1 p2 pg cm d
  go_enter Try.func7, Try.ntmps7
  go_wp2_with fail
  refine (works_any _).mono ?_
  rintro e w1 ⟨rfl, hb1⟩
  have hs1 := bk_step hb1 hs0
  obtain ⟨c0, c1, c2, c3, c4, c5, c6⟩ := bkS hs1
  clear hb1 hs0
  go_wp2_with fail
  refine ((bin H).h1 _).mono ?_
  rintro e w2 ⟨rfl, hb2⟩
  have hs2 := bk_alloc (.cells #[.int .u32 Q1, .int .u32 Q2] 33) (bk_step hb2 hs1)
  have hq := blk_new w2 w2.heap.size 33 #[.int .u32 Q1, .int .u32 Q2] rfl
  clear hb2 hs1 c0 c1 c2 c3 c4 c5 c6
  obtain ⟨c0, c1, c2, c3, c4, c5, c6⟩ := bkS hs2
  have HSF3 : ¬ (9223372036854775807 < S.size + m.size) := by omega
  have HSF4 : S.size + m.size ≤ 9223372036854775807 := by omega
  go_wp2_with fail
  refine ((bin H).h2 _).mono ?_
  rintro e w3 ⟨rfl, hb3⟩
  have hs3 := bk_alloc (.cells #[.int .u32 Q1, .int .u32 Q2] 33) (bk_alloc (.cells #[.int .i64 pg, .int .i64 cm, .string d] 37) (bk_step hb3 hs2))
  have hq3 := ((blk_step hq hb3).alloc (.cells #[.int .i64 pg, .int .i64 cm, .string d] 37)).alloc (.cells #[.int .u32 Q1, .int .u32 Q2] 33)
  clear hb3 hs2 hq c0 c1 c2 c3 c4 c5 c6 HSF3 HSF4
  obtain ⟨c0, c1, c2, c3, c4, c5, c6⟩ := bkS hs3
  obtain ⟨q0, q1⟩ := pair_at hq3
  clear hq3
  go_wp2_with fail
  refine ((bin H).h3 _).mono ?_
  rintro e w4 ⟨rfl, hb4⟩
  have hs4 := bk_step hb4 hs3
  clear hb4 hs3 c0 c1 c2 c3 c4 c5 c6 q0 q1
  obtain ⟨c0, c1, c2, c3, c4, c5, c6⟩ := bkS hs4
  go_wp2_with fail
  refine ((bin H).h4 _).mono ?_
  rintro e w5 ⟨rfl, hb5⟩
  have hs5 := bk_alloc (.cells #[.int .u32 y4, .int .u32 y5] 33) (bk_alloc (.cells #[.int .i64 y1, .int .i64 y2, .string y3] 37) (bk_step hb5 hs4))
  clear hb5 hs4 c0 c1 c2 c3 c4 c5 c6
  obtain ⟨c0, c1, c2, c3, c4, c5, c6⟩ := bkS hs5
  have hy := (bin H).hy
  have hw := (bin H).hw
  go_wp2
  go_ret
  exact ⟨rfl, hs5.2.2.2⟩
set_option maxRecDepth 100000 in
set_option maxHeartbeats 8000000 in
theorem frameBack_ne1 (p1 p2 o1 o2 salt wrong pg cm : Int) (d m S : ByteArray) (Q1 Q2 b1 b2 b4 b5 x : Int) (b3 : ByteArray) (y1 y2 y4 y5 y : Int) (y3 : ByteArray) (bw : Bool) (w : World) (hd : d.size ≤ 8192) (hm : m.size ≤ 8192) (hS : S.size ≤ 576) (hS2 : ((S.size : Int) != 576) = false) (H : Hid (BackIn p1 p2 o1 o2 pg cm salt wrong d m S Q1 Q2 b1 b2 b4 b5 x b3 y1 y2 y4 y5 y y3 bw)) (hx : (x == 0) = false) (n1 : (o1 == p1) = false) :
    Calls Try.prog 7 #[.agg #[.int .u32 p1, .int .u32 p2], .agg #[.int .u32 o1, .int .u32 o2], .int .u64 salt, .int .u64 wrong, .agg #[.int .i64 pg, .int .i64 cm, .string d], .string m] w fun e w' => e = .returned (.bool true) ∧ Below w.heap.size w w' := by
  have hs0 := bk_new w p1 p2 o1 o2 pg cm d
  go_enter Try.func7, Try.ntmps7
  go_wp2_with fail
  refine (works_any _).mono ?_
  rintro e w1 ⟨rfl, hb1⟩
  have hs1 := bk_step hb1 hs0
  obtain ⟨c0, c1, c2, c3, c4, c5, c6⟩ := bkS hs1
  clear hb1 hs0
  go_wp2_with fail
  refine ((bin H).h1 _).mono ?_
  rintro e w2 ⟨rfl, hb2⟩
  have hs2 := bk_alloc (.cells #[.int .u32 Q1, .int .u32 Q2] 33) (bk_step hb2 hs1)
  have hq := blk_new w2 w2.heap.size 33 #[.int .u32 Q1, .int .u32 Q2] rfl
  clear hb2 hs1 c0 c1 c2 c3 c4 c5 c6
  obtain ⟨c0, c1, c2, c3, c4, c5, c6⟩ := bkS hs2
  have HSF3 : ¬ (9223372036854775807 < S.size + m.size) := by omega
  have HSF4 : S.size + m.size ≤ 9223372036854775807 := by omega
  go_wp2_with fail
  refine ((bin H).h2 _).mono ?_
  rintro e w3 ⟨rfl, hb3⟩
  have hs3 := bk_alloc (.cells #[.int .u32 Q1, .int .u32 Q2] 33) (bk_alloc (.cells #[.int .i64 pg, .int .i64 cm, .string d] 37) (bk_step hb3 hs2))
  have hq3 := ((blk_step hq hb3).alloc (.cells #[.int .i64 pg, .int .i64 cm, .string d] 37)).alloc (.cells #[.int .u32 Q1, .int .u32 Q2] 33)
  clear hb3 hs2 hq c0 c1 c2 c3 c4 c5 c6 HSF3 HSF4
  obtain ⟨c0, c1, c2, c3, c4, c5, c6⟩ := bkS hs3
  obtain ⟨q0, q1⟩ := pair_at hq3
  clear hq3
  go_wp2_with fail
  refine ((bin H).h3 _).mono ?_
  rintro e w4 ⟨rfl, hb4⟩
  have hs4 := bk_step hb4 hs3
  clear hb4 hs3 c0 c1 c2 c3 c4 c5 c6 q0 q1
  obtain ⟨c0, c1, c2, c3, c4, c5, c6⟩ := bkS hs4
  go_wp2_with fail
  refine ((bin H).h4 _).mono ?_
  rintro e w5 ⟨rfl, hb5⟩
  have hs5 := bk_alloc (.cells #[.int .u32 y4, .int .u32 y5] 33) (bk_alloc (.cells #[.int .i64 y1, .int .i64 y2, .string y3] 37) (bk_step hb5 hs4))
  clear hb5 hs4 c0 c1 c2 c3 c4 c5 c6
  obtain ⟨c0, c1, c2, c3, c4, c5, c6⟩ := bkS hs5
  have hy := (bin H).hy
  have hw := (bin H).hw
  go_wp2
  go_ret
  exact ⟨rfl, hs5.2.2.2⟩
set_option maxRecDepth 100000 in
set_option maxHeartbeats 8000000 in
theorem frameBack_ne2 (p1 p2 o1 o2 salt wrong pg cm : Int) (d m S : ByteArray) (Q1 Q2 b1 b2 b4 b5 x : Int) (b3 : ByteArray) (y1 y2 y4 y5 y : Int) (y3 : ByteArray) (bw : Bool) (w : World) (hd : d.size ≤ 8192) (hm : m.size ≤ 8192) (hS : S.size ≤ 576) (hS2 : ((S.size : Int) != 576) = false) (H : Hid (BackIn p1 p2 o1 o2 pg cm salt wrong d m S Q1 Q2 b1 b2 b4 b5 x b3 y1 y2 y4 y5 y y3 bw)) (hx : (x == 0) = false) (n1 : (o1 == p1) = true) (n2 : (o2 == p2) = false) :
    Calls Try.prog 7 #[.agg #[.int .u32 p1, .int .u32 p2], .agg #[.int .u32 o1, .int .u32 o2], .int .u64 salt, .int .u64 wrong, .agg #[.int .i64 pg, .int .i64 cm, .string d], .string m] w fun e w' => e = .returned (.bool true) ∧ Below w.heap.size w w' := by
  have hs0 := bk_new w p1 p2 o1 o2 pg cm d
  go_enter Try.func7, Try.ntmps7
  go_wp2_with fail
  refine (works_any _).mono ?_
  rintro e w1 ⟨rfl, hb1⟩
  have hs1 := bk_step hb1 hs0
  obtain ⟨c0, c1, c2, c3, c4, c5, c6⟩ := bkS hs1
  clear hb1 hs0
  go_wp2_with fail
  refine ((bin H).h1 _).mono ?_
  rintro e w2 ⟨rfl, hb2⟩
  have hs2 := bk_alloc (.cells #[.int .u32 Q1, .int .u32 Q2] 33) (bk_step hb2 hs1)
  have hq := blk_new w2 w2.heap.size 33 #[.int .u32 Q1, .int .u32 Q2] rfl
  clear hb2 hs1 c0 c1 c2 c3 c4 c5 c6
  obtain ⟨c0, c1, c2, c3, c4, c5, c6⟩ := bkS hs2
  have HSF3 : ¬ (9223372036854775807 < S.size + m.size) := by omega
  have HSF4 : S.size + m.size ≤ 9223372036854775807 := by omega
  go_wp2_with fail
  refine ((bin H).h2 _).mono ?_
  rintro e w3 ⟨rfl, hb3⟩
  have hs3 := bk_alloc (.cells #[.int .u32 Q1, .int .u32 Q2] 33) (bk_alloc (.cells #[.int .i64 pg, .int .i64 cm, .string d] 37) (bk_step hb3 hs2))
  have hq3 := ((blk_step hq hb3).alloc (.cells #[.int .i64 pg, .int .i64 cm, .string d] 37)).alloc (.cells #[.int .u32 Q1, .int .u32 Q2] 33)
  clear hb3 hs2 hq c0 c1 c2 c3 c4 c5 c6 HSF3 HSF4
  obtain ⟨c0, c1, c2, c3, c4, c5, c6⟩ := bkS hs3
  obtain ⟨q0, q1⟩ := pair_at hq3
  clear hq3
  go_wp2_with fail
  refine ((bin H).h3 _).mono ?_
  rintro e w4 ⟨rfl, hb4⟩
  have hs4 := bk_step hb4 hs3
  clear hb4 hs3 c0 c1 c2 c3 c4 c5 c6 q0 q1
  obtain ⟨c0, c1, c2, c3, c4, c5, c6⟩ := bkS hs4
  go_wp2_with fail
  refine ((bin H).h4 _).mono ?_
  rintro e w5 ⟨rfl, hb5⟩
  have hs5 := bk_alloc (.cells #[.int .u32 y4, .int .u32 y5] 33) (bk_alloc (.cells #[.int .i64 y1, .int .i64 y2, .string y3] 37) (bk_step hb5 hs4))
  clear hb5 hs4 c0 c1 c2 c3 c4 c5 c6
  obtain ⟨c0, c1, c2, c3, c4, c5, c6⟩ := bkS hs5
  have hy := (bin H).hy
  have hw := (bin H).hw
  go_wp2
  go_ret
  exact ⟨rfl, hs5.2.2.2⟩
theorem tf_zero {p : Int × Int} {salt : Nat} {t : ByteArray} (h : fErr p salt (bts t) ≠ 0) : tfRet p salt t = takeZero (fErr p salt (bts t)) := by unfold tfRet; rw [if_neg h]
theorem int_zero {n : Nat} (h : n ≠ 0) : ((n : Int) == 0) = false := by rw [beq_eq_false_iff_ne]; omega
theorem frameBack_walk (a0 b0 a1 b1 a2 a3 a4 b4 : Int) (c4 m : ByteArray) (w0 : (Lit.int .u32 a0).wf = true) (u0 : (Lit.int .u32 b0).wf = true) (w1 : (Lit.int .u32 a1).wf = true) (u1 : (Lit.int .u32 b1).wf = true) (w2 : (Lit.int .u64 a2).wf = true) (w3 : (Lit.int .u64 a3).wf = true) (_w4 : (Lit.int .i64 a4).wf = true) (_u4 : (Lit.int .i64 b4).wf = true) (_x4 : c4.size ≤ 140737488351232) (_w5 : m.size ≤ 140737488351232) (w : World) :
    Calls Try.prog 7 #[.agg #[.int .u32 a0, .int .u32 b0], .agg #[.int .u32 a1, .int .u32 b1], .int .u64 a2, .int .u64 a3, .agg #[.int .i64 a4, .int .i64 b4, .string c4], .string m] w fun e w' => e = .returned (.bool true) ∧ Below w.heap.size w w' := by
  have hp := fit_wf w0 u0
  have ho := fit_wf w1 u1
  have h2 := bounds_u64 w2
  have h3 := bounds_u64 w3
  clear w0 u0 w1 u1 w2 w3
  by_cases hd : 8192 < c4.size
  · exact frameBack_long1 a0 b0 a1 b1 a2 a3 a4 b4 c4 m w hd
  · by_cases hm : 8192 < m.size
    · exact frameBack_long2 a0 b0 a1 b1 a2 a3 a4 b4 c4 m w (by omega) hm
    · cases hf : okF a4 b4 c4.size with
      | false => exact frameBack_bad a0 b0 a1 b1 a2 a3 a4 b4 c4 m w (by omega) (by omega) (Lib.hid fun w => put_bad _ _ _ _ _ _ w hf)
      | true =>
        obtain ⟨f1, f2, f3, f4, f5⟩ := (okF_iff _ _ _).1 hf
        obtain ⟨salt, rfl⟩ := Int.eq_ofNat_of_zero_le h2.1
        obtain ⟨wrong, rfl⟩ := Int.eq_ofNat_of_zero_le h3.1
        obtain ⟨pg, rfl⟩ := Int.eq_ofNat_of_zero_le (show 0 ≤ a4 from by omega)
        obtain ⟨cm, rfl⟩ := Int.eq_ofNat_of_zero_le f3
        have hsalt : salt < 18446744073709551616 := by omega
        have hSz := frameL_size (a0, b0) pg cm salt c4 f5
        have hput := fun w => put_ok a0 b0 salt pg cm c4 w hp hsalt (by omega) (by omega) f5 hf
        have hback := fun w => take_any a0 b0 salt (bstr (frameL (a0, b0) pg cm salt (bts c4)) ++ m) w hp (by rw [ByteArray.size_append, hSz]; omega)
        have htake := fun (q1 q2 : Int) (sl : Nat) (hq : Fit (q1, q2)) (w : World) => take_any q1 q2 sl (bstr (frameL (a0, b0) pg cm salt (bts c4))) w hq (by rw [hSz]; omega)
        have k0 := take_put (a0, b0) (a0, b0) pg cm salt salt c4 m hp hp hsalt (by omega) (by omega) (by omega) f5
        have e0 := k0.2 (k0.1.2 ⟨rfl, rfl⟩)
        rw [e0] at hback
        have kk := fun (q : Int × Int) (sl : Nat) (hq : Fit q) => take_put (a0, b0) q pg cm salt sl c4 ⟨#[]⟩ hp hq hsalt (by omega) (by omega) (by omega) f5
        simp only [app_none] at kk
        have hS2 : (((bstr (frameL (a0, b0) pg cm salt (bts c4))).size : Int) != 576) = false := by rw [hSz]; rfl
        have hS1 : (bstr (frameL (a0, b0) pg cm salt (bts c4))).size ≤ 576 := by omega
        generalize hFS : bstr (frameL (a0, b0) pg cm salt (bts c4)) = S at *
        generalize hFQ : frameQ (a0, b0) pg cm salt (bts c4) = Q at *
        -- the wrong salt
        have hw : ∃ (y1 y2 y4 y5 y : Int) (y3 : ByteArray) (bw : Bool), (∀ w, Calls Try.prog 14 #[.agg #[.int .u32 a0, .int .u32 b0], .int .u64 wrong, .string S] w fun e w' => e = .returned (.tuple #[.agg #[.int .i64 y1, .int .i64 y2, .string y3], .agg #[.int .u32 y4, .int .u32 y5], .int .i64 y]) ∧ Below w.heap.size w w') ∧ (y == 0) = bw ∧ (((wrong : Nat) : Int) == (salt : Int)) = bw := by
          obtain ⟨k1, k2⟩ := kk (a0, b0) wrong hp
          have ht := htake a0 b0 wrong hp
          by_cases hz : fErr (a0, b0) wrong (bts S) = 0
          · rw [k2 hz] at ht
            exact ⟨_, _, _, _, 0, _, true, ht, rfl, by rw [(k1.1 hz).2]; simp⟩
          · rw [tf_zero hz] at ht
            exact ⟨0, 0, 0, 0, _, ⟨#[]⟩, false, ht, int_zero hz, by rw [beq_eq_false_iff_ne]; exact fun h => hz (k1.2 ⟨rfl, by omega⟩)⟩
        obtain ⟨y1, y2, y4, y5, y, y3, bw, hw4, hy, hwr⟩ := hw
        obtain ⟨k1, k2⟩ := kk (a1, b1) salt ho
        have ht := htake a1 b1 salt ho
        by_cases hz : fErr (a1, b1) salt (bts S) = 0
        · rw [k2 hz] at ht
          have e := (k1.1 hz).1
          simp only [Prod.mk.injEq] at e
          obtain ⟨rfl, rfl⟩ := e
          exact frameBack_eq _ _ _ _ _ _ c4 m S Q.1 Q.2 _ _ _ _ 0 _ y1 y2 y4 y5 y y3 bw w (by omega) (by omega) hS1 hS2 (Lib.hid ⟨hput, hback, ht, hw4, hy, hwr⟩) rfl
        · rw [tf_zero hz] at ht
          refine ne_pair (x := a1) (x' := a0) (y := b1) (y' := b0) (fun h => hz (k1.2 ⟨by rw [h.1, h.2], rfl⟩)) (fun g => ?_) (fun g1 g2 => ?_)
          · exact frameBack_ne1 _ _ _ _ _ _ _ _ c4 m S Q.1 Q.2 0 0 0 0 _ ⟨#[]⟩ y1 y2 y4 y5 y y3 bw w (by omega) (by omega) hS1 hS2 (Lib.hid ⟨hput, hback, ht, hw4, hy, hwr⟩) (int_zero hz) g
          · exact frameBack_ne2 _ _ _ _ _ _ _ _ c4 m S Q.1 Q.2 0 0 0 0 _ ⟨#[]⟩ y1 y2 y4 y5 y y3 bw w (by omega) (by omega) hS1 hS2 (Lib.hid ⟨hput, hback, ht, hw4, hy, hwr⟩) (int_zero hz) g1 g2
end Go.Proofs.Ytpgjlpljjbgplaa
