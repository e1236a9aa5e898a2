/- ship.Take. Conditions: a text is no longer than a machine has addresses. -/
import Derived.Test.YtkocdaillkhkfaaShipTake1
namespace Go.Proofs.Ytkocdaillkhkfaa
open Go.RowKit
set_option linter.unusedVariables false
def shipZero : Value := .agg #[.int .u8 0, .int .u64 0, .int .u64 0, .bool false, .int .i64 0, .slice none 0 0]
def Tz (w : World) (W : World) : Prop := Blk W w.heap.size 28 #[.int .u8 0, .int .u64 0, .int .u64 0, .bool false, .int .i64 0, .slice none 0 0] ∧ Below w.heap.size w W
theorem tz_step {w W W' : World} (hb : Below W.heap.size W W') (h : Tz w W) : Tz w W' := ⟨blk_step h.1 hb, bj h.2 hb⟩
theorem tz_alloc {w W : World} (o : Obj) (h : Tz w W) : Tz w (W.alloc o) := tz_step ((Below.refl _ _).alloc (Nat.le_refl _) _) h
theorem tz_drewN {w W : World} (n : Nat) (h : Tz w W) : Tz w (W.drewN n) := ⟨h.1.drewN n, below_drewN h.2 n⟩
theorem tzR {w W : World} (h : Tz w W) : W.cell? ⟨w.heap.size, 0, none⟩ = some (.int .u8 0) ∧ W.cell? ⟨w.heap.size, 1, none⟩ = some (.int .u64 0) ∧ W.cell? ⟨w.heap.size, 2, none⟩ = some (.int .u64 0) ∧ W.cell? ⟨w.heap.size, 3, none⟩ = some (.bool false) ∧ W.cell? ⟨w.heap.size, 4, none⟩ = some (.int .i64 0) ∧ W.cell? ⟨w.heap.size, 5, none⟩ = some (.slice none 0 0) ∧
    W.frozen? ⟨w.heap.size, 0, none⟩ = false ∧ W.frozen? ⟨w.heap.size, 1, none⟩ = false ∧ W.frozen? ⟨w.heap.size, 2, none⟩ = false ∧ W.frozen? ⟨w.heap.size, 3, none⟩ = false ∧ W.frozen? ⟨w.heap.size, 4, none⟩ = false ∧ W.frozen? ⟨w.heap.size, 5, none⟩ = false :=
  ⟨h.1.cell 0, h.1.cell 1, h.1.cell 2, h.1.cell 3, h.1.cell 4, h.1.cell 5, h.1.frozen 0, h.1.frozen 1, h.1.frozen 2, h.1.frozen 3, h.1.frozen 4, h.1.frozen 5⟩
theorem tz_new (w : World) : Tz w (w.alloc (.cells #[.int .u8 0, .int .u64 0, .int .u64 0, .bool false, .int .i64 0, .slice none 0 0] 28)) := ⟨Blk.new _ _ _, (Below.refl _ _).alloc (Nat.le_refl _) _⟩
theorem tz_end {w W : World} (h : Tz w W) (a b c d e f : Value) : Below w.heap.size w ((((((W.setCell ⟨w.heap.size, 0, none⟩ a).setCell ⟨w.heap.size, 1, none⟩ b).setCell ⟨w.heap.size, 2, none⟩ c).setCell ⟨w.heap.size, 3, none⟩ d).setCell ⟨w.heap.size, 4, none⟩ e).setCell ⟨w.heap.size, 5, none⟩ f) :=
  (((((h.2.setCell (Nat.le_refl _) _).setCell (Nat.le_refl _) _).setCell (Nat.le_refl _) _).setCell (Nat.le_refl _) _).setCell (Nat.le_refl _) _).setCell (Nat.le_refl _) _
set_option maxRecDepth 100000 in
set_option maxHeartbeats 2000000 in
theorem shipTake_len (s : ByteArray) (w : World) (hz : s.size ≤ 140737488351232) (hs : s.size < 56 ∨ 56 ≤ s.size ∧ s.size % 8 ≠ 0) :
    Calls Try.prog 12 #[.string s] w fun e w' => e = .returned (.tuple #[shipZero, .int .i64 7]) ∧ Below w.heap.size w w' := by
  have hz0 := tz_new w
  have HZ0 := Lib.hid hz0
  clear hz0
  rcases hs with hs | ⟨hs, hm⟩
  · go_enter Try.func12, Try.ntmps12
    go_wp2
    exact bodyPost_ret (v := .tuple #[shipZero, .int .i64 7]) (by simp [shipZero, results, Try.results12, go_sem]) rfl ⟨rfl, HZ0.out.2⟩
  · have hm' : ((s.size : Int) % 8 != 0) = true := by rw [bne_iff_ne]; omega
    clear hm
    go_enter Try.func12, Try.ntmps12
    go_wp2
    exact bodyPost_ret (v := .tuple #[shipZero, .int .i64 7]) (by simp [shipZero, results, Try.results12, go_sem]) rfl ⟨rfl, HZ0.out.2⟩
set_option maxRecDepth 100000 in
set_option maxHeartbeats 8000000 in
theorem shipTake_sum (s : ByteArray) (P1 P2 Q1 Q2 e0 : Int) (w : World) (hz : s.size ≤ 140737488351232) (hs : 56 ≤ s.size) (hm : ((s.size : Int) % 8 != 0) = false)
    (H1 : Hid (∀ w, Calls Try.prog 26 #[.string s] w fun e w' => e = .returned (.tuple #[.agg #[.int .u32 P1, .int .u32 P2], .int .i64 e0]) ∧ Below w.heap.size w w'))
    (H2 : Hid (∀ w, Calls Try.prog 24 #[.string (s.extract 8 s.size)] w fun e w' => e = .returned (.agg #[.int .u32 Q1, .int .u32 Q2]) ∧ Below w.heap.size w w'))
    (hne : ¬ (P1 = Q1 ∧ P2 = Q2)) :
    Calls Try.prog 12 #[.string s] w fun e w' => e = .returned (.tuple #[shipZero, .int .i64 40]) ∧ Below w.heap.size w w' := by
  have hz0 := tz_new w
  have h8 : (8 : Int) ≤ s.size := by omega
  have h56 : (56 : Int) ≤ s.size := by omega
  refine ne_pair hne (fun n1 => ?_) (fun n1 n2 => ?_)
  all_goals
    clear hne
    go_enter Try.func12, Try.ntmps12
    go_wp2_with fail
    refine (H1.out _).mono ?_
    rintro e w1 ⟨rfl, hb1⟩
    have hz1 := tz_step hb1 hz0
    have hz2 := tz_alloc (.cells #[.string (s.extract 8 s.size)] 9) (tz_alloc (.cells #[.int .u32 P1, .int .u32 P2] 56) hz1)
    have k4 := (blk_new w1 w1.heap.size 56 #[.int .u32 P1, .int .u32 P2] rfl).alloc (.cells #[.string (s.extract 8 s.size)] 9)
    have k6 := blk_new (w1.alloc (.cells #[.int .u32 P1, .int .u32 P2] 56)) (w1.heap.size + 1) 9 #[.string (s.extract 8 s.size)] (by simp)
    have HK4 := Lib.hid k4
    have HZ2 := Lib.hid hz2
    obtain ⟨p0, p1⟩ := pair_at k4
    have c6 : ((w1.alloc (.cells #[.int .u32 P1, .int .u32 P2] 56)).alloc (.cells #[.string (s.extract 8 s.size)] 9)).cell? ⟨w1.heap.size + 1, 0, none⟩ = some (.string (s.extract 8 s.size)) := k6.cell 0
    clear hb1 hz1 hz2 k4 k6
    go_wp2_with fail
    go_region_with ((go_at_call 24; (with_reducible refine (H2.out _).mono ?_); rintro e w2 ⟨rfl, hb2⟩; (have hz3 := tz_step hb2 (tz_step (Below.refl _ _).drew HZ2.out)); (obtain ⟨q0, q1⟩ := pair_at (blk_step HK4.out.drew hb2)); (obtain ⟨r0, r1, r2, r3, r4, r5, f0, f1, f2, f3, f4, f5⟩ := tzR hz3)))
    all_goals go_wp2
    all_goals refine bodyPost_ret (v := .tuple #[shipZero, .int .i64 40]) (by simp [shipZero, results, Try.results12, go_sem, r0, r1, r2, r3, r4, r5]) rfl ⟨rfl, tz_end hz3 _ _ _ _ _ _⟩
end Go.Proofs.Ytkocdaillkhkfaa
