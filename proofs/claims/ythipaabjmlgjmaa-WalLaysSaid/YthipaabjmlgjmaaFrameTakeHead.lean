/- frame.TakeHead. Conditions: a text is no longer than a machine has addresses. -/
import Derived.Test.YthipaabjmlgjmaaFrameHead
import Derived.Deep.QuietTactic
import Derived.BigQuiet
import Derived.Outline
import Derived.Deep.DeepCutAuto
namespace Go.Proofs.Ythipaabjmlgjmaa
open Go.RowKit
set_option maxRecDepth 100000 in
set_option maxHeartbeats 2000000 in
theorem takeHead_len (s : ByteArray) (w : World) (hs : s.size < 64) :
    Calls Try.prog 55 #[.string s] w fun e w' => e = .returned (.tuple #[.agg #[.int .u64 0, .int .i64 0, .int .i64 0], .int .i64 10]) ∧ Below w.heap.size w w' := by
  go_enter Try.func55, Try.ntmps55
  go_wp2
  refine bodyPost_ret (v := .tuple #[.agg #[.int .u64 0, .int .i64 0, .int .i64 0], .int .i64 10]) (by simp [results, Try.results55, go_sem]) rfl ⟨rfl, ?_⟩
  exact (Below.refl _ _).alloc (Nat.le_refl _) _
theorem below_drewN {B : Nat} {a w : World} (h : Below B a w) (n : Nat) : Below B a (w.drewN n) := ⟨h.os, h.tape, h.output, h.size, h.block⟩
structure HeadIn (s Z T : ByteArray) (N F P a b c Q1 Q2 : Int) (p z q : Bool) : Prop where
  hN : ∀ w, Calls Try.prog 80 #[.string (s.extract 8 s.size)] w fun e w' => e = .returned (.tuple #[.int .u64 N, .int .i64 a]) ∧ w = w'
  hF : ∀ w, Calls Try.prog 81 #[.string (s.extract 16 s.size)] w fun e w' => e = .returned (.tuple #[.int .u32 F, .int .i64 b]) ∧ w = w'
  hP : ∀ w, Calls Try.prog 81 #[.string (s.extract 20 s.size)] w fun e w' => e = .returned (.tuple #[.int .u32 P, .int .i64 c]) ∧ w = w'
  hp : ∀ w, Calls Try.prog 61 #[.string s, .string ⟨#[99, 111, 117, 110, 116, 101, 114, 102]⟩] w fun e w' => e = .returned (.bool p) ∧ w = w'
  hn : ∀ w, Calls Try.prog 73 #[.int .i64 32] w fun e w' => e = .returned (.string Z) ∧ Below w.heap.size w w'
  ho : ∀ w, Calls Try.prog 72 #[.string (s.extract 0 24)] w fun e w' => e = .returned (.agg #[.int .u32 Q1, .int .u32 Q2]) ∧ Below w.heap.size w w'
  ht : ∀ w, Calls Try.prog 71 #[.agg #[.int .u32 Q1, .int .u32 Q2]] w fun e w' => e = .returned (.string T) ∧ Below w.heap.size w w'
  hz : ((s.extract 32 64).toList == Z.toList) = z
  hq : ((s.extract 24 32).toList == T.toList) = q
theorem hin {s Z T : ByteArray} {N F P a b c Q1 Q2 : Int} {p z q : Bool} (h : Hid (HeadIn s Z T N F P a b c Q1 Q2 p z q)) : HeadIn s Z T N F P a b c Q1 Q2 p z q := h
theorem zb {w w4 : World} {o : Obj} (hb4 : Below (w.alloc o).drew.heap.size (w.alloc o).drew w4) : Below w.heap.size w w4 :=
  bj ((Below.refl _ _).alloc (Nat.le_refl _) o).drew hb4
section
variable {s Z T : ByteArray} {N F P a b c Q1 Q2 : Int} {z q : Bool} (w : World) (hs : 64 ≤ s.size)
include hs
set_option maxRecDepth 100000 in
set_option maxHeartbeats 4000000 in
theorem takeHead_a (H : Hid (HeadIn s Z T N F P a b c Q1 Q2 false z q)) :
    Calls Try.prog 55 #[.string s] w fun e w' => e = .returned (.tuple #[.agg #[.int .u64 0, .int .i64 0, .int .i64 0], .int .i64 11]) ∧ Below w.heap.size w w' := by
  have hs8 : (8 : Int) ≤ s.size := by omega
  have hs16 : (16 : Int) ≤ s.size := by omega
  have hs20 : (20 : Int) ≤ s.size := by omega
  have hs24 : (24 : Int) ≤ s.size := by omega
  have hs32 : (32 : Int) ≤ s.size := by omega
  have hs64 : (64 : Int) ≤ s.size := by omega
  go_enter Try.func55, Try.ntmps55
  go_wp2_with (first
      | (go_at_call 80; refine ((hin H).hN _).mono ?_; rintro e w3 ⟨rfl, rfl⟩)
      | (go_at_call 81; (with_reducible refine ((hin H).hF _).mono ?_); rintro e w3 ⟨rfl, rfl⟩)
      | (go_at_call 81; (with_reducible refine ((hin H).hP _).mono ?_); rintro e w3 ⟨rfl, rfl⟩))
  go_quiet ((go_at_call 61; exact Calls.quiet_of_same (((hin H).hp _).mono fun _ _ h => ⟨h.1, h.2.symm⟩)))
  go_wp2
  refine bodyPost_ret (v := .tuple #[.agg #[.int .u64 0, .int .i64 0, .int .i64 0], .int .i64 11]) (by simp [results, Try.results55, go_sem, *]) rfl ⟨rfl, ?_⟩
  exact (((below_drewN ((Below.refl _ _).alloc (Nat.le_refl _) _) _).setCell (Nat.le_refl _) _).setCell (Nat.le_refl _) _).setCell (Nat.le_refl _) _
set_option maxRecDepth 100000 in
set_option maxHeartbeats 4000000 in
theorem takeHead_b (H : Hid (HeadIn s Z T N F P a b c Q1 Q2 true false q)) :
    Calls Try.prog 55 #[.string s] w fun e w' => e = .returned (.tuple #[.agg #[.int .u64 0, .int .i64 0, .int .i64 0], .int .i64 11]) ∧ Below w.heap.size w w' := by
  have hs8 : (8 : Int) ≤ s.size := by omega
  have hs16 : (16 : Int) ≤ s.size := by omega
  have hs20 : (20 : Int) ≤ s.size := by omega
  have hs24 : (24 : Int) ≤ s.size := by omega
  have hs32 : (32 : Int) ≤ s.size := by omega
  have hs64 : (64 : Int) ≤ s.size := by omega
  go_enter Try.func55, Try.ntmps55
  go_wp2_with (first
      | (go_at_call 80; refine ((hin H).hN _).mono ?_; rintro e w3 ⟨rfl, rfl⟩)
      | (go_at_call 81; (with_reducible refine ((hin H).hF _).mono ?_); rintro e w3 ⟨rfl, rfl⟩)
      | (go_at_call 81; (with_reducible refine ((hin H).hP _).mono ?_); rintro e w3 ⟨rfl, rfl⟩))
  have hz := (hin H).hz
  go_region_with (first | (go_at_call 61; (with_reducible refine ((hin H).hp _).mono ?_); rintro e w3 ⟨rfl, rfl⟩) | (go_at_call 73; (with_reducible refine ((hin H).hn _).mono ?_); rintro e w4 ⟨rfl, hb4⟩; (have hq := ((Blk.new w 45 #[.int .u64 0, .int .i64 0, .int .i64 0]).drew).below hb4 (by simp)); (have hb := zb hb4); (have r0 : w4.cell? ⟨w.heap.size, 0, none⟩ = some (.int .u64 0) := hq.cell 0); (have r1 : w4.cell? ⟨w.heap.size, 1, none⟩ = some (.int .i64 0) := hq.cell 1); (have r2 : w4.cell? ⟨w.heap.size, 2, none⟩ = some (.int .i64 0) := hq.cell 2); (have f0 := hq.frozen 0); (have f1 := hq.frozen 1); (have f2 := hq.frozen 2)))
  all_goals go_wp2
  all_goals refine bodyPost_ret (v := .tuple #[.agg #[.int .u64 0, .int .i64 0, .int .i64 0], .int .i64 11]) (by simp [results, Try.results55, go_sem, *]) rfl ⟨rfl, ?_⟩
  all_goals exact ((hb.setCell (Nat.le_refl _) _).setCell (Nat.le_refl _) _).setCell (Nat.le_refl _) _
set_option maxRecDepth 100000 in
set_option maxHeartbeats 4000000 in
theorem takeHead_c (H : Hid (HeadIn s Z T N F P a b c Q1 Q2 true true q)) (_hF0 : 0 ≤ F) (hF : 256 < F) :
    Calls Try.prog 55 #[.string s] w fun e w' => e = .returned (.tuple #[.agg #[.int .u64 0, .int .i64 0, .int .i64 0], .int .i64 11]) ∧ Below w.heap.size w w' := by
  have hs8 : (8 : Int) ≤ s.size := by omega
  have hs16 : (16 : Int) ≤ s.size := by omega
  have hs20 : (20 : Int) ≤ s.size := by omega
  have hs24 : (24 : Int) ≤ s.size := by omega
  have hs32 : (32 : Int) ≤ s.size := by omega
  have hs64 : (64 : Int) ≤ s.size := by omega
  go_enter Try.func55, Try.ntmps55
  go_wp2_with (first
      | (go_at_call 80; refine ((hin H).hN _).mono ?_; rintro e w3 ⟨rfl, rfl⟩)
      | (go_at_call 81; (with_reducible refine ((hin H).hF _).mono ?_); rintro e w3 ⟨rfl, rfl⟩)
      | (go_at_call 81; (with_reducible refine ((hin H).hP _).mono ?_); rintro e w3 ⟨rfl, rfl⟩))
  have hz := (hin H).hz
  go_region_with (first | (go_at_call 61; (with_reducible refine ((hin H).hp _).mono ?_); rintro e w3 ⟨rfl, rfl⟩) | (go_at_call 73; (with_reducible refine ((hin H).hn _).mono ?_); rintro e w4 ⟨rfl, hb4⟩; (have hq := ((Blk.new w 45 #[.int .u64 0, .int .i64 0, .int .i64 0]).drew).below hb4 (by simp)); (have hb := zb hb4); (have r0 : w4.cell? ⟨w.heap.size, 0, none⟩ = some (.int .u64 0) := hq.cell 0); (have r1 : w4.cell? ⟨w.heap.size, 1, none⟩ = some (.int .i64 0) := hq.cell 1); (have r2 : w4.cell? ⟨w.heap.size, 2, none⟩ = some (.int .i64 0) := hq.cell 2); (have f0 := hq.frozen 0); (have f1 := hq.frozen 1); (have f2 := hq.frozen 2)))
  all_goals go_wp2
  all_goals refine bodyPost_ret (v := .tuple #[.agg #[.int .u64 0, .int .i64 0, .int .i64 0], .int .i64 11]) (by simp [results, Try.results55, go_sem, *]) rfl ⟨rfl, ?_⟩
  all_goals exact ((hb.setCell (Nat.le_refl _) _).setCell (Nat.le_refl _) _).setCell (Nat.le_refl _) _
set_option maxRecDepth 100000 in
set_option maxHeartbeats 4000000 in
theorem takeHead_d (H : Hid (HeadIn s Z T N F P a b c Q1 Q2 true true q)) (_hF0 : 0 ≤ F) (hF : F ≤ 256) (hP : 256 < P) :
    Calls Try.prog 55 #[.string s] w fun e w' => e = .returned (.tuple #[.agg #[.int .u64 0, .int .i64 0, .int .i64 0], .int .i64 11]) ∧ Below w.heap.size w w' := by
  have hs8 : (8 : Int) ≤ s.size := by omega
  have hs16 : (16 : Int) ≤ s.size := by omega
  have hs20 : (20 : Int) ≤ s.size := by omega
  have hs24 : (24 : Int) ≤ s.size := by omega
  have hs32 : (32 : Int) ≤ s.size := by omega
  have hs64 : (64 : Int) ≤ s.size := by omega
  go_enter Try.func55, Try.ntmps55
  go_wp2_with (first
      | (go_at_call 80; refine ((hin H).hN _).mono ?_; rintro e w3 ⟨rfl, rfl⟩)
      | (go_at_call 81; (with_reducible refine ((hin H).hF _).mono ?_); rintro e w3 ⟨rfl, rfl⟩)
      | (go_at_call 81; (with_reducible refine ((hin H).hP _).mono ?_); rintro e w3 ⟨rfl, rfl⟩))
  have hz := (hin H).hz
  go_region_with (first | (go_at_call 61; (with_reducible refine ((hin H).hp _).mono ?_); rintro e w3 ⟨rfl, rfl⟩) | (go_at_call 73; (with_reducible refine ((hin H).hn _).mono ?_); rintro e w4 ⟨rfl, hb4⟩; (have hq := ((Blk.new w 45 #[.int .u64 0, .int .i64 0, .int .i64 0]).drew).below hb4 (by simp)); (have hb := zb hb4); (have r0 : w4.cell? ⟨w.heap.size, 0, none⟩ = some (.int .u64 0) := hq.cell 0); (have r1 : w4.cell? ⟨w.heap.size, 1, none⟩ = some (.int .i64 0) := hq.cell 1); (have r2 : w4.cell? ⟨w.heap.size, 2, none⟩ = some (.int .i64 0) := hq.cell 2); (have f0 := hq.frozen 0); (have f1 := hq.frozen 1); (have f2 := hq.frozen 2)))
  all_goals go_wp2
  all_goals refine bodyPost_ret (v := .tuple #[.agg #[.int .u64 0, .int .i64 0, .int .i64 0], .int .i64 11]) (by simp [results, Try.results55, go_sem, *]) rfl ⟨rfl, ?_⟩
  all_goals exact ((hb.setCell (Nat.le_refl _) _).setCell (Nat.le_refl _) _).setCell (Nat.le_refl _) _
set_option maxRecDepth 100000 in
set_option maxHeartbeats 4000000 in
theorem takeHead_e (H : Hid (HeadIn s Z T N F P a b c Q1 Q2 true true false)) (hF0 : 0 ≤ F) (hF : F ≤ 256) (hP : P ≤ 256) (hP0 : 0 ≤ P) :
    Calls Try.prog 55 #[.string s] w fun e w' => e = .returned (.tuple #[.agg #[.int .u64 0, .int .i64 0, .int .i64 0], .int .i64 40]) ∧ Below w.heap.size w w' := by
  have hs8 : (8 : Int) ≤ s.size := by omega
  have hs16 : (16 : Int) ≤ s.size := by omega
  have hs20 : (20 : Int) ≤ s.size := by omega
  have hs24 : (24 : Int) ≤ s.size := by omega
  have hs32 : (32 : Int) ≤ s.size := by omega
  have hs64 : (64 : Int) ≤ s.size := by omega
  go_enter Try.func55, Try.ntmps55
  go_wp2_with (first
      | (go_at_call 80; refine ((hin H).hN _).mono ?_; rintro e w3 ⟨rfl, rfl⟩)
      | (go_at_call 81; (with_reducible refine ((hin H).hF _).mono ?_); rintro e w3 ⟨rfl, rfl⟩)
      | (go_at_call 81; (with_reducible refine ((hin H).hP _).mono ?_); rintro e w3 ⟨rfl, rfl⟩))
  have hz := (hin H).hz
  have hq' := (hin H).hq
  go_region_with (first | (go_at_call 61; (with_reducible refine ((hin H).hp _).mono ?_); rintro e w3 ⟨rfl, rfl⟩) | (go_at_call 73; (with_reducible refine ((hin H).hn _).mono ?_); rintro e w4 ⟨rfl, hb4⟩; (have hq := ((Blk.new w 45 #[.int .u64 0, .int .i64 0, .int .i64 0]).drew).below hb4 (by simp)); (have hb := zb hb4); (have r0 : w4.cell? ⟨w.heap.size, 0, none⟩ = some (.int .u64 0) := hq.cell 0); (have r1 : w4.cell? ⟨w.heap.size, 1, none⟩ = some (.int .i64 0) := hq.cell 1); (have r2 : w4.cell? ⟨w.heap.size, 2, none⟩ = some (.int .i64 0) := hq.cell 2); (have f0 := hq.frozen 0); (have f1 := hq.frozen 1); (have f2 := hq.frozen 2)))
  all_goals go_wp2
  all_goals go_region_with (first | (go_at_call 72; (with_reducible refine ((hin H).ho _).mono ?_); rintro e w5 ⟨rfl, hb5⟩; (replace hq := hq.drew.below hb5 (by have := hq.lt; simpa using this)); (replace hb := bj hb.drew hb5)) | (go_at_call 71; (with_reducible refine ((hin H).ht _).mono ?_); rintro e w6 ⟨rfl, hb6⟩; (replace hq := hq.below hb6 hq.lt); (replace hb := bj hb hb6); (have r0 : w6.cell? ⟨w.heap.size, 0, none⟩ = some (.int .u64 0) := hq.cell 0); (have r1 : w6.cell? ⟨w.heap.size, 1, none⟩ = some (.int .i64 0) := hq.cell 1); (have r2 : w6.cell? ⟨w.heap.size, 2, none⟩ = some (.int .i64 0) := hq.cell 2); (have f0 := hq.frozen 0); (have f1 := hq.frozen 1); (have f2 := hq.frozen 2)))
  all_goals go_wp2
  all_goals refine bodyPost_ret (v := .tuple #[.agg #[.int .u64 0, .int .i64 0, .int .i64 0], .int .i64 40]) (by simp [results, Try.results55, go_sem, *]) rfl ⟨rfl, ?_⟩
  all_goals exact ((hb.setCell (Nat.le_refl _) _).setCell (Nat.le_refl _) _).setCell (Nat.le_refl _) _
set_option maxRecDepth 100000 in
set_option maxHeartbeats 4000000 in
theorem takeHead_f (H : Hid (HeadIn s Z T N F P a b c Q1 Q2 true true true)) (hF0 : 0 ≤ F) (hF : F ≤ 256) (hP : P ≤ 256) (hP0 : 0 ≤ P) :
    Calls Try.prog 55 #[.string s] w fun e w' => e = .returned (.tuple #[.agg #[.int .u64 N, .int .i64 F, .int .i64 P], .int .i64 0]) ∧ Below w.heap.size w w' := by
  have hs8 : (8 : Int) ≤ s.size := by omega
  have hs16 : (16 : Int) ≤ s.size := by omega
  have hs20 : (20 : Int) ≤ s.size := by omega
  have hs24 : (24 : Int) ≤ s.size := by omega
  have hs32 : (32 : Int) ≤ s.size := by omega
  have hs64 : (64 : Int) ≤ s.size := by omega
  go_enter Try.func55, Try.ntmps55
  go_wp2_with (first
      | (go_at_call 80; refine ((hin H).hN _).mono ?_; rintro e w3 ⟨rfl, rfl⟩)
      | (go_at_call 81; (with_reducible refine ((hin H).hF _).mono ?_); rintro e w3 ⟨rfl, rfl⟩)
      | (go_at_call 81; (with_reducible refine ((hin H).hP _).mono ?_); rintro e w3 ⟨rfl, rfl⟩))
  have hz := (hin H).hz
  have hq' := (hin H).hq
  go_region_with (first | (go_at_call 61; (with_reducible refine ((hin H).hp _).mono ?_); rintro e w3 ⟨rfl, rfl⟩) | (go_at_call 73; (with_reducible refine ((hin H).hn _).mono ?_); rintro e w4 ⟨rfl, hb4⟩; (have hq := ((Blk.new w 45 #[.int .u64 0, .int .i64 0, .int .i64 0]).drew).below hb4 (by simp)); (have hb := zb hb4); (have r0 : w4.cell? ⟨w.heap.size, 0, none⟩ = some (.int .u64 0) := hq.cell 0); (have r1 : w4.cell? ⟨w.heap.size, 1, none⟩ = some (.int .i64 0) := hq.cell 1); (have r2 : w4.cell? ⟨w.heap.size, 2, none⟩ = some (.int .i64 0) := hq.cell 2); (have f0 := hq.frozen 0); (have f1 := hq.frozen 1); (have f2 := hq.frozen 2)))
  all_goals go_wp2
  all_goals go_region_with (first | (go_at_call 72; (with_reducible refine ((hin H).ho _).mono ?_); rintro e w5 ⟨rfl, hb5⟩; (replace hq := hq.drew.below hb5 (by have := hq.lt; simpa using this)); (replace hb := bj hb.drew hb5)) | (go_at_call 71; (with_reducible refine ((hin H).ht _).mono ?_); rintro e w6 ⟨rfl, hb6⟩; (replace hq := hq.below hb6 hq.lt); (replace hb := bj hb hb6); (have r0 : w6.cell? ⟨w.heap.size, 0, none⟩ = some (.int .u64 0) := hq.cell 0); (have r1 : w6.cell? ⟨w.heap.size, 1, none⟩ = some (.int .i64 0) := hq.cell 1); (have r2 : w6.cell? ⟨w.heap.size, 2, none⟩ = some (.int .i64 0) := hq.cell 2); (have f0 := hq.frozen 0); (have f1 := hq.frozen 1); (have f2 := hq.frozen 2)))
  all_goals go_wp2
  all_goals refine bodyPost_ret (v := .tuple #[.agg #[.int .u64 N, .int .i64 F, .int .i64 P], .int .i64 0]) (by simp [results, Try.results55, go_sem, *]) rfl ⟨rfl, ?_⟩
  all_goals exact ((hb.setCell (Nat.le_refl _) _).setCell (Nat.le_refl _) _).setCell (Nat.le_refl _) _
end
end Go.Proofs.Ythipaabjmlgjmaa
