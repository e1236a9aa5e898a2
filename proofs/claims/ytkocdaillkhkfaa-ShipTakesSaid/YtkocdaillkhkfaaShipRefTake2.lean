/- The document's own Take of a ship's bytes. Conditions: a text is no longer than is gone through. -/
import Derived.Test.YtkocdaillkhkfaaShipRefTake1
import Derived.Test.YtkocdaillkhkfaaShipRefPut
import Derived.Deep.RegionLaw
import Derived.Deep.AppendLies
import Derived.Deep.LoopGhost
namespace Go.Proofs.Ytkocdaillkhkfaa
open Go.RowKit
set_option linter.unusedVariables false
set_option maxRecDepth 100000 in
set_option maxHeartbeats 2000000 in
theorem refTake_short (s : ByteArray) (w : World) (hz : s.size ≤ 1000000) (hs : s.size < 56 ∨ 56 ≤ s.size ∧ s.size % 8 ≠ 0) :
    Calls Try.prog 18 #[.string s] w fun e w' => e = .returned (.tuple #[.agg #[.int .u8 0, .int .u64 0, .int .u64 0, .bool false, .int .i64 0, .slice none 0 0], .int .i64 7]) ∧ Below w.heap.size w w' := by
  have hz0 := tz_new w
  have HZ0 := Lib.hid hz0
  clear hz0
  rcases hs with hs | ⟨hs, hm⟩
  · go_enter Try.func18, Try.ntmps18
    go_wp2
    exact bodyPost_ret (v := .tuple #[.agg #[.int .u8 0, .int .u64 0, .int .u64 0, .bool false, .int .i64 0, .slice none 0 0], .int .i64 7]) (by simp [results, Try.results18, go_sem]) rfl ⟨rfl, HZ0.out.2⟩
  · have hm' : ((s.size : Int) % 8 != 0) = true := by rw [bne_iff_ne]; omega
    clear hm
    go_enter Try.func18, Try.ntmps18
    go_wp2
    exact bodyPost_ret (v := .tuple #[.agg #[.int .u8 0, .int .u64 0, .int .u64 0, .bool false, .int .i64 0, .slice none 0 0], .int .i64 7]) (by simp [results, Try.results18, go_sem]) rfl ⟨rfl, HZ0.out.2⟩
set_option maxRecDepth 100000 in
set_option maxHeartbeats 4000000 in
theorem refTake_sum (s : ByteArray) (Q1 Q2 : Int) (Y : ByteArray) (w : World) (hz : s.size ≤ 1000000) (hs : 56 ≤ s.size) (hm : ((s.size : Int) % 8 != 0) = false)
    (HA : Hid (∀ w, Calls Try.prog 34 #[.agg #[.int .u32 0, .int .u32 0], .string (s.extract 8 s.size)] w fun e w' => e = .returned (.agg #[.int .u32 Q1, .int .u32 Q2]) ∧ Below w.heap.size w w'))
    (HX : Hid (∀ w, Calls Try.prog 33 #[.agg #[.int .u32 Q1, .int .u32 Q2]] w fun e w' => e = .returned (.string Y) ∧ Below w.heap.size w w'))
    (hne : ((s.extract 0 8).toList == Y.toList) = false) :
    Calls Try.prog 18 #[.string s] w fun e w' => e = .returned (.tuple #[.agg #[.int .u8 0, .int .u64 0, .int .u64 0, .bool false, .int .i64 0, .slice none 0 0], .int .i64 40]) ∧ Below w.heap.size w w' := by
  have hz0 := tz_new w
  have h8 : (8 : Int) ≤ s.size := by omega
  have h56 : (56 : Int) ≤ s.size := by omega
  have HZ0 := Lib.hid hz0
  clear hz0
  go_enter Try.func18, Try.ntmps18
  go_wp2_with fail
  go_region_with (first | (go_at_call 34; (with_reducible refine (HA.out _).mono ?_); rintro e w1 ⟨rfl, hb1⟩; (have hz1 := tz_step hb1 (tz_step (Below.refl _ _).drew HZ0.out))) | (go_at_call 33; (with_reducible refine (HX.out _).mono ?_); rintro e w2 ⟨rfl, hb2⟩; (have hz2 := tz_step hb2 hz1); (obtain ⟨r0, r1, r2, r3, r4, r5, f0, f1, f2, f3, f4, f5⟩ := tzR hz2)))
  all_goals go_wp2
  all_goals refine bodyPost_ret (v := .tuple #[.agg #[.int .u8 0, .int .u64 0, .int .u64 0, .bool false, .int .i64 0, .slice none 0 0], .int .i64 40]) (by simp [results, Try.results18, go_sem, r0, r1, r2, r3, r4, r5]) rfl ⟨rfl, tz_end hz2 _ _ _ _ _ _⟩
end Go.Proofs.Ytkocdaillkhkfaa
