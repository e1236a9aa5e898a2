/- The walk of SumKnown: the document's examples. No condition. -/
import Derived.Test.YtanllihbeaapiaaProg
import Derived.Test.YtanllihbeaapiaaSumText
namespace Go.Proofs.Ytanllihbeaapiaa
open Go.RowKit
theorem add_at (a b c d : Int) (s : ByteArray) (w : World) (hp : Fit (a, b)) (hs : s.size ≤ 1000) (h : addL (bts s) (a, b) = (c, d)) :
    Calls Try.prog 14 #[.agg #[.int .u32 a, .int .u32 b], .string s] w fun e w' => e = .returned (.agg #[.int .u32 c, .int .u32 d]) ∧ Below w.heap.size w w' := by
  have := add_any a b s w hp (by omega)
  rw [h] at this
  exact this
theorem back_at (a b c d : Int) (s : ByteArray) (w : World) (hp : Fit (a, b)) (hs : s.size ≤ 1000) (h : backL (bts s) (a, b) = (c, d)) :
    Calls Try.prog 15 #[.agg #[.int .u32 a, .int .u32 b], .string s] w fun e w' => e = .returned (.agg #[.int .u32 c, .int .u32 d]) ∧ Below w.heap.size w w' := by
  have := back_any a b s w hp (by omega)
  rw [h] at this
  exact this
theorem of_at (c d : Int) (s : ByteArray) (w : World) (hs : s.size ≤ 1000) (h : addL (bts s) (0, 0) = (c, d)) :
    Calls Try.prog 13 #[.string s] w fun e w' => e = .returned (.agg #[.int .u32 c, .int .u32 d]) ∧ Below w.heap.size w w' := by
  have := of_any s w (by omega)
  rw [h] at this
  exact this
theorem stake_at (p q : Nat) (s : ByteArray) (w : World) (hs : s.size ≤ 1000) (h : fixedS (bts s) 8 = (p, q)) :
    Calls Try.prog 11 #[.string s] w fun e w' => e = .returned (.tuple #[.agg #[.int .u32 ((p / 4294967296 : Nat) : Int), .int .u32 ((p % 4294967296 : Nat) : Int)], .int .i64 q]) ∧ Below w.heap.size w w' := by
  have := stake_any s w (by omega)
  rw [h] at this
  exact this
set_option maxRecDepth 100000 in
set_option maxHeartbeats 4000000 in
theorem sumKnown_walk (w : World) :
    Calls Try.prog 3 #[] w fun e w' => e = .returned (.bool true) ∧ Below w.heap.size w w' := by
  have t1 : (bstr (textL 1 258)).toList = [0, 0, 0, 1, 0, 0, 1, 2] := by rw [ByteArray.toList_eq]; rfl
  go_enter Try.func3, Try.ntmps3
  go_wp2_with fail
  refine (stake_at 0 10 _ _ (by decide) (by decide)).mono ?_
  rintro e w1 ⟨rfl, hb1⟩
  go_wp2_with fail
  refine (sworks_any _).mono ?_
  rintro e w2 ⟨rfl, hb2⟩
  have hkb := (Blk.new w1 24 #[.int .u32 0, .int .u32 0]).below hb2 (by simp)
  have hb : Below w.heap.size w w2 := (hb1.alloc hb1.size _).trans (hb2.mono (by have := hb1.size; simp; omega))
  clear hb2
  go_wp2_with fail
  refine (of_at 0 0 _ _ (by decide) (by decide)).mono ?_
  rintro e w3 ⟨rfl, hbk⟩
  replace hb := hb.trans (hbk.mono hb.size)
  replace hkb := hkb.below hbk hkb.lt
  clear hbk
  go_wp2_with fail
  refine (add_at 5 6 5 6 _ _ ⟨by omega, by omega, by omega, by omega⟩ (by decide) (by decide)).mono ?_
  rintro e w4 ⟨rfl, hbk⟩
  replace hb := hb.trans (hbk.mono hb.size)
  replace hkb := hkb.below hbk hkb.lt
  clear hbk
  go_wp2_with fail
  refine (of_at 1 1 _ _ (by decide) (by decide)).mono ?_
  rintro e w5 ⟨rfl, hbk⟩
  replace hb := hb.trans (hbk.mono hb.size)
  replace hkb := hkb.below hbk hkb.lt
  clear hbk
  go_wp2_with fail
  refine (add_at 1 3 5 8 _ _ ⟨by omega, by omega, by omega, by omega⟩ (by decide) (by decide)).mono ?_
  rintro e w6 ⟨rfl, hbk⟩
  replace hb := hb.trans (hbk.mono hb.size)
  replace hkb := hkb.below hbk hkb.lt
  clear hbk
  go_wp2_with fail
  refine (back_at 1 3 0 0 _ _ ⟨by omega, by omega, by omega, by omega⟩ (by decide) (by decide)).mono ?_
  rintro e w7 ⟨rfl, hbk⟩
  replace hb := hb.trans (hbk.mono hb.size)
  replace hkb := hkb.below hbk hkb.lt
  clear hbk
  go_wp2_with fail
  refine (text_any 1 258 _ ⟨by omega, by omega, by omega, by omega⟩).mono ?_
  rintro e w8 ⟨rfl, hbk⟩
  replace hb := hb.trans (hbk.mono hb.size)
  replace hkb := hkb.below hbk hkb.lt
  clear hbk
  have r0 : w8.cell? ⟨w1.heap.size, 0, none⟩ = some (.int .u32 0) := hkb.cell 0
  have r1 : w8.cell? ⟨w1.heap.size, 1, none⟩ = some (.int .u32 0) := hkb.cell 1
  go_wp2
  go_ret
  exact ⟨rfl, hb⟩
end Go.Proofs.Ytanllihbeaapiaa
