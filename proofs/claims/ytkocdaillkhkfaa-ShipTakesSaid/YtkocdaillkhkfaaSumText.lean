/- What sum.Text and sum.Take answer. Conditions: the numbers fit their kinds, a text is no longer than a machine has addresses. -/
import Derived.Test.YtkocdaillkhkfaaProg
import Derived.Test.YtkocdaillkhkfaaNumFix2
import Derived.Test.YtkocdaillkhkfaaSum
import Derived.Deep.RegionHeld3
namespace Go.Proofs.Ytkocdaillkhkfaa
open Go.RowKit
theorem held1_below {w0 W w' : World} {a b : Int} {g : Nat} (hb : Below W.heap.size W w') (h0 : W.cell? ⟨g, 0, none⟩ = some (.int .u32 a)) (h1 : W.cell? ⟨g, 1, none⟩ = some (.int .u32 b)) (hl1 : g < W.heap.size) (hw : Below w0.heap.size w0 W) :
    w'.cell? ⟨g, 0, none⟩ = some (.int .u32 a) ∧ w'.cell? ⟨g, 1, none⟩ = some (.int .u32 b) ∧ g < w'.heap.size ∧ Below w0.heap.size w0 w' :=
  ⟨(hb.cell (p := ⟨g, 0, none⟩) hl1).trans h0, (hb.cell (p := ⟨g, 1, none⟩) hl1).trans h1, Nat.lt_of_lt_of_le hl1 hb.size, hw.trans (hb.mono hw.size)⟩
def textL (a b : Int) : List Nat := fourL a.toNat ++ fourL b.toNat
set_option maxRecDepth 100000 in
set_option maxHeartbeats 2000000 in
theorem text_any (a b : Int) (w : World) (hp : Fit (a, b)) :
    Calls Try.prog 23 #[.agg #[.int .u32 a, .int .u32 b]] w fun e w' => e = .returned (.string (bstr (textL a b))) ∧ Below w.heap.size w w' := by
  obtain ⟨h1, h2, h3, h4⟩ := hp
  simp only at h1 h2 h3 h4
  have f1 := fun w => four_any a w h1 h2
  have f2 := fun w => four_any b w h3 h4
  have F1 := Lib.hid f1
  have F2 := Lib.hid f2
  have hl1 : w.heap.size < (w.alloc (.cells #[.int .u32 a, .int .u32 b] 56)).drew.heap.size := by simp [World.drew]
  have hl3 : Below w.heap.size w (w.alloc (.cells #[.int .u32 a, .int .u32 b] 56)).drew := ((Below.refl _ _).alloc (Nat.le_refl _) _).drew
  have hcat : (bstr (fourL a.toNat)).size + (bstr (fourL b.toNat)).size ≤ 9223372036854775807 := by simp [bstr_size, fourL]
  have hcat2 : ¬ (9223372036854775807 < (bstr (fourL a.toNat)).size + (bstr (fourL b.toNat)).size) := by omega
  have hcat3 : ((bstr (fourL a.toNat)).size : Int) + (bstr (fourL b.toNat)).size ≤ 9223372036854775807 := by omega
  clear f1 f2
  go_enter Try.func23, Try.ntmps23
  go_wp2_with fail
  go_region_held3 (fun w' => w'.cell? ⟨w.heap.size, 0, none⟩ = some (.int .u32 a) ∧ w'.cell? ⟨w.heap.size, 1, none⟩ = some (.int .u32 b) ∧ w.heap.size < w'.heap.size ∧ Below w.heap.size w w')
    (first | go_keep | (go_split_ands; exact held1_below (by assumption) (by assumption) (by assumption) (by assumption) (by assumption)) | exact held1_below (by assumption) (by assumption) (by assumption) (by assumption) (by assumption))
    (first | (go_at_call 41; (with_reducible refine (F1.out _).mono ?_); rintro e w3 ⟨rfl, hb3⟩) | (go_at_call 41; (with_reducible refine (F2.out _).mono ?_); rintro e w4 ⟨rfl, hb4⟩))
  go_wp2
  go_ret
  have hz : w4.cell? ⟨w.heap.size, 0, none⟩ = some (.int .u32 a) ∧ w4.cell? ⟨w.heap.size, 1, none⟩ = some (.int .u32 b) ∧ w.heap.size < w4.heap.size ∧ Below w.heap.size w w4 := by assumption
  refine ⟨?_, hz.2.2.2⟩
  rw [bstr_append]
  rfl
set_option maxRecDepth 100000 in
set_option maxHeartbeats 2000000 in
theorem stake_any (s : ByteArray) (w : World) (hs : s.size ≤ 150000000000000) :
    Calls Try.prog 26 #[.string s] w fun e w' => e = .returned (.tuple #[.agg #[.int .u32 (((fixedS (bts s) 8).1 / 4294967296 : Nat) : Int), .int .u32 (((fixedS (bts s) 8).1 % 4294967296 : Nat) : Int)], .int .i64 (fixedS (bts s) 8).2]) ∧ Below w.heap.size w w' := by
  have hlt := fixedS_lt s 8
  go_enter Try.func26, Try.ntmps26
  go_wp2_with fail
  refine (takeEight_any s _ (by unfold maxLen; omega)).mono ?_
  rintro e w1 ⟨rfl, rfl⟩
  generalize hP : fixedS (bts s) 8 = P at *
  have HP := Lib.hid hP
  obtain ⟨p, q⟩ := P
  have hlt2 : p < 18446744073709551616 := hlt
  have hI : (p : Int) < 18446744073709551616 := by omega
  have hJ : (p : Int) / 4294967296 < 4294967296 := by omega
  clear hlt hP hlt2
  go_wp2
  refine bodyPost_ret (v := .tuple #[.agg #[.int .u32 ((p : Int) / 4294967296), .int .u32 ((p : Int) % 4294967296)], .int .i64 q]) (by simp [results, Try.results26, go_sem]) rfl ⟨by rw [HP.out]; simp, (Below.refl _ _).alloc (Nat.le_refl _) _⟩
end Go.Proofs.Ytkocdaillkhkfaa
