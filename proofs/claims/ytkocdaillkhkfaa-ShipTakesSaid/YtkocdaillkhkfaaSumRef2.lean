/- What counterfoilref02.Text and counterfoilref02.Take answer. Conditions: the numbers fit their kind; the text has eight bytes at least, and is no longer than a machine has addresses. -/
import Derived.Test.YtkocdaillkhkfaaProg
import Derived.Test.YtkocdaillkhkfaaSumText
import Derived.Test.YtkocdaillkhkfaaRefFixed
import Derived.Test.YtkocdaillkhkfaaSumRef
import Derived.Deep.RegionWith
namespace Go.Proofs.Ytkocdaillkhkfaa
open Go.RowKit
theorem fixL_four (a : Nat) : fixL 4 a = fourL a := by simp [fixL, fourL]
theorem refFour_int (z : Int) (w : World) (h0 : 0 ≤ z) (hn : z < 4294967296) :
    Calls Try.prog 48 #[.int .u64 z, .int .i64 4] w fun e w' => e = .returned (.string (bstr (fourL z.toNat))) ∧ Below w.heap.size w w' := by
  obtain ⟨n, rfl⟩ := Int.eq_ofNat_of_zero_le h0
  have := refFixed_any n 4 w (by omega) (by omega) (by omega)
  rw [fixL_four] at this
  exact this
set_option maxRecDepth 100000 in
set_option maxHeartbeats 2000000 in
theorem refText_any (a b : Int) (w : World) (hp : Fit (a, b)) :
    Calls Try.prog 33 #[.agg #[.int .u32 a, .int .u32 b]] w fun e w' => e = .returned (.string (bstr (textL a b))) ∧ Below w.heap.size w w' := by
  obtain ⟨h1, h2, h3, h4⟩ := hp
  simp only at h1 h2 h3 h4
  have f1 := fun w => refFour_int a w h1 h2
  have f2 := fun w => refFour_int b w h3 h4
  have F1 := Lib.hid f1
  have F2 := Lib.hid f2
  have hl1 : w.heap.size < (w.alloc (.cells #[.int .u32 a, .int .u32 b] 56)).drew.heap.size := by simp [World.drew]
  have hl3 : Below w.heap.size w (w.alloc (.cells #[.int .u32 a, .int .u32 b] 56)).drew := ((Below.refl _ _).alloc (Nat.le_refl _) _).drew
  have hcat : (bstr (fourL a.toNat)).size + (bstr (fourL b.toNat)).size ≤ 9223372036854775807 := by simp [bstr_size, fourL]
  have hcat2 : ¬ (9223372036854775807 < (bstr (fourL a.toNat)).size + (bstr (fourL b.toNat)).size) := by omega
  have hcat3 : ((bstr (fourL a.toNat)).size : Int) + (bstr (fourL b.toNat)).size ≤ 9223372036854775807 := by omega
  have ha : IntKind.u64.wrap a = a := by rw [IntKind.wrap_u64]; omega
  have hb : IntKind.u64.wrap b = b := by rw [IntKind.wrap_u64]; omega
  clear f1 f2
  go_enter Try.func33, Try.ntmps33
  go_wp2_with fail
  go_region_held3 (fun w' => w'.cell? ⟨w.heap.size, 0, none⟩ = some (.int .u32 a) ∧ w'.cell? ⟨w.heap.size, 1, none⟩ = some (.int .u32 b) ∧ w.heap.size < w'.heap.size ∧ Below w.heap.size w w')
    (first | go_keep | (go_split_ands; exact held1_below (by assumption) (by assumption) (by assumption) (by assumption) (by assumption)) | exact held1_below (by assumption) (by assumption) (by assumption) (by assumption) (by assumption))
    (first | (go_at_call 48; (with_reducible refine (F1.out _).mono ?_); rintro e w3 ⟨rfl, hb3⟩) | (go_at_call 48; (with_reducible refine (F2.out _).mono ?_); rintro e w4 ⟨rfl, hb4⟩))
  go_wp2
  go_ret
  have hz : w4.cell? ⟨w.heap.size, 0, none⟩ = some (.int .u32 a) ∧ w4.cell? ⟨w.heap.size, 1, none⟩ = some (.int .u32 b) ∧ w.heap.size < w4.heap.size ∧ Below w.heap.size w w4 := by assumption
  refine ⟨?_, hz.2.2.2⟩
  rw [bstr_append]
  rfl
theorem bts_cutl (s : ByteArray) (k : Nat) : bts (s.extract 0 k) = (bts s).take k := by
  unfold bts
  rw [← List.map_take]
  simp [ByteArray.data_extract]
theorem bts_cutm (s : ByteArray) (i k : Nat) : bts (s.extract i k) = ((bts s).take k).drop i := by
  unfold bts
  rw [← List.map_take, ← List.map_drop]
  simp [ByteArray.data_extract, List.drop_take]
theorem eight_cases (L : List Nat) (h : 8 ≤ L.length) : ∃ x0 x1 x2 x3 x4 x5 x6 x7 R, L = x0 :: x1 :: x2 :: x3 :: x4 :: x5 :: x6 :: x7 :: R := by
  match L, h with
  | x0 :: x1 :: x2 :: x3 :: x4 :: x5 :: x6 :: x7 :: R, _ => exact ⟨x0, x1, x2, x3, x4, x5, x6, x7, R, rfl⟩
theorem take_words (s : ByteArray) (h : 8 ≤ s.size) : (fixedS (bts s) 8).2 = 0 ∧ (fixedS (bts s) 8).1 / 4294967296 = wd (bts (s.extract 0 4)) 0 ∧ (fixedS (bts s) 8).1 % 4294967296 = wd (bts (s.extract 4 8)) 0 := by
  rw [bts_cutl, bts_cutm]
  have hl := bts_lt s
  obtain ⟨x0, x1, x2, x3, x4, x5, x6, x7, R, e⟩ := eight_cases (bts s) (by rw [bts_length]; exact h)
  rw [e] at hl ⊢
  simp only [List.mem_cons, forall_eq_or_imp] at hl
  obtain ⟨h0, h1, h2, h3, h4, h5, h6, h7, _⟩ := hl
  unfold fixedS
  rw [if_neg (by simp)]
  simp [val, wd]
  omega
theorem take_text (a b : Int) (s : ByteArray) (hp : Fit (a, b)) : fixedS (bts (bstr (textL a b) ++ s)) 8 = (a.toNat * 4294967296 + b.toNat, 0) := by
  obtain ⟨h1, h2, h3, h4⟩ := hp
  simp only at h1 h2 h3 h4
  have e : bts (bstr (textL a b) ++ s) = textL a b ++ bts s := by
    have : bts (bstr (textL a b) ++ s) = bts (bstr (textL a b)) ++ bts s := by simp [bts]
    rw [this, bts_bstr]
    intro x hx
    simp [textL, fourL] at hx
    omega
  rw [e]
  unfold fixedS
  rw [if_neg (by simp [textL, fourL])]
  simp [val, textL, fourL]
  omega
end Go.Proofs.Ytkocdaillkhkfaa
