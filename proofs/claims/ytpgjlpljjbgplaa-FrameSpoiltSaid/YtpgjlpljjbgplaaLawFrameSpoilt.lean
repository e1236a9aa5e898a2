/- The walk of FrameSpoilt. Conditions: the numbers fit their kinds, a text is no longer than a machine has addresses. -/
import Derived.Test.YtpgjlpljjbgplaaLawFrameBack
import Derived.Test.YtpgjlpljjbgplaaFrameNear
namespace Go.Proofs.Ytpgjlpljjbgplaa
open Go.RowKit
def blk8 (x0 x1 x2 x3 x4 x5 x6 x7 : Nat) : Array Value := #[.int .u8 x0, .int .u8 x1, .int .u8 x2, .int .u8 x3, .int .u8 x4, .int .u8 x5, .int .u8 x6, .int .u8 x7]
def Sk (w : World) (p1 p2 N F P pg cm : Int) (d : ByteArray) (X : Array Value) (W : World) : Prop :=
  Blk W w.heap.size 33 #[.int .u32 p1, .int .u32 p2] ∧ Blk W (w.heap.size + 1) 27 #[.int .u64 N, .int .i64 F, .int .i64 P] ∧ Blk W (w.heap.size + 1 + 1) 37 #[.int .i64 pg, .int .i64 cm, .string d] ∧ Blk W (w.heap.size + 1 + 1 + 1) 51 X ∧ Below w.heap.size w W
section
variable {w W W' : World} {p1 p2 N F P pg cm : Int} {d : ByteArray} {X : Array Value}
theorem sk_step (hb : Below W.heap.size W W') (h : Sk w p1 p2 N F P pg cm d X W) : Sk w p1 p2 N F P pg cm d X W' := ⟨blk_step h.1 hb, blk_step h.2.1 hb, blk_step h.2.2.1 hb, blk_step h.2.2.2.1 hb, bj h.2.2.2.2 hb⟩
theorem sk_alloc (o : Obj) (h : Sk w p1 p2 N F P pg cm d X W) : Sk w p1 p2 N F P pg cm d X (W.alloc o) := sk_step ((Below.refl _ _).alloc (Nat.le_refl _) _) h
theorem sk_drewN (n : Nat) (h : Sk w p1 p2 N F P pg cm d X W) : Sk w p1 p2 N F P pg cm d X (W.drewN n) := ⟨h.1.drewN n, h.2.1.drewN n, h.2.2.1.drewN n, h.2.2.2.1.drewN n, below_drewN h.2.2.2.2 n⟩
theorem sk_new (w : World) (p1 p2 N F P pg cm : Int) (d : ByteArray) (X : Array Value) : Sk w p1 p2 N F P pg cm d X ((((w.alloc (.cells #[.int .u32 p1, .int .u32 p2] 33)).alloc (.cells #[.int .u64 N, .int .i64 F, .int .i64 P] 27)).alloc (.cells #[.int .i64 pg, .int .i64 cm, .string d] 37)).alloc (.cells X 51)) :=
  ⟨(((Blk.new w _ _).alloc _).alloc _).alloc _, ((blk_new (w.alloc (.cells #[.int .u32 p1, .int .u32 p2] 33)) (w.heap.size + 1) 27 #[.int .u64 N, .int .i64 F, .int .i64 P] (by simp)).alloc _).alloc _, (blk_new ((w.alloc (.cells #[.int .u32 p1, .int .u32 p2] 33)).alloc (.cells #[.int .u64 N, .int .i64 F, .int .i64 P] 27)) (w.heap.size + 1 + 1) 37 #[.int .i64 pg, .int .i64 cm, .string d] (by simp)).alloc _, blk_new _ _ _ _ (by simp), (((((Below.refl _ _).alloc (Nat.le_refl _) _).alloc (by simp) _).alloc (by simp; omega) _).alloc (by simp; omega) _)⟩
theorem skS (h : Sk w p1 p2 N F P pg cm d X W) : W.cell? ⟨w.heap.size, 0, none⟩ = some (.int .u32 p1) ∧ W.cell? ⟨w.heap.size, 1, none⟩ = some (.int .u32 p2) ∧ W.cell? ⟨w.heap.size + 1, 0, none⟩ = some (.int .u64 N) ∧ W.cell? ⟨w.heap.size + 1, 1, none⟩ = some (.int .i64 F) ∧ W.cell? ⟨w.heap.size + 1, 2, none⟩ = some (.int .i64 P) ∧
    W.cell? ⟨w.heap.size + 1 + 1, 0, none⟩ = some (.int .i64 pg) ∧ W.cell? ⟨w.heap.size + 1 + 1, 1, none⟩ = some (.int .i64 cm) ∧ W.cell? ⟨w.heap.size + 1 + 1, 2, none⟩ = some (.string d) := ⟨h.1.cell 0, h.1.cell 1, h.2.1.cell 0, h.2.1.cell 1, h.2.1.cell 2, h.2.2.1.cell 0, h.2.2.1.cell 1, h.2.2.1.cell 2⟩
theorem sk_conv {x0 x1 x2 x3 x4 x5 x6 x7 : Nat} (h : Sk w p1 p2 N F P pg cm d (blk8 x0 x1 x2 x3 x4 x5 x6 x7) W) : (convert 52 9 (.slice (some ⟨w.heap.size + 1 + 1 + 1, 0, none⟩) 8 8)).run Try.prog W = .ok (.string (bstr [x0, x1, x2, x3, x4, x5, x6, x7])) W := by
  have h2 := run_convert_bytes_arg (P := Try.prog) W 52 5 Try.underlying52 Try.underlying5 (w.heap.size + 1 + 1 + 1) 0 8 8 (([x0, x1, x2, x3, x4, x5, x6, x7]).map Int.ofNat) rfl (fun i hi => by
    have hc := h.2.2.2.1.cell (0 + i)
    rw [hc]
    obtain rfl | rfl | rfl | rfl | rfl | rfl | rfl | rfl : i = 0 ∨ i = 1 ∨ i = 2 ∨ i = 3 ∨ i = 4 ∨ i = 5 ∨ i = 6 ∨ i = 7 := by omega
    all_goals rfl) 9 Try.underlying9
  rw [bstr_nums] at h2
  exact h2
end
/-- the text S of which block k is B -/
def mixT (S B : ByteArray) (k : Nat) : ByteArray := S.extract 0 k ++ B ++ S.extract (k + 8) S.size
theorem mix_near {S B : ByteArray} {k0 : Nat} (hk : 8 * k0 + 8 ≤ S.size) (hB : B.size = 8) : Near (bts (mixT S B (8 * k0))) (bts S) k0 ∧ (mixT S B (8 * k0)).size = S.size := by
  have h := near_cut (L := bts S) (B := bts B) (k0 := k0) (n := 8) (by rw [bts_length]; exact hk) (by rw [bts_length]; exact hB) (.inl rfl) (by omega)
  have e : bts (mixT S B (8 * k0)) = (bts S).take (8 * k0) ++ bts B ++ (bts S).drop (8 * k0 + 8) := by
    unfold mixT
    rw [bts_app, bts_app, bts_cut0, bts_cutr]
  rw [← e] at h
  exact ⟨h.1, by rw [← bts_length, h.2, bts_length]⟩
set_option maxRecDepth 100000 in
set_option maxHeartbeats 8000000 in
theorem frameSpoilt_long1 (p1 p2 N F P pg cm j : Int) (d : ByteArray) (x0 x1 x2 x3 x4 x5 x6 x7 : Nat) (w : World) (hd : 8192 < d.size) :
    Calls Try.prog 8 #[.agg #[.int .u32 p1, .int .u32 p2], .agg #[.int .u64 N, .int .i64 F, .int .i64 P], .agg #[.int .i64 pg, .int .i64 cm, .string d], .int .i64 j, .agg (blk8 x0 x1 x2 x3 x4 x5 x6 x7)] w fun e w' => e = .returned (.bool true) ∧ Below w.heap.size w w' := by
  have hs0 := sk_new w p1 p2 N F P pg cm d (blk8 x0 x1 x2 x3 x4 x5 x6 x7)
  unfold blk8
  go_enter Try.func8, Try.ntmps8
  go_wp2_with fail
  refine (works_any _).mono ?_
  rintro e w1 ⟨rfl, hb1⟩
  have hs1 := sk_step hb1 hs0
  obtain ⟨c0, c1, c2, c3, c4, c5, c6, c7⟩ := skS hs1
  clear hb1 hs0
  go_wp2
  go_ret
  exact ⟨rfl, hs1.2.2.2.2⟩
set_option maxRecDepth 100000 in
set_option maxHeartbeats 8000000 in
theorem frameSpoilt_long2 (p1 p2 N F P pg cm j : Int) (d : ByteArray) (x0 x1 x2 x3 x4 x5 x6 x7 : Nat) (w : World) (hd : d.size ≤ 8192) (hj : j < 0) :
    Calls Try.prog 8 #[.agg #[.int .u32 p1, .int .u32 p2], .agg #[.int .u64 N, .int .i64 F, .int .i64 P], .agg #[.int .i64 pg, .int .i64 cm, .string d], .int .i64 j, .agg (blk8 x0 x1 x2 x3 x4 x5 x6 x7)] w fun e w' => e = .returned (.bool true) ∧ Below w.heap.size w w' := by
  have hs0 := sk_new w p1 p2 N F P pg cm d (blk8 x0 x1 x2 x3 x4 x5 x6 x7)
  unfold blk8
  go_enter Try.func8, Try.ntmps8
  go_wp2_with fail
  refine (works_any _).mono ?_
  rintro e w1 ⟨rfl, hb1⟩
  have hs1 := sk_step hb1 hs0
  obtain ⟨c0, c1, c2, c3, c4, c5, c6, c7⟩ := skS hs1
  clear hb1 hs0
  go_wp2
  go_ret
  exact ⟨rfl, hs1.2.2.2.2⟩
set_option maxRecDepth 100000 in
set_option maxHeartbeats 8000000 in
theorem frameSpoilt_bb (p1 p2 N F P pg cm : Int) (j : Nat) (d : ByteArray) (x0 x1 x2 x3 x4 x5 x6 x7 : Nat) (w : World) (hd : d.size ≤ 8192) (hj : j ≤ 9223372036854775807) (HPUT : Hid (∀ w, Calls Try.prog 13 #[.agg #[.int .u32 p1, .int .u32 p2], .int .u64 N, .agg #[.int .i64 pg, .int .i64 cm, .string d]] w fun e w' => e = .returned (.tuple #[.string ⟨#[]⟩, .agg #[.int .u32 0, .int .u32 0], .int .i64 2]) ∧ Below w.heap.size w w')) (HPH : Hid (∀ w, Calls Try.prog 10 #[.agg #[.int .u64 N, .int .i64 F, .int .i64 P]] w fun e w' => e = .returned (.tuple #[.string ⟨#[]⟩, .int .i64 2]) ∧ Below w.heap.size w w')) :
    Calls Try.prog 8 #[.agg #[.int .u32 p1, .int .u32 p2], .agg #[.int .u64 N, .int .i64 F, .int .i64 P], .agg #[.int .i64 pg, .int .i64 cm, .string d], .int .i64 j, .agg (blk8 x0 x1 x2 x3 x4 x5 x6 x7)] w fun e w' => e = .returned (.bool true) ∧ Below w.heap.size w w' := by
  have hs0 := sk_new w p1 p2 N F P pg cm d (blk8 x0 x1 x2 x3 x4 x5 x6 x7)
  unfold blk8
  go_enter Try.func8, Try.ntmps8
  go_wp2_with fail
  refine (works_any _).mono ?_
  rintro e w1 ⟨rfl, hb1⟩
  have hs1 := sk_step hb1 hs0
  obtain ⟨c0, c1, c2, c3, c4, c5, c6, c7⟩ := skS hs1
  clear hb1 hs0
  go_wp2_with fail
  refine (HPUT.out _).mono ?_
  rintro e w2 ⟨rfl, hb2⟩
  have hs2 := sk_alloc (.cells #[.int .u32 0, .int .u32 0] 33) (sk_step hb2 hs1)
  clear hb2 hs1 c0 c1 c2 c3 c4 c5 c6 c7
  obtain ⟨c0, c1, c2, c3, c4, c5, c6, c7⟩ := skS hs2
  go_wp2_with fail
  refine (HPH.out _).mono ?_
  rintro e w5 ⟨rfl, hb5⟩
  have hs5 := sk_step hb5 hs2
  clear hs2 hb5 c0 c1 c2 c3 c4 c5 c6 c7
  go_wp2
  go_ret
  exact ⟨rfl, hs5.2.2.2.2⟩
set_option maxRecDepth 100000 in
set_option maxHeartbeats 8000000 in
theorem frameSpoilt_bo (p1 p2 N F P pg cm : Int) (j : Nat) (d : ByteArray) (x0 x1 x2 x3 x4 x5 x6 x7 : Nat) (R : ByteArray) (g1 g2 g3 y : Int) (bh : Bool) (w : World) (hd : d.size ≤ 8192) (hj : j ≤ 9223372036854775807) (HPUT : Hid (∀ w, Calls Try.prog 13 #[.agg #[.int .u32 p1, .int .u32 p2], .int .u64 N, .agg #[.int .i64 pg, .int .i64 cm, .string d]] w fun e w' => e = .returned (.tuple #[.string ⟨#[]⟩, .agg #[.int .u32 0, .int .u32 0], .int .i64 2]) ∧ Below w.heap.size w w'))
    (_hR0 : R.size ≤ 64) (hR : (R.size : Int) = 64) (HPH : Hid (∀ w, Calls Try.prog 10 #[.agg #[.int .u64 N, .int .i64 F, .int .i64 P]] w fun e w' => e = .returned (.tuple #[.string R, .int .i64 0]) ∧ Below w.heap.size w w'))
    (HTH : Hid (∀ w, Calls Try.prog 11 #[.string (R.extract 0 (j % 8 * 8) ++ bstr [x0, x1, x2, x3, x4, x5, x6, x7] ++ R.extract (j % 8 * 8 + 8) R.size)] w fun e w' => e = .returned (.tuple #[.agg #[.int .u64 g1, .int .i64 g2, .int .i64 g3], .int .i64 y]) ∧ Below w.heap.size w w')) (HY : Hid ((y == 0) = bh)) (HRT : Hid ((R.toList == (R.extract 0 (j % 8 * 8) ++ bstr [x0, x1, x2, x3, x4, x5, x6, x7] ++ R.extract (j % 8 * 8 + 8) R.size).toList) = bh)) :
    Calls Try.prog 8 #[.agg #[.int .u32 p1, .int .u32 p2], .agg #[.int .u64 N, .int .i64 F, .int .i64 P], .agg #[.int .i64 pg, .int .i64 cm, .string d], .int .i64 j, .agg (blk8 x0 x1 x2 x3 x4 x5 x6 x7)] w fun e w' => e = .returned (.bool true) ∧ Below w.heap.size w w' := by
  have hs0 := sk_new w p1 p2 N F P pg cm d (blk8 x0 x1 x2 x3 x4 x5 x6 x7)
  unfold blk8
  go_enter Try.func8, Try.ntmps8
  go_wp2_with fail
  refine (works_any _).mono ?_
  rintro e w1 ⟨rfl, hb1⟩
  have hs1 := sk_step hb1 hs0
  obtain ⟨c0, c1, c2, c3, c4, c5, c6, c7⟩ := skS hs1
  clear hb1 hs0
  go_wp2_with fail
  refine (HPUT.out _).mono ?_
  rintro e w2 ⟨rfl, hb2⟩
  have hs2 := sk_alloc (.cells #[.int .u32 0, .int .u32 0] 33) (sk_step hb2 hs1)
  clear hb2 hs1 c0 c1 c2 c3 c4 c5 c6 c7
  obtain ⟨c0, c1, c2, c3, c4, c5, c6, c7⟩ := skS hs2
  go_wp2_with fail
  refine (HPH.out _).mono ?_
  rintro e w5 ⟨rfl, hb5⟩
  have hs5 := sk_step hb5 hs2
  clear hs2 hb5 c0 c1 c2 c3 c4 c5 c6 c7
  go_wp2_with fail
  have hSB : R.size = 64 := by omega
  clear hR
  obtain ⟨W0, rfl⟩ : ∃ W0 : World, W0 = w5 := ⟨_, rfl⟩
  have hw2 : IntKind.i64.wrap ((j : Int) % 8 * 8 + 8) = (j : Int) % 8 * 8 + 8 := by simp [IntKind.wrap, IntKind.bits, IntKind.signed]; omega
  have hf0 : (0 : Int) ≤ (j : Int) % 8 * 8 := by omega
  have hf1 : (j : Int) % 8 * 8 ≤ R.size := by omega
  have hf2 : (j : Int) % 8 * 8 + 8 ≤ R.size := by omega
  have hf3 : (0 : Int) ≤ (j : Int) % 8 * 8 + 8 := by omega
  have hf4 : ((j : Int) % 8 * 8 + 8).toNat = j % 8 * 8 + 8 := by omega
  have hf5 : ((j : Int) % 8 * 8).toNat = j % 8 * 8 := by omega
  have hal : Try.prog.arrayLen 51 = 8 := by kernel_rfl
  have hcv := fun n => sk_conv (sk_drewN n hs5)
  have hcv1 := sk_conv (sk_drewN 1 hs5)
  have hcv0 := sk_conv (sk_drewN 0 hs5)
  have hsB : (bstr [x0, x1, x2, x3, x4, x5, x6, x7]).size = 8 := by rw [bstr_size]; rfl
  have hsA : (R.extract 0 (j % 8 * 8)).size = j % 8 * 8 := by simp; omega
  have hsC : (R.extract (j % 8 * 8 + 8) R.size).size = R.size - (j % 8 * 8 + 8) := by simp
  have hct1 := fun w => run_string_add_sum (P := Try.prog) w (R.extract 0 (j % 8 * 8)) (bstr [x0, x1, x2, x3, x4, x5, x6, x7]) (by omega)
  have hct2 := fun w => run_string_add_sum (P := Try.prog) w (R.extract 0 (j % 8 * 8) ++ bstr [x0, x1, x2, x3, x4, x5, x6, x7]) (R.extract (j % 8 * 8 + 8) R.size) (by rw [ByteArray.size_append]; omega)
  have hm1 : min (j % 8 * 8) R.size + 8 ≤ 9223372036854775807 := by omega
  have hm2 : min (j % 8 * 8) R.size + 8 + (R.size - (j % 8 * 8 + 8)) ≤ 9223372036854775807 := by omega
  clear hsA hsC hSB
  go_quiet (fail)
  clear hw2 hf0 hf1 hf2 hf3 hf4 hf5 hal hcv hcv1 hcv0 hsB hct1 hct2 hm1 hm2
  generalize R.extract 0 (j % 8 * 8) ++ bstr [x0, x1, x2, x3, x4, x5, x6, x7] ++ R.extract (j % 8 * 8 + 8) R.size = T2 at *
  have hs6 := fun n => sk_drewN n hs5
  have hy := HY.out
  have hrt := HRT.out
  have HS6 := Lib.hid hs6
  clear hs5 hs6
  go_wp2_with fail
  refine (HTH.out _).mono ?_
  rintro e w7 ⟨rfl, hb7⟩
  have hs8 := sk_step hb7 (HS6.out _)
  clear HS6 hb7
  go_wp2
  go_ret
  exact ⟨rfl, hs8.2.2.2.2⟩
set_option maxRecDepth 100000 in
set_option maxHeartbeats 8000000 in
theorem frameSpoilt_ob (p1 p2 N F P pg cm : Int) (j : Nat) (d : ByteArray) (x0 x1 x2 x3 x4 x5 x6 x7 : Nat) (S b3 : ByteArray) (Q1 Q2 b1 b2 b4 b5 x : Int) (bt : Bool) (w : World) (hd : d.size ≤ 8192) (hj : j ≤ 9223372036854775807) (_hS0 : S.size ≤ 576) (hS : (S.size : Int) = 576) (HPUT : Hid (∀ w, Calls Try.prog 13 #[.agg #[.int .u32 p1, .int .u32 p2], .int .u64 N, .agg #[.int .i64 pg, .int .i64 cm, .string d]] w fun e w' => e = .returned (.tuple #[.string S, .agg #[.int .u32 Q1, .int .u32 Q2], .int .i64 0]) ∧ Below w.heap.size w w'))
    (HTK : Hid (∀ w, Calls Try.prog 14 #[.agg #[.int .u32 p1, .int .u32 p2], .int .u64 N, .string (S.extract 0 (j % 72 * 8) ++ bstr [x0, x1, x2, x3, x4, x5, x6, x7] ++ S.extract (j % 72 * 8 + 8) S.size)] w fun e w' => e = .returned (.tuple #[.agg #[.int .i64 b1, .int .i64 b2, .string b3], .agg #[.int .u32 b4, .int .u32 b5], .int .i64 x]) ∧ Below w.heap.size w w')) (HX : Hid ((x == 0) = bt)) (HST : Hid ((S.toList == (S.extract 0 (j % 72 * 8) ++ bstr [x0, x1, x2, x3, x4, x5, x6, x7] ++ S.extract (j % 72 * 8 + 8) S.size).toList) = bt)) (HPH : Hid (∀ w, Calls Try.prog 10 #[.agg #[.int .u64 N, .int .i64 F, .int .i64 P]] w fun e w' => e = .returned (.tuple #[.string ⟨#[]⟩, .int .i64 2]) ∧ Below w.heap.size w w')) :
    Calls Try.prog 8 #[.agg #[.int .u32 p1, .int .u32 p2], .agg #[.int .u64 N, .int .i64 F, .int .i64 P], .agg #[.int .i64 pg, .int .i64 cm, .string d], .int .i64 j, .agg (blk8 x0 x1 x2 x3 x4 x5 x6 x7)] w fun e w' => e = .returned (.bool true) ∧ Below w.heap.size w w' := by
  have hs0 := sk_new w p1 p2 N F P pg cm d (blk8 x0 x1 x2 x3 x4 x5 x6 x7)
  unfold blk8
  go_enter Try.func8, Try.ntmps8
  go_wp2_with fail
  refine (works_any _).mono ?_
  rintro e w1 ⟨rfl, hb1⟩
  have hs1 := sk_step hb1 hs0
  obtain ⟨c0, c1, c2, c3, c4, c5, c6, c7⟩ := skS hs1
  clear hb1 hs0
  go_wp2_with fail
  refine (HPUT.out _).mono ?_
  rintro e w2 ⟨rfl, hb2⟩
  have hs2 := sk_alloc (.cells #[.int .u32 Q1, .int .u32 Q2] 33) (sk_step hb2 hs1)
  clear hb2 hs1 c0 c1 c2 c3 c4 c5 c6 c7
  go_wp2_with fail
  have hSB : S.size = 576 := by omega
  clear hS
  generalize (w2.alloc (.cells #[.int .u32 Q1, .int .u32 Q2] 33)) = W0 at *
  have hw2 : IntKind.i64.wrap ((j : Int) % 72 * 8 + 8) = (j : Int) % 72 * 8 + 8 := by simp [IntKind.wrap, IntKind.bits, IntKind.signed]; omega
  have hf0 : (0 : Int) ≤ (j : Int) % 72 * 8 := by omega
  have hf1 : (j : Int) % 72 * 8 ≤ S.size := by omega
  have hf2 : (j : Int) % 72 * 8 + 8 ≤ S.size := by omega
  have hf3 : (0 : Int) ≤ (j : Int) % 72 * 8 + 8 := by omega
  have hf4 : ((j : Int) % 72 * 8 + 8).toNat = j % 72 * 8 + 8 := by omega
  have hf5 : ((j : Int) % 72 * 8).toNat = j % 72 * 8 := by omega
  have hal : Try.prog.arrayLen 51 = 8 := by kernel_rfl
  have hcv := fun n => sk_conv (sk_drewN n hs2)
  have hcv1 := sk_conv (sk_drewN 1 hs2)
  have hcv0 := sk_conv (sk_drewN 0 hs2)
  have hsB : (bstr [x0, x1, x2, x3, x4, x5, x6, x7]).size = 8 := by rw [bstr_size]; rfl
  have hsA : (S.extract 0 (j % 72 * 8)).size = j % 72 * 8 := by simp; omega
  have hsC : (S.extract (j % 72 * 8 + 8) S.size).size = S.size - (j % 72 * 8 + 8) := by simp
  have hct1 := fun w => run_string_add_sum (P := Try.prog) w (S.extract 0 (j % 72 * 8)) (bstr [x0, x1, x2, x3, x4, x5, x6, x7]) (by omega)
  have hct2 := fun w => run_string_add_sum (P := Try.prog) w (S.extract 0 (j % 72 * 8) ++ bstr [x0, x1, x2, x3, x4, x5, x6, x7]) (S.extract (j % 72 * 8 + 8) S.size) (by rw [ByteArray.size_append]; omega)
  have hm1 : min (j % 72 * 8) S.size + 8 ≤ 9223372036854775807 := by omega
  have hm2 : min (j % 72 * 8) S.size + 8 + (S.size - (j % 72 * 8 + 8)) ≤ 9223372036854775807 := by omega
  clear hsA hsC hSB
  go_quiet (fail)
  clear hw2 hf0 hf1 hf2 hf3 hf4 hf5 hal hcv hcv1 hcv0 hsB hct1 hct2 hm1 hm2
  generalize S.extract 0 (j % 72 * 8) ++ bstr [x0, x1, x2, x3, x4, x5, x6, x7] ++ S.extract (j % 72 * 8 + 8) S.size = T at *
  have hs3 := fun n => sk_drewN n hs2
  obtain ⟨c0, c1, c2, c3, c4, c5, c6, c7⟩ := skS hs2
  have hx := HX.out
  have hst := HST.out
  have HS3 := Lib.hid hs3
  clear hs2 hs3
  go_wp2_with fail
  refine (HTK.out _).mono ?_
  rintro e w3 ⟨rfl, hb3⟩
  have hs4 := sk_step hb3 (HS3.out _)
  clear HS3 hb3 c0 c1 c2 c3 c4 c5 c6 c7
  obtain ⟨c0, c1, c2, c3, c4, c5, c6, c7⟩ := skS hs4
  go_wp2_with fail
  refine (HPH.out _).mono ?_
  rintro e w5 ⟨rfl, hb5⟩
  have hs5 := sk_step hb5 hs4
  clear hs4 hb5 c0 c1 c2 c3 c4 c5 c6 c7
  go_wp2
  go_ret
  exact ⟨rfl, hs5.2.2.2.2⟩
set_option maxRecDepth 100000 in
set_option maxHeartbeats 8000000 in
theorem frameSpoilt_oo (p1 p2 N F P pg cm : Int) (j : Nat) (d : ByteArray) (x0 x1 x2 x3 x4 x5 x6 x7 : Nat) (S b3 : ByteArray) (Q1 Q2 b1 b2 b4 b5 x : Int) (bt : Bool) (R : ByteArray) (g1 g2 g3 y : Int) (bh : Bool) (w : World) (hd : d.size ≤ 8192) (hj : j ≤ 9223372036854775807) (_hS0 : S.size ≤ 576) (hS : (S.size : Int) = 576) (HPUT : Hid (∀ w, Calls Try.prog 13 #[.agg #[.int .u32 p1, .int .u32 p2], .int .u64 N, .agg #[.int .i64 pg, .int .i64 cm, .string d]] w fun e w' => e = .returned (.tuple #[.string S, .agg #[.int .u32 Q1, .int .u32 Q2], .int .i64 0]) ∧ Below w.heap.size w w'))
    (HTK : Hid (∀ w, Calls Try.prog 14 #[.agg #[.int .u32 p1, .int .u32 p2], .int .u64 N, .string (S.extract 0 (j % 72 * 8) ++ bstr [x0, x1, x2, x3, x4, x5, x6, x7] ++ S.extract (j % 72 * 8 + 8) S.size)] w fun e w' => e = .returned (.tuple #[.agg #[.int .i64 b1, .int .i64 b2, .string b3], .agg #[.int .u32 b4, .int .u32 b5], .int .i64 x]) ∧ Below w.heap.size w w')) (HX : Hid ((x == 0) = bt)) (HST : Hid ((S.toList == (S.extract 0 (j % 72 * 8) ++ bstr [x0, x1, x2, x3, x4, x5, x6, x7] ++ S.extract (j % 72 * 8 + 8) S.size).toList) = bt))
    (_hR0 : R.size ≤ 64) (hR : (R.size : Int) = 64) (HPH : Hid (∀ w, Calls Try.prog 10 #[.agg #[.int .u64 N, .int .i64 F, .int .i64 P]] w fun e w' => e = .returned (.tuple #[.string R, .int .i64 0]) ∧ Below w.heap.size w w'))
    (HTH : Hid (∀ w, Calls Try.prog 11 #[.string (R.extract 0 (j % 8 * 8) ++ bstr [x0, x1, x2, x3, x4, x5, x6, x7] ++ R.extract (j % 8 * 8 + 8) R.size)] w fun e w' => e = .returned (.tuple #[.agg #[.int .u64 g1, .int .i64 g2, .int .i64 g3], .int .i64 y]) ∧ Below w.heap.size w w')) (HY : Hid ((y == 0) = bh)) (HRT : Hid ((R.toList == (R.extract 0 (j % 8 * 8) ++ bstr [x0, x1, x2, x3, x4, x5, x6, x7] ++ R.extract (j % 8 * 8 + 8) R.size).toList) = bh)) :
    Calls Try.prog 8 #[.agg #[.int .u32 p1, .int .u32 p2], .agg #[.int .u64 N, .int .i64 F, .int .i64 P], .agg #[.int .i64 pg, .int .i64 cm, .string d], .int .i64 j, .agg (blk8 x0 x1 x2 x3 x4 x5 x6 x7)] w fun e w' => e = .returned (.bool true) ∧ Below w.heap.size w w' := by
  have hs0 := sk_new w p1 p2 N F P pg cm d (blk8 x0 x1 x2 x3 x4 x5 x6 x7)
  unfold blk8
  go_enter Try.func8, Try.ntmps8
  go_wp2_with fail
  refine (works_any _).mono ?_
  rintro e w1 ⟨rfl, hb1⟩
  have hs1 := sk_step hb1 hs0
  obtain ⟨c0, c1, c2, c3, c4, c5, c6, c7⟩ := skS hs1
  clear hb1 hs0
  go_wp2_with fail
  refine (HPUT.out _).mono ?_
  rintro e w2 ⟨rfl, hb2⟩
  have hs2 := sk_alloc (.cells #[.int .u32 Q1, .int .u32 Q2] 33) (sk_step hb2 hs1)
  clear hb2 hs1 c0 c1 c2 c3 c4 c5 c6 c7
  go_wp2_with fail
  have hSB : S.size = 576 := by omega
  clear hS
  generalize (w2.alloc (.cells #[.int .u32 Q1, .int .u32 Q2] 33)) = W0 at *
  have hw2 : IntKind.i64.wrap ((j : Int) % 72 * 8 + 8) = (j : Int) % 72 * 8 + 8 := by simp [IntKind.wrap, IntKind.bits, IntKind.signed]; omega
  have hf0 : (0 : Int) ≤ (j : Int) % 72 * 8 := by omega
  have hf1 : (j : Int) % 72 * 8 ≤ S.size := by omega
  have hf2 : (j : Int) % 72 * 8 + 8 ≤ S.size := by omega
  have hf3 : (0 : Int) ≤ (j : Int) % 72 * 8 + 8 := by omega
  have hf4 : ((j : Int) % 72 * 8 + 8).toNat = j % 72 * 8 + 8 := by omega
  have hf5 : ((j : Int) % 72 * 8).toNat = j % 72 * 8 := by omega
  have hal : Try.prog.arrayLen 51 = 8 := by kernel_rfl
  have hcv := fun n => sk_conv (sk_drewN n hs2)
  have hcv1 := sk_conv (sk_drewN 1 hs2)
  have hcv0 := sk_conv (sk_drewN 0 hs2)
  have hsB : (bstr [x0, x1, x2, x3, x4, x5, x6, x7]).size = 8 := by rw [bstr_size]; rfl
  have hsA : (S.extract 0 (j % 72 * 8)).size = j % 72 * 8 := by simp; omega
  have hsC : (S.extract (j % 72 * 8 + 8) S.size).size = S.size - (j % 72 * 8 + 8) := by simp
  have hct1 := fun w => run_string_add_sum (P := Try.prog) w (S.extract 0 (j % 72 * 8)) (bstr [x0, x1, x2, x3, x4, x5, x6, x7]) (by omega)
  have hct2 := fun w => run_string_add_sum (P := Try.prog) w (S.extract 0 (j % 72 * 8) ++ bstr [x0, x1, x2, x3, x4, x5, x6, x7]) (S.extract (j % 72 * 8 + 8) S.size) (by rw [ByteArray.size_append]; omega)
  have hm1 : min (j % 72 * 8) S.size + 8 ≤ 9223372036854775807 := by omega
  have hm2 : min (j % 72 * 8) S.size + 8 + (S.size - (j % 72 * 8 + 8)) ≤ 9223372036854775807 := by omega
  clear hsA hsC hSB
  go_quiet (fail)
  clear hw2 hf0 hf1 hf2 hf3 hf4 hf5 hal hcv hcv1 hcv0 hsB hct1 hct2 hm1 hm2
  generalize S.extract 0 (j % 72 * 8) ++ bstr [x0, x1, x2, x3, x4, x5, x6, x7] ++ S.extract (j % 72 * 8 + 8) S.size = T at *
  have hs3 := fun n => sk_drewN n hs2
  obtain ⟨c0, c1, c2, c3, c4, c5, c6, c7⟩ := skS hs2
  have hx := HX.out
  have hst := HST.out
  have HS3 := Lib.hid hs3
  clear hs2 hs3
  go_wp2_with fail
  refine (HTK.out _).mono ?_
  rintro e w3 ⟨rfl, hb3⟩
  have hs4 := sk_step hb3 (HS3.out _)
  clear HS3 hb3 c0 c1 c2 c3 c4 c5 c6 c7
  obtain ⟨c0, c1, c2, c3, c4, c5, c6, c7⟩ := skS hs4
  go_wp2_with fail
  refine (HPH.out _).mono ?_
  rintro e w5 ⟨rfl, hb5⟩
  have hs5 := sk_step hb5 hs4
  clear hs4 hb5 c0 c1 c2 c3 c4 c5 c6 c7
  go_wp2_with fail
  have hSB : R.size = 64 := by omega
  clear hR
  obtain ⟨W1, rfl⟩ : ∃ W1 : World, W1 = w5 := ⟨_, rfl⟩
  have hw2 : IntKind.i64.wrap ((j : Int) % 8 * 8 + 8) = (j : Int) % 8 * 8 + 8 := by simp [IntKind.wrap, IntKind.bits, IntKind.signed]; omega
  have hf0 : (0 : Int) ≤ (j : Int) % 8 * 8 := by omega
  have hf1 : (j : Int) % 8 * 8 ≤ R.size := by omega
  have hf2 : (j : Int) % 8 * 8 + 8 ≤ R.size := by omega
  have hf3 : (0 : Int) ≤ (j : Int) % 8 * 8 + 8 := by omega
  have hf4 : ((j : Int) % 8 * 8 + 8).toNat = j % 8 * 8 + 8 := by omega
  have hf5 : ((j : Int) % 8 * 8).toNat = j % 8 * 8 := by omega
  have hal : Try.prog.arrayLen 51 = 8 := by kernel_rfl
  have hcv := fun n => sk_conv (sk_drewN n hs5)
  have hcv1 := sk_conv (sk_drewN 1 hs5)
  have hcv0 := sk_conv (sk_drewN 0 hs5)
  have hsB : (bstr [x0, x1, x2, x3, x4, x5, x6, x7]).size = 8 := by rw [bstr_size]; rfl
  have hsA : (R.extract 0 (j % 8 * 8)).size = j % 8 * 8 := by simp; omega
  have hsC : (R.extract (j % 8 * 8 + 8) R.size).size = R.size - (j % 8 * 8 + 8) := by simp
  have hct1 := fun w => run_string_add_sum (P := Try.prog) w (R.extract 0 (j % 8 * 8)) (bstr [x0, x1, x2, x3, x4, x5, x6, x7]) (by omega)
  have hct2 := fun w => run_string_add_sum (P := Try.prog) w (R.extract 0 (j % 8 * 8) ++ bstr [x0, x1, x2, x3, x4, x5, x6, x7]) (R.extract (j % 8 * 8 + 8) R.size) (by rw [ByteArray.size_append]; omega)
  have hm1 : min (j % 8 * 8) R.size + 8 ≤ 9223372036854775807 := by omega
  have hm2 : min (j % 8 * 8) R.size + 8 + (R.size - (j % 8 * 8 + 8)) ≤ 9223372036854775807 := by omega
  clear hsA hsC hSB
  go_quiet (fail)
  clear hw2 hf0 hf1 hf2 hf3 hf4 hf5 hal hcv hcv1 hcv0 hsB hct1 hct2 hm1 hm2
  generalize R.extract 0 (j % 8 * 8) ++ bstr [x0, x1, x2, x3, x4, x5, x6, x7] ++ R.extract (j % 8 * 8 + 8) R.size = T2 at *
  have hs6 := fun n => sk_drewN n hs5
  have hy := HY.out
  have hrt := HRT.out
  have HS6 := Lib.hid hs6
  clear hs5 hs6
  go_wp2_with fail
  refine (HTH.out _).mono ?_
  rintro e w7 ⟨rfl, hb7⟩
  have hs8 := sk_step hb7 (HS6.out _)
  clear HS6 hb7
  go_wp2
  go_ret
  exact ⟨rfl, hs8.2.2.2.2⟩
theorem mix_comm (S B : ByteArray) (j m : Nat) : S.extract 0 (j % m * 8) ++ B ++ S.extract (j % m * 8 + 8) S.size = mixT S B (8 * (j % m)) := by
  rw [Nat.mul_comm (j % m) 8]; rfl
theorem toList_ne {S T : ByteArray} (h : T ≠ S) : (S.toList == T.toList) = false := by
  rw [beq_eq_false_iff_ne]
  exact fun e => h (str_ext e).symm
theorem spoil_put (p1 p2 : Int) (pg cm N j : Nat) (d B : ByteArray) (hp : Fit (p1, p2)) (hN : N < 18446744073709551616) (h0 : 0 < pg) (hpg : pg ≤ 256) (hcm : cm ≤ 256) (hd : d.size = 512) (hB : B.size = 8) :
    ∃ (b3 : ByteArray) (b1 b2 b4 b5 x : Int) (bt : Bool), (∀ w, Calls Try.prog 14 #[.agg #[.int .u32 p1, .int .u32 p2], .int .u64 N, .string ((bstr (frameL (p1, p2) pg cm N (bts d))).extract 0 (j % 72 * 8) ++ B ++ (bstr (frameL (p1, p2) pg cm N (bts d))).extract (j % 72 * 8 + 8) (bstr (frameL (p1, p2) pg cm N (bts d))).size)] w fun e w' => e = .returned (.tuple #[.agg #[.int .i64 b1, .int .i64 b2, .string b3], .agg #[.int .u32 b4, .int .u32 b5], .int .i64 x]) ∧ Below w.heap.size w w') ∧ (x == 0) = bt ∧
      ((bstr (frameL (p1, p2) pg cm N (bts d))).toList == ((bstr (frameL (p1, p2) pg cm N (bts d))).extract 0 (j % 72 * 8) ++ B ++ (bstr (frameL (p1, p2) pg cm N (bts d))).extract (j % 72 * 8 + 8) (bstr (frameL (p1, p2) pg cm N (bts d))).size).toList) = bt := by
  have hSz := frameL_size (p1, p2) pg cm N d hd
  have hSb := bts_frameL (p1, p2) pg cm N d
  have hD : (bts d).length = 512 := by rw [bts_length]; exact hd
  have hback := (f_back (p := (p1, p2)) (p' := (p1, p2)) (pg := pg) (cm := cm) (salt := N) (salt' := N) (D := bts d) [] hp hp hD hN h0 hpg hcm).1.2 ⟨rfl, rfl⟩
  rw [List.append_nil, ← hSb] at hback
  generalize bstr (frameL (p1, p2) pg cm N (bts d)) = S at *
  rw [mix_comm]
  obtain ⟨hn, hz⟩ := mix_near (S := S) (B := B) (k0 := j % 72) (by omega) hB
  generalize mixT S B (8 * (j % 72)) = T at *
  have ht := fun w => take_any p1 p2 N T w hp (by omega)
  by_cases h : fErr (p1, p2) N (bts T) = 0
  · have e := bts_inj (f_near hp (bts_lt T) (bts_lt S) (by rw [bts_length]; omega) (by rw [bts_length]; omega) hn h hback)
    unfold tfRet at ht
    rw [if_pos h] at ht
    exact ⟨_, _, _, _, _, 0, true, ht, rfl, by rw [e]; simp⟩
  · rw [tf_zero h] at ht
    exact ⟨⟨#[]⟩, 0, 0, 0, 0, _, false, ht, int_zero h, toList_ne fun e => h (by rw [e]; exact hback)⟩
theorem spoil_head (N F P j : Nat) (B : ByteArray) (hN : N < 18446744073709551616) (hF : F ≤ 256) (hP : P ≤ 256) (hB : B.size = 8) :
    ∃ (g1 g2 g3 y : Int) (bh : Bool), (∀ w, Calls Try.prog 11 #[.string ((bstr (headL N F P)).extract 0 (j % 8 * 8) ++ B ++ (bstr (headL N F P)).extract (j % 8 * 8 + 8) (bstr (headL N F P)).size)] w fun e w' => e = .returned (.tuple #[.agg #[.int .u64 g1, .int .i64 g2, .int .i64 g3], .int .i64 y]) ∧ Below w.heap.size w w') ∧ (y == 0) = bh ∧
      ((bstr (headL N F P)).toList == ((bstr (headL N F P)).extract 0 (j % 8 * 8) ++ B ++ (bstr (headL N F P)).extract (j % 8 * 8 + 8) (bstr (headL N F P)).size).toList) = bh := by
  have hSz := headL_size N F P
  have hSb := bts_headL N F P
  have hback := (th_back (N := N) (F := F) (P := P) [] hN hF hP).1
  rw [List.append_nil, ← hSb] at hback
  generalize bstr (headL N F P) = S at *
  rw [mix_comm]
  obtain ⟨hn, hz⟩ := mix_near (S := S) (B := B) (k0 := j % 8) (by omega) hB
  generalize mixT S B (8 * (j % 8)) = T at *
  have ht := fun w => takeHead_any T w (by omega)
  unfold thRet at ht
  by_cases h : thErr (bts T) = 0
  · have e := bts_inj (th_near (bts_lt T) (bts_lt S) (by rw [bts_length]; omega) (by rw [bts_length]; omega) hn h hback)
    rw [if_pos h] at ht
    exact ⟨_, _, _, 0, true, ht, rfl, by rw [e]; simp⟩
  · rw [if_neg h] at ht
    exact ⟨0, 0, 0, _, false, ht, int_zero h, toList_ne fun e => h (by rw [e]; exact hback)⟩
theorem eight_ints {L : List Int} (hl : L.length = 8) (hw : ∀ x ∈ L, (Lit.int .u8 x).wf = true) : ∃ x0 x1 x2 x3 x4 x5 x6 x7 : Nat, (L.map (Value.int .u8)).toArray = blk8 x0 x1 x2 x3 x4 x5 x6 x7 := by
  match L, hl with
  | [a, b, c, d, e, f, g, h], _ =>
    have hb : ∀ x ∈ [a, b, c, d, e, f, g, h], 0 ≤ x := fun x hx => (bounds_u8 (hw x hx)).1
    refine ⟨a.toNat, b.toNat, c.toNat, d.toNat, e.toNat, f.toNat, g.toNat, h.toNat, ?_⟩
    unfold blk8
    rw [Int.toNat_of_nonneg (hb a (by simp)), Int.toNat_of_nonneg (hb b (by simp)), Int.toNat_of_nonneg (hb c (by simp)), Int.toNat_of_nonneg (hb d (by simp)), Int.toNat_of_nonneg (hb e (by simp)), Int.toNat_of_nonneg (hb f (by simp)), Int.toNat_of_nonneg (hb g (by simp)), Int.toNat_of_nonneg (hb h (by simp))]
    rfl
theorem frameSpoilt_walk (a0 b0 a1 b1 c1 a2 b2 : Int) (c2 : ByteArray) (a3 : Int) (a4 : List Int) (w0 : (Lit.int .u32 a0).wf = true) (u0 : (Lit.int .u32 b0).wf = true) (w1 : (Lit.int .u64 a1).wf = true) (_u1 : (Lit.int .i64 b1).wf = true) (_x1 : (Lit.int .i64 c1).wf = true) (_w2 : (Lit.int .i64 a2).wf = true) (_u2 : (Lit.int .i64 b2).wf = true) (_x2 : c2.size ≤ 140737488351232) (w3 : (Lit.int .i64 a3).wf = true) (l4 : a4.length = 8) (w4 : ∀ x ∈ a4, (Lit.int .u8 x).wf = true) (w : World) :
    Calls Try.prog 8 #[.agg #[.int .u32 a0, .int .u32 b0], .agg #[.int .u64 a1, .int .i64 b1, .int .i64 c1], .agg #[.int .i64 a2, .int .i64 b2, .string c2], .int .i64 a3, .agg (a4.map (Value.int .u8)).toArray] w fun e w' => e = .returned (.bool true) ∧ Below w.heap.size w w' := by
  have hp := fit_wf w0 u0
  have h1 := bounds_u64 w1
  have h3 := bounds_i64 w3
  obtain ⟨x0, x1, x2, x3, x4, x5, x6, x7, e4⟩ := eight_ints l4 w4
  rw [e4]
  clear w0 u0 w1 w3 w4 l4 e4
  have hB : (bstr [x0, x1, x2, x3, x4, x5, x6, x7]).size = 8 := by rw [bstr_size]; rfl
  by_cases hd : 8192 < c2.size
  · exact frameSpoilt_long1 a0 b0 a1 b1 c1 a2 b2 a3 c2 x0 x1 x2 x3 x4 x5 x6 x7 w hd
  by_cases hj : a3 < 0
  · exact frameSpoilt_long2 a0 b0 a1 b1 c1 a2 b2 a3 c2 x0 x1 x2 x3 x4 x5 x6 x7 w (by omega) hj
  obtain ⟨j, rfl⟩ := Int.eq_ofNat_of_zero_le (show 0 ≤ a3 from by omega)
  obtain ⟨N, rfl⟩ := Int.eq_ofNat_of_zero_le h1.1
  have hN : N < 18446744073709551616 := by omega
  have hjj : j ≤ 9223372036854775807 := by omega
  cases hf : okF a2 b2 c2.size with
  | false =>
    have hput := fun w => put_bad a0 b0 (N : Int) a2 b2 c2 w hf
    cases hh : okIn 256 b1 && okIn 256 c1 with
    | false =>
      have hph := fun w => putHead_any (N : Int) b1 c1 w (by omega) (by omega)
      unfold putHeadRet at hph
      rw [hh] at hph
      exact frameSpoilt_bb a0 b0 N b1 c1 a2 b2 j c2 x0 x1 x2 x3 x4 x5 x6 x7 w (by omega) hjj (Lib.hid hput) (Lib.hid hph)
    | true =>
      rw [Bool.and_eq_true, okIn_iff, okIn_iff] at hh
      obtain ⟨⟨f0, f1⟩, q0, q1⟩ := hh
      obtain ⟨F, rfl⟩ := Int.eq_ofNat_of_zero_le f0
      obtain ⟨P, rfl⟩ := Int.eq_ofNat_of_zero_le q0
      obtain ⟨g1, g2, g3, y, bh, k1, k2, k3⟩ := spoil_head N F P j _ hN (by omega) (by omega) hB
      exact frameSpoilt_bo a0 b0 N F P a2 b2 j c2 x0 x1 x2 x3 x4 x5 x6 x7 (bstr (headL N F P)) g1 g2 g3 y bh w (by omega) hjj (Lib.hid hput) (by rw [headL_size]; omega) (by rw [headL_size]; rfl) (Lib.hid fun w => putHead_ok N F P w hN (by omega) (by omega)) (Lib.hid k1) (Lib.hid k2) (Lib.hid k3)
  | true =>
    obtain ⟨f1, f2, f3, f4, f5⟩ := (okF_iff _ _ _).1 hf
    obtain ⟨pg, rfl⟩ := Int.eq_ofNat_of_zero_le (show 0 ≤ a2 from by omega)
    obtain ⟨cm, rfl⟩ := Int.eq_ofNat_of_zero_le f3
    have hput := fun w => put_ok a0 b0 N pg cm c2 w hp hN (by omega) (by omega) f5 hf
    have hSz := frameL_size (a0, b0) pg cm N c2 f5
    obtain ⟨b3, r1, r2, r4, r5, x, bt, m1, m2, m3⟩ := spoil_put a0 b0 pg cm N j c2 _ hp hN (by omega) (by omega) (by omega) f5 hB
    cases hh : okIn 256 b1 && okIn 256 c1 with
    | false =>
      have hph := fun w => putHead_any (N : Int) b1 c1 w (by omega) (by omega)
      unfold putHeadRet at hph
      rw [hh] at hph
      exact frameSpoilt_ob a0 b0 N b1 c1 pg cm j c2 x0 x1 x2 x3 x4 x5 x6 x7 (bstr (frameL (a0, b0) pg cm N (bts c2))) b3 _ _ r1 r2 r4 r5 x bt w (by omega) hjj (by omega) (by rw [hSz]; rfl) (Lib.hid hput) (Lib.hid m1) (Lib.hid m2) (Lib.hid m3) (Lib.hid hph)
    | true =>
      rw [Bool.and_eq_true, okIn_iff, okIn_iff] at hh
      obtain ⟨⟨f0, f1⟩, q0, q1⟩ := hh
      obtain ⟨F, rfl⟩ := Int.eq_ofNat_of_zero_le f0
      obtain ⟨P, rfl⟩ := Int.eq_ofNat_of_zero_le q0
      obtain ⟨g1, g2, g3, y, bh, k1, k2, k3⟩ := spoil_head N F P j _ hN (by omega) (by omega) hB
      exact frameSpoilt_oo a0 b0 N F P pg cm j c2 x0 x1 x2 x3 x4 x5 x6 x7 (bstr (frameL (a0, b0) pg cm N (bts c2))) b3 _ _ r1 r2 r4 r5 x bt (bstr (headL N F P)) g1 g2 g3 y bh w (by omega) hjj (by omega) (by rw [hSz]; rfl) (Lib.hid hput) (Lib.hid m1) (Lib.hid m2) (Lib.hid m3) (by rw [headL_size]; omega) (by rw [headL_size]; rfl) (Lib.hid fun w => putHead_ok N F P w hN (by omega) (by omega)) (Lib.hid k1) (Lib.hid k2) (Lib.hid k3)
end Go.Proofs.Ytpgjlpljjbgplaa
