/- frame.PutHead and frame.Start. Conditions: the numbers fit their kinds. -/
import Derived.Test.YthipaabjmlgjmaaFrame1
import Derived.Deep.RegionHeld3
namespace Go.Proofs.Ythipaabjmlgjmaa
open Go.RowKit
theorem bj {a b c : World} (h : Below a.heap.size a b) (k : Below b.heap.size b c) : Below a.heap.size a c := h.trans (k.mono h.size)
theorem bja {a b c : World} (o : Obj) (h : Below a.heap.size a b) (k : Below (b.alloc o).heap.size (b.alloc o) c) : Below a.heap.size a c := bj (h.alloc h.size o) k
def nameL : List Nat := [99, 111, 117, 110, 116, 101, 114, 102]
def headA (N F P : Nat) : List Nat := nameL ++ eightL N ++ fourL F ++ fourL P
def sumT (L : List Nat) : List Nat := textL (addL L (0, 0)).1 (addL L (0, 0)).2
def headL (N F P : Nat) : List Nat := headA N F P ++ sumT (headA N F P) ++ List.replicate 32 0
theorem bts_name : bts ⟨#[99, 111, 117, 110, 116, 101, 114, 102]⟩ = nameL := rfl
theorem headA_length (N F P : Nat) : (headA N F P).length = 24 := rfl
theorem headA_lt (N F P : Nat) : ∀ x ∈ headA N F P, x < 256 := by
  intro x hx
  simp only [headA, List.mem_append] at hx
  rcases hx with ((h | h) | h) | h
  · revert x; decide
  · exact eight_lt _ x h
  · exact four_lt _ x h
  · exact four_lt _ x h
theorem bts_headA (N F P : Nat) : bts (bstr (headA N F P)) = headA N F P := bts_bstr _ (headA_lt N F P)
theorem headA_size (N F P : Nat) : (bstr (headA N F P)).size = 24 := by rw [bstr_size]; rfl
def Hd (w : World) (v0 v1 v2 : Value) (w' : World) : Prop :=
  w'.cell? ⟨w.heap.size, 0, none⟩ = some v0 ∧ w'.cell? ⟨w.heap.size, 1, none⟩ = some v1 ∧ w'.cell? ⟨w.heap.size, 2, none⟩ = some v2 ∧ w.heap.size < w'.heap.size ∧ Below w.heap.size w w'
theorem hd_below {w W w' : World} {v0 v1 v2 : Value} (hb : Below W.heap.size W w') (h : Hd w v0 v1 v2 W) : Hd w v0 v1 v2 w' :=
  ⟨(hb.cell (p := ⟨w.heap.size, 0, none⟩) h.2.2.2.1).trans h.1, (hb.cell (p := ⟨w.heap.size, 1, none⟩) h.2.2.2.1).trans h.2.1, (hb.cell (p := ⟨w.heap.size, 2, none⟩) h.2.2.2.1).trans h.2.2.1, Nat.lt_of_lt_of_le h.2.2.2.1 hb.size, h.2.2.2.2.trans (hb.mono h.2.2.2.2.size)⟩
theorem hd_alloc {w W : World} {v0 v1 v2 : Value} (o : Obj) (h : Hd w v0 v1 v2 W) : Hd w v0 v1 v2 (W.alloc o) :=
  hd_below ((Below.refl _ _).alloc (Nat.le_refl _) _) h
theorem hd_drew {w W : World} {v0 v1 v2 : Value} (h : Hd w v0 v1 v2 W) : Hd w v0 v1 v2 W.drew :=
  hd_below (Below.refl _ _).drew h
theorem hd_new (w : World) (v0 v1 v2 : Value) (t : TypeId) : Hd w v0 v1 v2 (w.alloc (.cells #[v0, v1, v2] t)) :=
  have hk := Blk.new w t #[v0, v1, v2]
  ⟨hk.cell 0, hk.cell 1, hk.cell 2, hk.lt, (Below.refl _ _).alloc (Nat.le_refl _) _⟩
set_option maxRecDepth 100000 in
set_option maxHeartbeats 2000000 in
theorem putHead_bad (N F P : Int) (w : World) (h : okIn 256 F = false ∨ okIn 256 F = true ∧ okIn 256 P = false) :
    Calls Try.prog 37 #[.agg #[.int .u64 N, .int .i64 F, .int .i64 P]] w fun e w' => e = .returned (.tuple #[.string ⟨#[]⟩, .int .i64 2]) ∧ Below w.heap.size w w' := by
  have hb : Below w.heap.size w (w.alloc (.cells #[.int .u64 N, .int .i64 F, .int .i64 P] 45)) := (Below.refl _ _).alloc (Nat.le_refl _) _
  rcases h with h | ⟨h, h'⟩
  · go_enter Try.func37, Try.ntmps37
    go_wp2_with (go_at_call 67; refine (within_one _ F _ (blk_new _ _ _ _ (by simp)) h).mono ?_; rintro e w2 ⟨rfl, rfl⟩)
    go_ret2
    exact ⟨rfl, hb.alloc hb.size _⟩
  · go_enter Try.func37, Try.ntmps37
    go_wp2_with (first
      | (go_at_call 67; refine (within_one _ F _ (blk_new _ _ _ _ (by simp)) h).mono ?_; rintro e w2 ⟨rfl, rfl⟩)
      | (go_at_call 67; refine (within_one _ P _ (blk_new _ _ _ _ (by simp)) h').mono ?_; rintro e w2 ⟨rfl, rfl⟩))
    go_ret2
    exact ⟨rfl, (hb.alloc hb.size _).alloc (by have := hb.size; simp; omega) _⟩
set_option maxRecDepth 100000 in
set_option maxHeartbeats 2000000 in
theorem putHead_ok (N F P : Nat) (w : World) (hN : N < 18446744073709551616) (hF : F ≤ 256) (hP : P ≤ 256) :
    Calls Try.prog 37 #[.agg #[.int .u64 N, .int .i64 F, .int .i64 P]] w fun e w' => e = .returned (.tuple #[.string (bstr (headL N F P)), .int .i64 0]) ∧ Below w.heap.size w w' := by
  have hb : Below w.heap.size w (w.alloc (.cells #[.int .u64 N, .int .i64 F, .int .i64 P] 45)) := (Below.refl _ _).alloc (Nat.le_refl _) _
  have hk : Blk (w.alloc (.cells #[.int .u64 N, .int .i64 F, .int .i64 P] 45)) w.heap.size 45 #[.int .u64 N, .int .i64 F, .int .i64 P] := Blk.new _ _ _
  have h : okIn 256 F = true := by simp [okIn]; omega
  have h' : okIn 256 P = true := by simp [okIn]; omega
  go_enter Try.func37, Try.ntmps37
  go_wp2_with (first
      | (go_at_call 67; refine (within_one _ F _ (blk_new _ _ _ _ (by simp)) h).mono ?_; rintro e w2 ⟨rfl, rfl⟩)
      | (go_at_call 67; refine (within_one _ P _ (blk_new _ _ _ _ (by simp)) h').mono ?_; rintro e w2 ⟨rfl, rfl⟩))
  have hs := hd_drew (hd_alloc (.cells #[.int .i64 P] 3) (hd_alloc (.cells #[.int .i64 F] 3) (hd_new w (.int .u64 N) (.int .i64 F) (.int .i64 P) 45)))
  have hFm : IntKind.u32.wrap (F : Int) = F := by simp [IntKind.wrap, IntKind.bits, IntKind.signed]; omega
  have hPm : IntKind.u32.wrap (P : Int) = P := by simp [IntKind.wrap, IntKind.bits, IntKind.signed]; omega
  have hz1 : (([⟨#[99, 111, 117, 110, 116, 101, 114, 102]⟩, bstr (eightL N), bstr (fourL F), bstr (fourL P)] : List ByteArray).map ByteArray.size).sum ≤ 140737488355328 := by
    simp only [List.map_cons, List.map_nil, List.sum_cons, List.sum_nil, four_size, eight_size, show (⟨#[99, 111, 117, 110, 116, 101, 114, 102]⟩ : ByteArray).size = 8 from rfl]
    omega
  have hL1 : (([⟨#[99, 111, 117, 110, 116, 101, 114, 102]⟩, bstr (eightL N), bstr (fourL F), bstr (fourL P)] : List ByteArray).map bts).flatten = headA N F P := by
    simp only [List.map_cons, List.map_nil, bts_name, bts_four, bts_eight, List.flatten_cons, List.flatten_nil, List.append_nil, headA, List.append_assoc]
  go_region_held3 (fun w' => w'.cell? ⟨w.heap.size, 0, none⟩ = some (.int .u64 N) ∧ w'.cell? ⟨w.heap.size, 1, none⟩ = some (.int .i64 F) ∧ w'.cell? ⟨w.heap.size, 2, none⟩ = some (.int .i64 P) ∧ w.heap.size < w'.heap.size ∧ Below w.heap.size w w')
    (first | exact hs | (go_split_ands; exact hd_below (by assumption) ⟨by assumption, by assumption, by assumption, by assumption, by assumption⟩) | (go_split_ands; exact hd_alloc _ ⟨by assumption, by assumption, by assumption, by assumption, by assumption⟩))
    (first
      | (go_at_call 69; with_reducible refine (eight_any N _ hN).mono ?_; rintro e w3 ⟨rfl, hb3⟩)
      | (go_at_call 70; with_reducible refine (four_any F _ (by omega) (by omega)).mono ?_; rintro e w4 ⟨rfl, hb4⟩)
      | (go_at_call 70; with_reducible refine (four_any P _ (by omega) (by omega)).mono ?_; rintro e w5 ⟨rfl, hb5⟩)
      | (go_at_call 68; refine (joined_blk [⟨#[99, 111, 117, 110, 116, 101, 114, 102]⟩, bstr (eightL N), bstr (fourL F), bstr (fourL P)] (headA N F P) 4 4 hL1 (blk_new _ _ _ _ (by simp)) rfl (by omega) (by omega) hz1).mono ?_; rintro e w6 ⟨rfl, hb6⟩))
  have hfit : Fit (addL (headA N F P) (0, 0)) := fit_addL ⟨by omega, by omega, by omega, by omega⟩
  have hL2 : (([bstr (headA N F P), bstr (sumT (headA N F P)), bstr (List.replicate 32 0)] : List ByteArray).map bts).flatten = headL N F P := by
    simp only [List.map_cons, List.map_nil, bts_headA, sumT, bts_text, bts_zeros, List.flatten_cons, List.flatten_nil, List.append_nil, headL, List.append_assoc]
  have hz2 : (([bstr (headA N F P), bstr (sumT (headA N F P)), bstr (List.replicate 32 0)] : List ByteArray).map ByteArray.size).sum ≤ 140737488355328 := by
    simp only [List.map_cons, List.map_nil, List.sum_cons, List.sum_nil, headA_size, sumT, text_size, zeros_size]
    omega
  have hof := fun w => of_any (bstr (headA N F P)) w (by rw [headA_size]; omega)
  rw [bts_headA] at hof
  have htx := fun w => text_any (addL (headA N F P) (0, 0)).1 (addL (headA N F P) (0, 0)).2 w hfit
  unfold sumT at hL2 hz2
  generalize addL (headA N F P) (0, 0) = Q at *
  obtain ⟨Q1, Q2⟩ := Q
  simp only at hof htx hL2 hz2
  have HOF := Lib.hid hof
  have HTX := Lib.hid htx
  clear hof htx
  go_wp2_with (first
      | (go_at_call 72; with_reducible refine (HOF.out _).mono ?_; rintro e w7 ⟨rfl, hb7⟩)
      | (go_at_call 71; with_reducible refine (HTX.out _).mono ?_; rintro e w8 ⟨rfl, hb8⟩)
      | (go_at_call 73; refine (noughts_any 32 _ (by omega)).mono ?_; rintro e w9 ⟨rfl, hb9⟩)
      | (go_at_call 68; refine (joined_blk [bstr (headA N F P), bstr (textL Q1 Q2), bstr (List.replicate 32 0)] (headL N F P) 3 3 hL2 (blk_new _ _ _ _ rfl) rfl (by omega) (by omega) hz2).mono ?_; rintro e w10 ⟨rfl, hb10⟩))
  go_ret2
  rename_i hH
  exact ⟨rfl, bja _ (bj (bj (bj hH.2.2.2.2 hb7) hb8) hb9) hb10⟩
def startL (N : Nat) : List Nat := nameL ++ eightL N
theorem startL_lt (N : Nat) : ∀ x ∈ startL N, x < 256 := by
  intro x hx
  simp only [startL, List.mem_append] at hx
  rcases hx with h | h
  · revert x; decide
  · exact eight_lt _ x h
theorem bts_startL (N : Nat) : bts (bstr (startL N)) = startL N := bts_bstr _ (startL_lt N)
theorem startL_size (N : Nat) : (bstr (startL N)).size = 16 := by rw [bstr_size]; rfl
def startP (N : Nat) : Int × Int := addL (startL N) (0, 0)
set_option maxRecDepth 100000 in
set_option maxHeartbeats 2000000 in
theorem start_any (N : Nat) (w : World) (hN : N < 18446744073709551616) :
    Calls Try.prog 48 #[.int .u64 N] w fun e w' => e = .returned (.agg #[.int .u32 (startP N).1, .int .u32 (startP N).2]) ∧ Below w.heap.size w w' := by
  have hL1 : (([⟨#[99, 111, 117, 110, 116, 101, 114, 102]⟩, bstr (eightL N)] : List ByteArray).map bts).flatten = startL N := by
    simp only [List.map_cons, List.map_nil, bts_name, bts_eight, List.flatten_cons, List.flatten_nil, List.append_nil, startL]
  have hz1 : (([⟨#[99, 111, 117, 110, 116, 101, 114, 102]⟩, bstr (eightL N)] : List ByteArray).map ByteArray.size).sum ≤ 140737488355328 := by
    simp only [List.map_cons, List.map_nil, List.sum_cons, List.sum_nil, eight_size, show (⟨#[99, 111, 117, 110, 116, 101, 114, 102]⟩ : ByteArray).size = 8 from rfl]
    omega
  have hof := fun w => of_any (bstr (startL N)) w (by rw [startL_size]; omega)
  rw [bts_startL] at hof
  unfold startP
  generalize addL (startL N) (0, 0) = Q at *
  obtain ⟨Q1, Q2⟩ := Q
  simp only at hof
  have HOF := Lib.hid hof
  clear hof
  go_enter Try.func48, Try.ntmps48
  go_wp2_with (first
      | (go_at_call 69; with_reducible refine (eight_any N _ hN).mono ?_; rintro e w3 ⟨rfl, hb3⟩)
      | (go_at_call 68; refine (joined_blk [⟨#[99, 111, 117, 110, 116, 101, 114, 102]⟩, bstr (eightL N)] (startL N) 2 2 hL1 (blk_new _ _ _ _ rfl) rfl (by omega) (by omega) hz1).mono ?_; rintro e w6 ⟨rfl, hb6⟩))
  refine (HOF.out _).mono ?_
  rintro e w7 ⟨rfl, hb7⟩
  have hc := bj (bja _ hb3 hb6) hb7
  have hq := (Blk.new w 73 #[.int .u32 0, .int .u32 0]).below hc (by simp)
  have hb : Below w.heap.size w w7 := (((Below.refl _ _).alloc (Nat.le_refl _) _).trans (hc.mono (by simp)))
  have r0 : w7.cell? ⟨w.heap.size, 0, none⟩ = some (.int .u32 0) := hq.cell 0
  have r1 : w7.cell? ⟨w.heap.size, 1, none⟩ = some (.int .u32 0) := hq.cell 1
  have f0 := hq.frozen 0
  have f1 := hq.frozen 1
  clear hc hq hb3 hb6 hb7
  go_wp2
  refine bodyPost_ret (v := .agg #[.int .u32 Q1, .int .u32 Q2]) (by simp [results, Try.results48, go_sem, r0, r1]) rfl ⟨rfl, ?_⟩
  exact (hb.setCell (Nat.le_refl _) _).setCell (Nat.le_refl _) _
end Go.Proofs.Ythipaabjmlgjmaa
