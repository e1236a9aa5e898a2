/- counterfoilref08.One. Conditions: those of each lemma. -/
import Derived.Test.YtibaacklcdknnaaDoorProg
import Derived.Test.YtibaacklcdknnaaDoorKey2
import Derived.Test.YtibaacklcdknnaaDoorRefFixed
import Derived.Test.YtibaacklcdknnaaDoorRows2
namespace Go.Proofs.YtibaacklcdknnaaDoor
open Go.RowKit
set_option linter.unusedVariables false
theorem fixL8 (n : Nat) : fixL 8 n = eightL n := by
  simp [fixL, eightL, fourL]
  omega
theorem bstr_app2 (a b : List Nat) : bstr a ++ bstr b = bstr (a ++ b) := by
  simp [bstr, ByteArray.ext_iff]
theorem escL_app (L M : List Nat) : escL (L ++ M) = escL L ++ escL M := by
  induction L with
  | nil => rfl
  | cons c r ih =>
    simp only [List.cons_append, escL]
    split <;> simp [ih]
theorem reads1 (W : World) (g : Nat) (x : Value) (t : TypeId) (hg : W.heap.size = g) : Reads (W.alloc (.cells #[x] t)) (g + 1) 1 (some ⟨g, 0, none⟩) 1 [x] := by
  subst hg
  refine ⟨rfl, fun _ => ⟨_, rfl, by simp, fun j v hj => ?_⟩⟩
  have hb := Blk.new W t #[x]
  match j, hj with
  | 0, hj => simp at hj; subst hj; exact hb.cell 0
theorem reads2 (W : World) (g : Nat) (x y : Value) (t : TypeId) (hg : W.heap.size = g) : Reads (W.alloc (.cells #[x, y] t)) (g + 1) 1 (some ⟨g, 0, none⟩) 2 [x, y] := by
  subst hg
  refine ⟨rfl, fun _ => ⟨_, rfl, by simp, fun j v hj => ?_⟩⟩
  have hb := Blk.new W t #[x, y]
  match j, hj with
  | 0, hj => simp at hj; subst hj; exact hb.cell 0
  | 1, hj => simp at hj; subst hj; simp [Addr.add]
theorem own_lit1 (W : World) (base g : Nat) (e : TypeId) (x : Nat) (hb : base ≤ W.heap.size) (hg : W.heap.size = g) : (W.alloc (.cells #[.int .u8 (x : Int)] e)).ownsRow base e 1 (.slice (some ⟨g, 0, none⟩) [x].length 1) [x].length (vals8 [x]) := by subst hg; exact own_lit W base e _ hb
theorem own_next {w0 W : World} {base : Nat} {e : TypeId} {v : Value} {n : Nat} {xs : List Value} (h : W.ownsRow base e 1 v n xs) (hb : Below base w0 W) (hs : base ≤ W.heap.size) (o : Obj) : (W.alloc o).ownsRow base e 1 v n xs ∧ Below base w0 (W.alloc o) ∧ base ≤ (W.alloc o).heap.size :=
  ⟨own_below h ((Below.refl W.heap.size W).alloc (Nat.le_refl _) o), hb.alloc hs o, by simp; omega⟩
theorem base_le {w W : World} {B : Nat} {o : Obj} (h : Below B (w.alloc o) W) : w.heap.size + 1 ≤ W.heap.size := by have := h.size; simp at this; exact this
theorem vals8_app (l m : List Nat) : vals8 l ++ vals8 m = vals8 (l ++ m) := by simp [vals8]
set_option maxRecDepth 100000 in
set_option maxHeartbeats 4000000 in
theorem refOne_0 (s : ByteArray) (q : Int) (w : World) : Calls Tryd.prog 16 #[.agg #[.int .u8 0, .int .i64 q, .string s]] w fun e w' => e = .returned (.string (bstr [1])) ∧ Below w.heap.size w w' := by
  go_enter Tryd.func16, Tryd.ntmps16
  go_wp2
  go_ret
  exact ⟨rfl, (Below.refl _ _).alloc (Nat.le_refl _) _⟩
set_option maxRecDepth 100000 in
set_option maxHeartbeats 4000000 in
theorem refOne_1 (s : ByteArray) (q : Int) (w : World) (h0 : -9223372036854775808 ≤ q) (h1 : q ≤ 9223372036854775807) : Calls Tryd.prog 16 #[.agg #[.int .u8 1, .int .i64 q, .string s]] w fun e w' => e = .returned (.string (bstr (2 :: eightL (turnN q)))) ∧ Below w.heap.size w w' := by
  have hw : IntKind.u64.wrap (IntKind.u64.wrap q + 9223372036854775808) = (turnN q : Nat) := by
    rw [IntKind.wrap_u64, IntKind.wrap_u64]; unfold turnN; omega
  have hl := turnN_lt h1
  generalize turnN q = t at *
  have hfx := fun W => refFixed_any t 8 W hl (by omega) (by omega)
  rw [fixL8] at hfx
  have hz : (bstr (eightL t)).size = 8 := by rw [bstr_size, eightL_len]
  have e : (⟨#[2]⟩ : ByteArray) ++ bstr (eightL t) = bstr (2 :: eightL t) := by
    rw [show (⟨#[2]⟩ : ByteArray) = bstr [2] from rfl]; exact bstr_app2 _ _
  have E := Lib.hid e
  have HFX := Lib.hid hfx
  clear e hfx h0 h1 hl
  generalize bstr (eightL t) = F at *
  go_enter Tryd.func16, Tryd.ntmps16
  go_wp2_with fail
  refine (HFX.out _).mono ?_
  rintro e w2 ⟨rfl, hb2⟩
  go_wp2
  go_ret
  exact ⟨by rw [← E.out]; rfl, bja _ (Below.refl _ _) hb2⟩
set_option maxRecDepth 100000 in
set_option maxHeartbeats 4000000 in
theorem refOne_23 (s : ByteArray) (k q : Int) (w : World) (hs : s.size ≤ 1000) (hk : k = 2 ∨ k = 3) : Calls Tryd.prog 16 #[.agg #[.int .u8 k, .int .i64 q, .string s]] w fun e w' => e = .returned (.string (bstr ((k.toNat + 1) :: (escL (bts s) ++ [0, 0])))) ∧ Below w.heap.size w w' := by
  obtain ⟨i0, hi0, hz0, hz1, hz2⟩ := info_parts u8_info
  have hl := bts_length s
  have hel := fun i => escL_len ((bts s).take i)
  rcases hk with rfl | rfl
  · go_enter Tryd.func16, Tryd.ntmps16
    go_wp2
    go_loopw [3, 4] (fun v i wr => ∃ (j : Nat) (L : List Nat) (A : Option Addr) (c : Nat), j ≤ s.size ∧ i = .int .i64 j ∧ v = .slice A L.length c ∧ L = 3 :: escL ((bts s).take j) ∧ wr.ownsRow (w.heap.size + 1) 5 1 (.slice A L.length c) L.length (vals8 L) ∧ Below (w.heap.size + 1) (w.alloc (.cells #[.int .u8 2, .int .i64 q, .string s] 31)) wr) (fun _ i _ => s.size - (intOf i).toNat)
    case atStart => exact ⟨0, [3], _, _, by omega, rfl, rfl, rfl, own_lit1 (w.alloc (.cells #[.int .u8 2, .int .i64 q, .string s] 31)) (w.heap.size + 1) _ _ 3 (by simp) (by simp), (Below.refl _ _).alloc (by simp) _⟩
    case round =>
      obtain ⟨j, L, A, c, hj, rfl, rfl, hL, hown, hb⟩ := hrel
      have d0 := hb.cell (p := ⟨w.heap.size, 2, none⟩) (by simp)
      rw [(Blk.new w 31 #[.int .u8 2, .int .i64 q, .string s]).cell 2] at d0
      have hLl : L.length ≤ 3000 := by
        rw [hL]; have := hel j; rw [List.length_take] at this; simp; omega
      by_cases hjl : j < s.size
      · have hby := byte_at s j hjl
        have h256 := bts_getD_lt s j
        have htk : (bts s).take (j + 1) = (bts s).take j ++ [(bts s).getD j 0] := by
          rw [List.take_succ_eq_append_getElem (by omega), List.getD_eq_getElem?_getD, List.getElem?_eq_getElem (by omega)]; rfl
        have hE := escL_app ((bts s).take j) [(bts s).getD j 0]
        rw [← htk] at hE
        generalize (bts s).getD j 0 = b at *
        have HN := Lib.hid (own_next hown hb (base_le hb) (.cells #[.int .u8 (b : Nat)] 5))
        have HE := Lib.hid hE
        have HL := Lib.hid hL
        have jI : (j : Int) < s.size := by omega
        clear hown hb hE htk hL hel
        by_cases hb0 : b = 0
        · have hbI : ((b : Int) == 0) = true := by rw [hb0]; rfl
          have HBZ := Lib.hid hb0
          clear hb0
          go_wp2_with (first | (at_builtin; refine wpList_append_any _ rfl (.tmp 29) (.tmp 34) 41 rfl (w.heap.size + 1) 5 i0 _ 1 1 Tryd.underlying41 hi0 hz0 hz1 hz2 rfl (by omega) _ L.length (vals8 L) rfl HN.out.1 (wr.heap.size + 1) (some ⟨wr.heap.size, 0, none⟩) 1 1 [Value.int .u8 b] rfl (reads1 wr _ _ _ rfl) (by intro u hu; simp at hu; rw [hu]; rfl) (by simp only [maxLen]; omega) (by omega) HN.out.2.2 ?_; intro v1 w4 hown1 hg1 hat1; obtain ⟨A1, c1, rfl⟩ := own_form hown1; (have hB4 := HN.out.2.1.grown hg1 HN.out.2.2 (fun z hz => (HN.out.1.lt z hz).1)); (have d1 := hB4.cell (p := ⟨w.heap.size, 2, none⟩) (by simp)); rw [(Blk.new w 31 #[.int .u8 2, .int .i64 q, .string s]).cell 2] at d1; (have HN2 := Lib.hid (own_next hown1 hB4 (base_le hB4) (.cells #[.int .u8 255] 5))); clear hB4 hown1 hg1 hat1 d0) | (at_builtin; refine wpList_append_any _ rfl (.tmp 41) (.tmp 42) 41 rfl (w.heap.size + 1) 5 i0 _ 1 1 Tryd.underlying41 hi0 hz0 hz1 hz2 rfl (by omega) _ (L.length + 1) (vals8 L ++ [Value.int .u8 b]) rfl HN2.out.1 (w4.heap.size + 1) (some ⟨w4.heap.size, 0, none⟩) 1 1 [Value.int .u8 255] rfl (reads1 w4 _ _ _ rfl) (by intro u hu; simp at hu; rw [hu]; rfl) (by simp only [maxLen]; omega) (by omega) HN2.out.2.2 ?_; intro v2 w6 hown2 hg2 hat2; obtain ⟨A2, c2, rfl⟩ := own_form hown2; (have hB6 := HN2.out.2.1.grown hg2 HN2.out.2.2 (fun z hz => (HN2.out.1.lt z hz).1)); (have HB6 := Lib.hid hB6); (have HO6 := Lib.hid hown2); clear hB6 hown2 hg2 hat2))
          go_wp2
          go_roundw
          case rel => exact ⟨j + 1, (L ++ [b]) ++ [255], A2, c2, by omega, by go_num, by rw [List.length_append, List.length_append]; rfl, by rw [HE.out, HL.out, HBZ.out]; simp [escL], by rw [List.length_append, List.length_append, ← vals8_app, ← vals8_app]; exact HO6.out, HB6.out⟩
          case measure => simp [intOf]; omega
        · have hbI : ((b : Int) == 0) = false := by rw [beq_eq_false_iff_ne]; omega
          have HBZ := Lib.hid hb0
          clear hb0
          go_wp2_with (at_builtin; refine wpList_append_any _ rfl (.tmp 29) (.tmp 34) 41 rfl (w.heap.size + 1) 5 i0 _ 1 1 Tryd.underlying41 hi0 hz0 hz1 hz2 rfl (by omega) _ L.length (vals8 L) rfl HN.out.1 (wr.heap.size + 1) (some ⟨wr.heap.size, 0, none⟩) 1 1 [Value.int .u8 b] rfl (reads1 wr _ _ _ rfl) (by intro u hu; simp at hu; rw [hu]; rfl) (by simp only [maxLen]; omega) (by omega) HN.out.2.2 ?_; intro v1 w4 hown1 hg1 hat1; obtain ⟨A1, c1, rfl⟩ := own_form hown1; (have hB4 := HN.out.2.1.grown hg1 HN.out.2.2 (fun z hz => (HN.out.1.lt z hz).1)); (have d1 := hB4.cell (p := ⟨w.heap.size, 2, none⟩) (by simp)); rw [(Blk.new w 31 #[.int .u8 2, .int .i64 q, .string s]).cell 2] at d1; (have HB4 := Lib.hid hB4); (have HO4 := Lib.hid hown1); clear hB4 hown1 hg1 hat1 d0)
          go_wp2
          go_roundw
          case rel => exact ⟨j + 1, L ++ [b], A1, c1, by omega, by go_num, by rw [List.length_append]; rfl, by rw [HE.out, HL.out]; simp [escL, HBZ.out], by rw [List.length_append, ← vals8_app]; exact HO4.out, HB4.out⟩
          case measure => simp [intOf]; omega
      · obtain rfl : j = s.size := by omega
        have hall : (bts s).take s.size = bts s := List.take_of_length_le (by omega)
        rw [hall] at hL
        have HN := Lib.hid (own_next hown hb (base_le hb) (.cells #[.int .u8 0, .int .u8 0] 5))
        have HL := Lib.hid (show bstr (L ++ [0, 0]) = bstr (3 :: (escL (bts s) ++ [0, 0])) by rw [hL]; rfl)
        clear hown hb hL hel hall
        go_wp2_with (at_builtin; refine wpList_append_any _ rfl (.tmp 44) (.tmp 45) 41 rfl (w.heap.size + 1) 5 i0 _ 1 1 Tryd.underlying41 hi0 hz0 hz1 hz2 rfl (by omega) _ L.length (vals8 L) rfl HN.out.1 (wr.heap.size + 1) (some ⟨wr.heap.size, 0, none⟩) 2 2 [Value.int .u8 0, .int .u8 0] rfl (reads2 wr _ _ _ _ rfl) (by intro u hu; simp at hu; subst hu; rfl) (by simp only [maxLen]; omega) (by omega) HN.out.2.2 ?_; intro v1 w4 hown1 hg1 hat1; (have hB4 := HN.out.2.1.grown hg1 HN.out.2.2 (fun z hz => (HN.out.1.lt z hz).1)); (have HB4 := Lib.hid hB4); (have hown3 : w4.ownsRow (w.heap.size + 1) 5 1 v1 (L.length + 2) (vals8 (L ++ [0, 0])) := by rw [← vals8_app]; exact hown1); obtain ⟨g, cap, rfl, hl2, _, _, hcell⟩ := cells_of_own hown3 (by omega); (have hcv := run_convert_bytes_arg (P := Tryd.prog) w4 41 5 Tryd.underlying41 Tryd.underlying5 g 0 (L.length + 2) cap ((L ++ [0, 0]).map Int.ofNat) (by simp) hcell 9 Tryd.underlying9); rw [bstr_nums] at hcv; clear hB4 hown1 hown3 hg1 hat1 hcell hl2 d0)
        go_wp2
        go_ret
        exact ⟨rstr HL.out, ((Below.refl w.heap.size w).alloc (Nat.le_refl _) _).trans (HB4.out.mono (Nat.le_succ _))⟩
  · go_enter Tryd.func16, Tryd.ntmps16
    go_wp2
    go_loopw [3, 4] (fun v i wr => ∃ (j : Nat) (L : List Nat) (A : Option Addr) (c : Nat), j ≤ s.size ∧ i = .int .i64 j ∧ v = .slice A L.length c ∧ L = 4 :: escL ((bts s).take j) ∧ wr.ownsRow (w.heap.size + 1) 5 1 (.slice A L.length c) L.length (vals8 L) ∧ Below (w.heap.size + 1) (w.alloc (.cells #[.int .u8 3, .int .i64 q, .string s] 31)) wr) (fun _ i _ => s.size - (intOf i).toNat)
    case atStart => exact ⟨0, [4], _, _, by omega, rfl, rfl, rfl, own_lit1 (w.alloc (.cells #[.int .u8 3, .int .i64 q, .string s] 31)) (w.heap.size + 1) _ _ 4 (by simp) (by simp), (Below.refl _ _).alloc (by simp) _⟩
    case round =>
      obtain ⟨j, L, A, c, hj, rfl, rfl, hL, hown, hb⟩ := hrel
      have d0 := hb.cell (p := ⟨w.heap.size, 2, none⟩) (by simp)
      rw [(Blk.new w 31 #[.int .u8 3, .int .i64 q, .string s]).cell 2] at d0
      have hLl : L.length ≤ 3000 := by
        rw [hL]; have := hel j; rw [List.length_take] at this; simp; omega
      by_cases hjl : j < s.size
      · have hby := byte_at s j hjl
        have h256 := bts_getD_lt s j
        have htk : (bts s).take (j + 1) = (bts s).take j ++ [(bts s).getD j 0] := by
          rw [List.take_succ_eq_append_getElem (by omega), List.getD_eq_getElem?_getD, List.getElem?_eq_getElem (by omega)]; rfl
        have hE := escL_app ((bts s).take j) [(bts s).getD j 0]
        rw [← htk] at hE
        generalize (bts s).getD j 0 = b at *
        have HN := Lib.hid (own_next hown hb (base_le hb) (.cells #[.int .u8 (b : Nat)] 5))
        have HE := Lib.hid hE
        have HL := Lib.hid hL
        have jI : (j : Int) < s.size := by omega
        clear hown hb hE htk hL hel
        by_cases hb0 : b = 0
        · have hbI : ((b : Int) == 0) = true := by rw [hb0]; rfl
          have HBZ := Lib.hid hb0
          clear hb0
          go_wp2_with (first | (at_builtin; refine wpList_append_any _ rfl (.tmp 29) (.tmp 34) 41 rfl (w.heap.size + 1) 5 i0 _ 1 1 Tryd.underlying41 hi0 hz0 hz1 hz2 rfl (by omega) _ L.length (vals8 L) rfl HN.out.1 (wr.heap.size + 1) (some ⟨wr.heap.size, 0, none⟩) 1 1 [Value.int .u8 b] rfl (reads1 wr _ _ _ rfl) (by intro u hu; simp at hu; rw [hu]; rfl) (by simp only [maxLen]; omega) (by omega) HN.out.2.2 ?_; intro v1 w4 hown1 hg1 hat1; obtain ⟨A1, c1, rfl⟩ := own_form hown1; (have hB4 := HN.out.2.1.grown hg1 HN.out.2.2 (fun z hz => (HN.out.1.lt z hz).1)); (have d1 := hB4.cell (p := ⟨w.heap.size, 2, none⟩) (by simp)); rw [(Blk.new w 31 #[.int .u8 3, .int .i64 q, .string s]).cell 2] at d1; (have HN2 := Lib.hid (own_next hown1 hB4 (base_le hB4) (.cells #[.int .u8 255] 5))); clear hB4 hown1 hg1 hat1 d0) | (at_builtin; refine wpList_append_any _ rfl (.tmp 41) (.tmp 42) 41 rfl (w.heap.size + 1) 5 i0 _ 1 1 Tryd.underlying41 hi0 hz0 hz1 hz2 rfl (by omega) _ (L.length + 1) (vals8 L ++ [Value.int .u8 b]) rfl HN2.out.1 (w4.heap.size + 1) (some ⟨w4.heap.size, 0, none⟩) 1 1 [Value.int .u8 255] rfl (reads1 w4 _ _ _ rfl) (by intro u hu; simp at hu; rw [hu]; rfl) (by simp only [maxLen]; omega) (by omega) HN2.out.2.2 ?_; intro v2 w6 hown2 hg2 hat2; obtain ⟨A2, c2, rfl⟩ := own_form hown2; (have hB6 := HN2.out.2.1.grown hg2 HN2.out.2.2 (fun z hz => (HN2.out.1.lt z hz).1)); (have HB6 := Lib.hid hB6); (have HO6 := Lib.hid hown2); clear hB6 hown2 hg2 hat2))
          go_wp2
          go_roundw
          case rel => exact ⟨j + 1, (L ++ [b]) ++ [255], A2, c2, by omega, by go_num, by rw [List.length_append, List.length_append]; rfl, by rw [HE.out, HL.out, HBZ.out]; simp [escL], by rw [List.length_append, List.length_append, ← vals8_app, ← vals8_app]; exact HO6.out, HB6.out⟩
          case measure => simp [intOf]; omega
        · have hbI : ((b : Int) == 0) = false := by rw [beq_eq_false_iff_ne]; omega
          have HBZ := Lib.hid hb0
          clear hb0
          go_wp2_with (at_builtin; refine wpList_append_any _ rfl (.tmp 29) (.tmp 34) 41 rfl (w.heap.size + 1) 5 i0 _ 1 1 Tryd.underlying41 hi0 hz0 hz1 hz2 rfl (by omega) _ L.length (vals8 L) rfl HN.out.1 (wr.heap.size + 1) (some ⟨wr.heap.size, 0, none⟩) 1 1 [Value.int .u8 b] rfl (reads1 wr _ _ _ rfl) (by intro u hu; simp at hu; rw [hu]; rfl) (by simp only [maxLen]; omega) (by omega) HN.out.2.2 ?_; intro v1 w4 hown1 hg1 hat1; obtain ⟨A1, c1, rfl⟩ := own_form hown1; (have hB4 := HN.out.2.1.grown hg1 HN.out.2.2 (fun z hz => (HN.out.1.lt z hz).1)); (have d1 := hB4.cell (p := ⟨w.heap.size, 2, none⟩) (by simp)); rw [(Blk.new w 31 #[.int .u8 3, .int .i64 q, .string s]).cell 2] at d1; (have HB4 := Lib.hid hB4); (have HO4 := Lib.hid hown1); clear hB4 hown1 hg1 hat1 d0)
          go_wp2
          go_roundw
          case rel => exact ⟨j + 1, L ++ [b], A1, c1, by omega, by go_num, by rw [List.length_append]; rfl, by rw [HE.out, HL.out]; simp [escL, HBZ.out], by rw [List.length_append, ← vals8_app]; exact HO4.out, HB4.out⟩
          case measure => simp [intOf]; omega
      · obtain rfl : j = s.size := by omega
        have hall : (bts s).take s.size = bts s := List.take_of_length_le (by omega)
        rw [hall] at hL
        have HN := Lib.hid (own_next hown hb (base_le hb) (.cells #[.int .u8 0, .int .u8 0] 5))
        have HL := Lib.hid (show bstr (L ++ [0, 0]) = bstr (4 :: (escL (bts s) ++ [0, 0])) by rw [hL]; rfl)
        clear hown hb hL hel hall
        go_wp2_with (at_builtin; refine wpList_append_any _ rfl (.tmp 44) (.tmp 45) 41 rfl (w.heap.size + 1) 5 i0 _ 1 1 Tryd.underlying41 hi0 hz0 hz1 hz2 rfl (by omega) _ L.length (vals8 L) rfl HN.out.1 (wr.heap.size + 1) (some ⟨wr.heap.size, 0, none⟩) 2 2 [Value.int .u8 0, .int .u8 0] rfl (reads2 wr _ _ _ _ rfl) (by intro u hu; simp at hu; subst hu; rfl) (by simp only [maxLen]; omega) (by omega) HN.out.2.2 ?_; intro v1 w4 hown1 hg1 hat1; (have hB4 := HN.out.2.1.grown hg1 HN.out.2.2 (fun z hz => (HN.out.1.lt z hz).1)); (have HB4 := Lib.hid hB4); (have hown3 : w4.ownsRow (w.heap.size + 1) 5 1 v1 (L.length + 2) (vals8 (L ++ [0, 0])) := by rw [← vals8_app]; exact hown1); obtain ⟨g, cap, rfl, hl2, _, _, hcell⟩ := cells_of_own hown3 (by omega); (have hcv := run_convert_bytes_arg (P := Tryd.prog) w4 41 5 Tryd.underlying41 Tryd.underlying5 g 0 (L.length + 2) cap ((L ++ [0, 0]).map Int.ofNat) (by simp) hcell 9 Tryd.underlying9); rw [bstr_nums] at hcv; clear hB4 hown1 hown3 hg1 hat1 hcell hl2 d0)
        go_wp2
        go_ret
        exact ⟨rstr HL.out, ((Below.refl w.heap.size w).alloc (Nat.le_refl _) _).trans (HB4.out.mono (Nat.le_succ _))⟩
end Go.Proofs.YtibaacklcdknnaaDoor
