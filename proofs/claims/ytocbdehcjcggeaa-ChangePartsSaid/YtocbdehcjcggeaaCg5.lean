/- Layer 22: the order of changes. Conditions: those of each lemma. -/
import Derived.Test.YtocbdehcjcggeaaCg4
import Derived.Test.YtocbdehcjcggeaaFacts
import Derived.Deep.CutBlock
import Derived.OrdersHeld
import Derived.Deep.RegionHeld3
namespace Go.Proofs.Ytocbdehcjcggeaa
open Go.RowKit Go
set_option linter.unusedVariables false
set_option linter.unusedSimpArgs false
def dCmp : Nat → List Nat
  | 1 => [0]
  | 3 => [2]
  | 4 => [1, 3]
  | 6 => [5]
  | 8 => [7]
  | 9 => [6, 8]
  | 10 => [4, 9]
  | 11 => [10]
  | 12 => [11]
  | _ => []
def mkCmp (B : Nat) (X Y : Cg) (SC RC : Int) : Nat → Nat → Nat → Nat → Value
  | 0, k, k1, k2 => .pointer (some ⟨B, 0, none⟩)
  | 1, k, k1, k2 => .string X.t
  | 2, k, k1, k2 => .pointer (some ⟨B + 1, 0, none⟩)
  | 3, k, k1, k2 => .string Y.t
  | 4, k, k1, k2 => .int .i64 SC
  | 5, k, k1, k2 => .pointer (some ⟨B, 1, none⟩)
  | 6, k, k1, k2 => .slice X.kA X.k.length X.kc
  | 7, k, k1, k2 => .pointer (some ⟨B + 1, 1, none⟩)
  | 8, k, k1, k2 => .slice Y.kA Y.k.length Y.kc
  | 9, k, k1, k2 => .int .i64 RC
  | 10, k, k1, k2 => .slice (some ⟨k, 0, none⟩) 2 2
  | 11, k, k1, k2 => .int .i64 (or2 SC RC)
  | 12, k, k1, k2 => .int .i64 (or2 SC RC)
  | _, _, _, _ => .bool false
def blCmp (SC RC : Int) : Nat → Nat → Nat → Nat → List (Nat × TypeId × Array Value)
  | 10, k, k1, k2 => [(k, 3, #[.int .i64 SC, .int .i64 RC])]
  | _, _, _, _ => []
set_option maxRecDepth 100000 in
set_option maxHeartbeats 8000000 in
theorem cgcompare_any (X Y : Cg) (w : World) (hx : Vals w w.heap.size X.kA X.k) (hy : Vals w w.heap.size Y.kA Y.k) (h1 : X.k.length ≤ 100) (h2 : Y.k.length ≤ 100) :
    Calls Try.prog 34 #[.agg (cgC X), .agg (cgC Y)] w fun e w' => e = .returned (.int .i64 (cgCmp X Y)) ∧ Below w.heap.size w w' := by
  have HR := Lib.hid (show ∀ W, Below w.heap.size w W → Calls Try.prog 61 #[.slice X.kA X.k.length X.kc, .slice Y.kA Y.k.length Y.kc] W fun e w' => e = .returned (.int .i64 (rowCmp X.k Y.k)) ∧ Below W.heap.size W w' from fun W hb =>
    cmpRows_any X.kA X.k X.k.length X.kc Y.kA Y.k Y.k.length Y.kc W (vals_mono (vals_below hx hb) hb.size) (vals_mono (vals_below hy hb) hb.size) rfl rfl h1 h2)
  clear hx hy h1 h2
  have HS := Lib.hid (fun W => strCmp X.t Y.t W)
  unfold cgCmp
  generalize rowCmp X.k Y.k = RC at *
  generalize cmpL (bts X.t) (bts Y.t) = SC at *
  have HX := Lib.hid (show Cx w (cgC X) (cgC Y) ((w.alloc (.cells (cgC X) 33)).alloc (.cells (cgC Y) 33)) from by
    have hz : (w.alloc (.cells (cgC X) 33)).heap.size = w.heap.size + 1 := by simp
    refine ⟨(Blk.new w _ _).alloc _, ?_, (one_allocC).alloc (by omega) _, by simp⟩
    have := Blk.new (w.alloc (.cells (cgC X) 33)) 33 (cgC Y)
    rw [hz] at this; exact this)
  go_enter Try.func34, Try.ntmps34
  go_wp2_with fail
  refine (show ∀ W1, Cx w (cgC X) (cgC Y) W1 → Code.wp _ _ _ _ W1 from ?_) _ HX.out
  clear HX
  intro W1 hs1
  have HC := Lib.hid (cx_drew1 hs1)
  clear hs1
  obtain ⟨B, hB⟩ : ∃ B, w.heap.size = B := ⟨_, rfl⟩
  rw [hB]
  refine wp_region_noPanic ?_
  refine wp_region_any (by kernel_rfl) ?_
  refine facts_start [0, 1, 2, 3, 4, 5, 6, 7, 8, 9, 10, 11, 12] [] dCmp (Ft (mkCmp B X Y SC RC) (blCmp SC RC)) _ _ _ 0 _ #[true, true, true, true, true, true, true, true, true, true, true, true, true] (by kernel_rfl) (by rfl) ft_step no_al' ?hstep ?hend
  case hstep =>
    intro i hi x W hd hb K hK
    have hs := cx_step HC.out hb
    obtain ⟨p0, p1, p2, p3⟩ := cx_cells hs
    rw [hB] at p0 p1 p2 p3
    simp only [List.mem_cons, List.not_mem_nil, or_false] at hi
    rcases hi with rfl | rfl | rfl | rfl | rfl | rfl | rfl | rfl | rfl | rfl | rfl | rfl | rfl
    · generalize hA : putsA _ _ x [0, 1, 2, 3, 4, 5, 6, 7, 8, 9, 10, 11, 12] = A at *
      have e2 : A.tmps[2]? = some (.pointer (some ⟨B, 0, none⟩)) := by rw [← hA]; exact putsA_at 2 _ (by decide +kernel)
      clear hA hd
      refine wpOp_step rfl (fun K' hK' => ?_)
      go_simp
      exact hK' _ _ (hK _ _ ⟨0, 0, 0, rfl, al0⟩ (Below.refl _ _) no_al)
    · generalize hA : putsA _ _ x [0, 1, 2, 3, 4, 5, 6, 7, 8, 9, 10, 11, 12] = A at *
      have e5 : A.tmps[5]? = some (x 0) := by rw [← hA]; exact putsA_in (i := 0) 5 (by rfl) (by show (5 : Nat) < 17; decide) _ (by decide +kernel) (by decide)
      obtain ⟨_, _, _, f0, _⟩ := hd 0 (by decide)
      replace f0 : x 0 = .pointer (some ⟨B, 0, none⟩) := f0
      rw [f0] at e5
      clear hA hd
      refine wpOp_step rfl (fun K' hK' => ?_)
      go_simp
      exact hK' _ _ (hK _ _ ⟨0, 0, 0, rfl, al0⟩ (Below.refl _ _) no_al)
    · generalize hA : putsA _ _ x [0, 1, 2, 3, 4, 5, 6, 7, 8, 9, 10, 11, 12] = A at *
      have e3 : A.tmps[3]? = some (.pointer (some ⟨B + 1, 0, none⟩)) := by rw [← hA]; exact putsA_at 3 _ (by decide +kernel)
      clear hA hd
      refine wpOp_step rfl (fun K' hK' => ?_)
      go_simp
      exact hK' _ _ (hK _ _ ⟨0, 0, 0, rfl, al0⟩ (Below.refl _ _) no_al)
    · generalize hA : putsA _ _ x [0, 1, 2, 3, 4, 5, 6, 7, 8, 9, 10, 11, 12] = A at *
      have e7 : A.tmps[7]? = some (x 2) := by rw [← hA]; exact putsA_in (i := 2) 7 (by rfl) (by show (7 : Nat) < 17; decide) _ (by decide +kernel) (by decide)
      obtain ⟨_, _, _, f2, _⟩ := hd 2 (by decide)
      replace f2 : x 2 = .pointer (some ⟨B + 1, 0, none⟩) := f2
      rw [f2] at e7
      clear hA hd
      refine wpOp_step rfl (fun K' hK' => ?_)
      go_simp
      exact hK' _ _ (hK _ _ ⟨0, 0, 0, rfl, al0⟩ (Below.refl _ _) no_al)
    · generalize hA : putsA _ _ x [0, 1, 2, 3, 4, 5, 6, 7, 8, 9, 10, 11, 12] = A at *
      have e6 : A.tmps[6]? = some (x 1) := by rw [← hA]; exact putsA_in (i := 1) 6 (by rfl) (by show (6 : Nat) < 17; decide) _ (by decide +kernel) (by decide)
      obtain ⟨_, _, _, f1, _⟩ := hd 1 (by decide)
      replace f1 : x 1 = .string X.t := f1
      rw [f1] at e6
      have e8 : A.tmps[8]? = some (x 3) := by rw [← hA]; exact putsA_in (i := 3) 8 (by rfl) (by show (8 : Nat) < 17; decide) _ (by decide +kernel) (by decide)
      obtain ⟨_, _, _, f3, _⟩ := hd 3 (by decide)
      replace f3 : x 3 = .string Y.t := f3
      rw [f3] at e8
      clear hA hd
      refine wpOp_step rfl (fun K' hK' => ?_)
      go_simp
      refine (HS.out W).mono ?_
      rintro e w6 ⟨rfl, rfl⟩
      exact hK' _ _ (hK _ _ ⟨0, 0, 0, rfl, al0⟩ (Below.refl _ _) no_al)
    · generalize hA : putsA _ _ x [0, 1, 2, 3, 4, 5, 6, 7, 8, 9, 10, 11, 12] = A at *
      have e2 : A.tmps[2]? = some (.pointer (some ⟨B, 0, none⟩)) := by rw [← hA]; exact putsA_at 2 _ (by decide +kernel)
      clear hA hd
      refine wpOp_step rfl (fun K' hK' => ?_)
      go_simp
      exact hK' _ _ (hK _ _ ⟨0, 0, 0, rfl, al0⟩ (Below.refl _ _) no_al)
    · generalize hA : putsA _ _ x [0, 1, 2, 3, 4, 5, 6, 7, 8, 9, 10, 11, 12] = A at *
      have e10 : A.tmps[10]? = some (x 5) := by rw [← hA]; exact putsA_in (i := 5) 10 (by rfl) (by show (10 : Nat) < 17; decide) _ (by decide +kernel) (by decide)
      obtain ⟨_, _, _, f5, _⟩ := hd 5 (by decide)
      replace f5 : x 5 = .pointer (some ⟨B, 1, none⟩) := f5
      rw [f5] at e10
      clear hA hd
      refine wpOp_step rfl (fun K' hK' => ?_)
      go_simp
      exact hK' _ _ (hK _ _ ⟨0, 0, 0, rfl, al0⟩ (Below.refl _ _) no_al)
    · generalize hA : putsA _ _ x [0, 1, 2, 3, 4, 5, 6, 7, 8, 9, 10, 11, 12] = A at *
      have e3 : A.tmps[3]? = some (.pointer (some ⟨B + 1, 0, none⟩)) := by rw [← hA]; exact putsA_at 3 _ (by decide +kernel)
      clear hA hd
      refine wpOp_step rfl (fun K' hK' => ?_)
      go_simp
      exact hK' _ _ (hK _ _ ⟨0, 0, 0, rfl, al0⟩ (Below.refl _ _) no_al)
    · generalize hA : putsA _ _ x [0, 1, 2, 3, 4, 5, 6, 7, 8, 9, 10, 11, 12] = A at *
      have e12 : A.tmps[12]? = some (x 7) := by rw [← hA]; exact putsA_in (i := 7) 12 (by rfl) (by show (12 : Nat) < 17; decide) _ (by decide +kernel) (by decide)
      obtain ⟨_, _, _, f7, _⟩ := hd 7 (by decide)
      replace f7 : x 7 = .pointer (some ⟨B + 1, 1, none⟩) := f7
      rw [f7] at e12
      clear hA hd
      refine wpOp_step rfl (fun K' hK' => ?_)
      go_simp
      exact hK' _ _ (hK _ _ ⟨0, 0, 0, rfl, al0⟩ (Below.refl _ _) no_al)
    · generalize hA : putsA _ _ x [0, 1, 2, 3, 4, 5, 6, 7, 8, 9, 10, 11, 12] = A at *
      have e11 : A.tmps[11]? = some (x 6) := by rw [← hA]; exact putsA_in (i := 6) 11 (by rfl) (by show (11 : Nat) < 17; decide) _ (by decide +kernel) (by decide)
      obtain ⟨_, _, _, f6, _⟩ := hd 6 (by decide)
      replace f6 : x 6 = .slice X.kA X.k.length X.kc := f6
      rw [f6] at e11
      have e13 : A.tmps[13]? = some (x 8) := by rw [← hA]; exact putsA_in (i := 8) 13 (by rfl) (by show (13 : Nat) < 17; decide) _ (by decide +kernel) (by decide)
      obtain ⟨_, _, _, f8, _⟩ := hd 8 (by decide)
      replace f8 : x 8 = .slice Y.kA Y.k.length Y.kc := f8
      rw [f8] at e13
      clear hA hd
      refine wpOp_step rfl (fun K' hK' => ?_)
      go_simp
      refine (HR.out W hs.2.2.1).mono ?_
      rintro e w6 ⟨rfl, hb6⟩
      exact hK' _ _ (hK _ _ ⟨0, 0, 0, rfl, al0⟩ hb6 no_al)
    · generalize hA : putsA _ _ x [0, 1, 2, 3, 4, 5, 6, 7, 8, 9, 10, 11, 12] = A at *
      have e9 : A.tmps[9]? = some (x 4) := by rw [← hA]; exact putsA_in (i := 4) 9 (by rfl) (by show (9 : Nat) < 17; decide) _ (by decide +kernel) (by decide)
      obtain ⟨_, _, _, f4, _⟩ := hd 4 (by decide)
      replace f4 : x 4 = .int .i64 SC := f4
      rw [f4] at e9
      have e14 : A.tmps[14]? = some (x 9) := by rw [← hA]; exact putsA_in (i := 9) 14 (by rfl) (by show (14 : Nat) < 17; decide) _ (by decide +kernel) (by decide)
      obtain ⟨_, _, _, f9, _⟩ := hd 9 (by decide)
      replace f9 : x 9 = .int .i64 RC := f9
      rw [f9] at e14
      clear hA hd
      refine wpOp_step rfl (fun K' hK' => ?_)
      go_simp
      exact hK' _ _ (hK _ _ ⟨W.heap.size, 0, 0, rfl, al1 (Blk.new _ _ _)⟩ ((Below.refl _ _).alloc (Nat.le_refl _) _) no_al)
    · generalize hA : putsA _ _ x [0, 1, 2, 3, 4, 5, 6, 7, 8, 9, 10, 11, 12] = A at *
      have e15 : A.tmps[15]? = some (x 10) := by rw [← hA]; exact putsA_in (i := 10) 15 (by rfl) (by show (15 : Nat) < 17; decide) _ (by decide +kernel) (by decide)
      obtain ⟨k10, ka10, kb10, f10, hb10⟩ := hd 10 (by decide)
      replace f10 : x 10 = .slice (some ⟨k10, 0, none⟩) 2 2 := f10
      rw [f10] at e15
      clear hA hd
      have hk := hb10 (k10, 3, #[.int .i64 SC, .int .i64 RC]) (.head _)
      refine wpOp_step rfl (fun K' hK' => ?_)
      go_simp
      refine (or2_any k10 2 SC RC W (hk.cell 0) (hk.cell 1)).mono ?_
      rintro e w6 ⟨rfl, rfl⟩
      exact hK' _ _ (hK _ _ ⟨0, 0, 0, rfl, al0⟩ (Below.refl _ _) no_al)
    · generalize hA : putsA _ _ x [0, 1, 2, 3, 4, 5, 6, 7, 8, 9, 10, 11, 12] = A at *
      have e16 : A.tmps[16]? = some (x 11) := by rw [← hA]; exact putsA_in (i := 11) 16 (by rfl) (by show (16 : Nat) < 17; decide) _ (by decide +kernel) (by decide)
      obtain ⟨_, _, _, f11, _⟩ := hd 11 (by decide)
      replace f11 : x 11 = .int .i64 (or2 SC RC) := f11
      rw [f11] at e16
      clear hA hd
      refine wpOp_step rfl (fun K' hK' => ?_)
      go_simp
      exact hK' _ _ (hK _ _ ⟨0, 0, 0, rfl, al0⟩ (Below.refl _ _) no_al)
  case hend =>
    intro x W hf hg hb
    have hs := cx_step HC.out hb
    have h12 : x 12 = .int .i64 (or2 SC RC) := by
      obtain ⟨_, _, _, h, _⟩ := hf 12 (by decide)
      exact h
    rw [putsA_lit _ _ [0, 1, 2, 3, 4, 5, 6, 7, 8, 9, 10, 11, 12] [(4, 12), (5, 0), (6, 1), (7, 2), (8, 3), (9, 4), (10, 5), (11, 6), (12, 7), (13, 8), (14, 9), (15, 10), (16, 11)] (by kernel_rfl)]
    simp only [setAll, ↓reduceIte, Nat.reduceAdd, Nat.reduceEqDiff]
    rw [h12]
    clear hf h12 hg hb
    refine wpAny_done (by kernel_rfl) ?_ _
    refine NoPanic.normal ?_
    go_wp2
    go_ret
    exact ⟨rfl, hs.2.2.1⟩
end Go.Proofs.Ytocbdehcjcggeaa
