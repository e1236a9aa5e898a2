/- Layer 5: steps. Conditions: those of each lemma. -/
import Derived.Test.YthipaabjmlgjmaaMwA
import Derived.Test.YthipaabjmlgjmaaMwF
namespace Go.Proofs.Ythipaabjmlgjmaa
open Go.RowKit Go Go.Maps
set_option linter.unusedVariables false
set_option linter.unusedSimpArgs false
/-- a step: a write, a sync of the log, a head's write, the cut of the main file, its sync -/
inductive Sp where
  | wr (f a : Int) (s : ByteArray)
  | sy
  | lay (s : ByteArray)
  | cut
  | sm
def tornL (l : Lg) (b : Bool) : Lg := { l with torn := b }
/-- what a step does, and what it answers -/
def spD : Sp → Dk → Lg → (Dk × Lg) × Int
  | .wr f a s, d, l => (((writeD d f a s).1, l), (writeD d f a s).2)
  | .sy, d, l => (((syncD d 1).1, tornL l (l.torn && decide ((syncD d 1).2 ≠ 0))), (syncD d 1).2)
  | .lay s, d, l => (((writeD d 1 0 s).1, tornL l (l.torn || decide ((writeD d 1 0 s).2 = 0))), (writeD d 1 0 s).2)
  | .cut, d, l => if (l.P : Int) * 8 < sizeD d 0 then (((cutD d 0 ((l.P : Int) * 8)).1, l), (cutD d 0 ((l.P : Int) * 8)).2) else ((d, l), 0)
  | .sm, d, l => (((syncD d 0).1, l), (syncD d 0).2)
theorem lgAt_torn {w : World} {S Sd : Nat → Prop} {g q : Nat} {A : Option Addr} {c : Nat} {d : Dk} {N : Nat} {l : Lg} (h : LgAt w S Sd g q A c d N l) (b : Bool) : LgAt (w.setCell ⟨q, 8, none⟩ (.bool b)) S Sd g q A c d N (tornL l b) :=
  lgAt_set h 8 (.bool b) rfl rfl h.fit ⟨h.ub.1, h.ub.2.1, h.ub.2.2.1⟩
theorem dkS_up {W : World} {S : Nat → Prop} {g : Nat} {d : Dk} {N : Nat} (h : DkS W S g d N) (hN : N + 1 ≤ 1000000) : DkS W S g d (N + 1) := dkS_more h hN
theorem lgS_up {w : World} {S : Nat → Prop} {g q : Nat} {d : Dk} {N : Nat} {l : Lg} (h : LgS w S g q d N l) (hN : N + 1 ≤ 1000000) : LgS w S g q d (N + 1) l := by
  obtain ⟨Sd, A, c, hm⟩ := h
  exact ⟨Sd, A, c, { hm with dk := dkS_up hm.dk hN }⟩
abbrev PtrBlk (W : World) (k q : Nat) : Prop := Blk W k 24 #[lp q]
set_option maxRecDepth 100000 in
set_option maxHeartbeats 4000000 in
theorem sync_step {S : Nat → Prop} {g q : Nat} {d : Dk} {N : Nat} {l : Lg} {w : World} (h : LgS w S g q d N l) (hN : N + 1 ≤ 1000000) :
    Calls Try.prog 41 #[lp q] w fun e w' => e = .returned (.int .i64 (spD .sy d l).2) ∧ LgR w S g q (spD .sy d l).1.1 (N + 1) (spD .sy d l).1.2 w' := by
  obtain ⟨Sd, A, c, hm⟩ := h
  obtain ⟨d0, -⟩ := lg_cells hm
  have HM := Lib.hid hm
  have HS := Lib.hid (sync_any Sd g d N hN 1 w hm.dk)
  unfold spD
  simp only
  generalize syncD d 1 = R at *
  obtain ⟨d', z⟩ := R
  clear hm
  go_enter Try.func41, Try.ntmps41
  go_wp2_with fail
  refine (HS.out).mono ?_
  rintro e w1 ⟨rfl, hr⟩
  have hL := lgR_dk HM.out hr
  have HR := Lib.hid hL
  obtain ⟨S1, ⟨Sd1, A1, c1, h1⟩, f1, s1⟩ := hL
  obtain ⟨-, -, -, -, -, -, -, -, e8, -⟩ := lg_cells h1
  have fr8 := h1.blk.frozen 8
  have H1 := Lib.hid h1
  have HF := Lib.hid (And.intro f1 s1)
  clear h1 hr d0 f1 s1
  have hfin : ∀ b : Bool, b = (l.torn && decide (z ≠ 0)) → LgR w S g q d' (N + 1) (tornL l (l.torn && decide (z ≠ 0))) (w1.setCell ⟨q, 8, none⟩ (.bool b)) := fun b hb => by
    subst hb
    exact ⟨S1, ⟨Sd1, A1, c1, lgAt_torn H1.out _⟩, fr_trans HF.out.1 (fr_q H1.out.sq _) (fun b hb => HF.out.2 b hb), HF.out.2⟩
  have HFIN := Lib.hid hfin
  clear hfin
  cases ht : l.torn with
  | false =>
    have HT := Lib.hid (show false = (l.torn && decide (z ≠ 0)) by rw [ht]; rfl)
    rw [ht] at e8
    clear ht
    go_wp2
    go_ret
    exact ⟨rfl, HFIN.out _ HT.out⟩
  | true =>
    rw [ht] at e8
    by_cases hz : z = 0
    · have HT := Lib.hid (show false = (l.torn && decide (z ≠ 0)) by rw [ht, hz]; rfl)
      subst hz
      clear ht
      go_wp2
      go_ret
      exact ⟨rfl, HFIN.out _ HT.out⟩
    · have HT := Lib.hid (show true = (l.torn && decide (z ≠ 0)) by rw [ht, decide_eq_true hz]; rfl)
      have hzb : (z == 0) = false := by simp [hz]
      have hzn : (z != 0) = true := by simp [hz]
      clear ht hz
      go_wp2
      go_ret
      exact ⟨rfl, HFIN.out _ HT.out⟩
set_option maxRecDepth 100000 in
set_option maxHeartbeats 4000000 in
theorem write_step {S : Nat → Prop} {g q k0 k1 k2 k3 : Nat} {f a : Int} {s : ByteArray} {d : Dk} {N : Nat} {l : Lg} {w : World} (h : LgS w S g q d N l) (hN : N + 1 ≤ 1000000) (hs : s.size ≤ 140737488351232) (b0 : PtrBlk w k0 q) (b1 : Blk w k1 3 #[.int .i64 f]) (b2 : Blk w k2 3 #[.int .i64 a]) (b3 : Blk w k3 9 #[.string s]) :
    Calls Try.prog 74 #[lp k0, lp k1, lp k2, lp k3] w fun e w' => e = .returned (.int .i64 (spD (.wr f a s) d l).2) ∧ LgR w S g q (spD (.wr f a s) d l).1.1 (N + 1) (spD (.wr f a s) d l).1.2 w' := by
  have HS := Lib.hid (fun W (hb : Below w.drew.heap.size w.drew W) => show Calls Try.prog 22 #[lp g, .int .i64 f, .int .i64 a, .string s] W fun e w' => e = .returned (.int .i64 (writeD d f a s).2) ∧ LgR w S g q (writeD d f a s).1 (N + 1) l w' from by
    obtain ⟨Sd, A, c, hm⟩ := h
    have hb0 := undrew hb
    have hm2 := lgAt_below hm hb0
    refine (write_any Sd g d N hN f a s hs W hm2.dk).mono ?_
    rintro e w' ⟨he, hr⟩
    exact ⟨he, lgR_above hb0 (lgR_dk hm2 hr)⟩)
  have HC := Lib.hid (fun W (hb : Below w.drew.heap.size w.drew W) => show W.cell? ⟨k0, 0, none⟩ = some (lp q) ∧ W.cell? ⟨k1, 0, none⟩ = some (.int .i64 f) ∧ W.cell? ⟨k2, 0, none⟩ = some (.int .i64 a) ∧ W.cell? ⟨k3, 0, none⟩ = some (.string s) ∧ W.cell? ⟨q, 0, none⟩ = some (lp g) from by
    have hb0 := undrew hb
    obtain ⟨Sd, A, c, hm⟩ := h
    exact ⟨(blk_step b0 hb0).cell 0, (blk_step b1 hb0).cell 0, (blk_step b2 hb0).cell 0, (blk_step b3 hb0).cell 0, (lg_cells (lgAt_below hm hb0)).1⟩)
  clear h hN hs b0 b1 b2 b3
  unfold spD
  simp only
  go_enter Try.func74, Try.ntmps74
  go_wp2_with fail
  refine wp_region_noPanic ?_
  refine wp_region_any (by kernel_rfl) ?_
  refine facts_startD [0, 1, 2, 3, 4, 5, 6] [] (fun i => match i with | 1 => [0] | 2 => [1] | 3 => [2] | _ => []) (Ft (fun i k k1 k2 => match i with | 0 => lp q | 1 => lp q | 2 => lp q | 3 => lp g | 4 => .int .i64 f | 5 => .int .i64 a | 6 => .string s | _ => undef) (fun _ _ _ _ => [])) _ _ _ 2 _ #[true, true, true, true, true, true, true, false, false] (by kernel_rfl) (by rfl) ft_step no_al' ?hstep ?hend
  case hstep =>
    intro i hi x W hd hb K hK
    obtain ⟨y0, y1, y2, y3, y4⟩ := HC.out W hb
    simp only [List.mem_cons, List.not_mem_nil, or_false] at hi
    rcases hi with rfl | rfl | rfl | rfl | rfl | rfl | rfl
    · generalize hA : putsA _ _ x [0, 1, 2, 3, 4, 5, 6] = A_ at *
      have e0 : A_.tmps[0]? = some (lp k0) := by rw [← hA]; exact putsA_at 0 _ (by decide +kernel)
      clear hA hd
      refine wpOp_step rfl (fun K' hK' => ?_)
      go_simp
      exact hK' _ _ (hK _ _ ⟨0, 0, 0, rfl, al0⟩ (Below.refl _ _) no_al)
    · generalize hA : putsA _ _ x [0, 1, 2, 3, 4, 5, 6] = A_ at *
      have e5 : A_.tmps[5]? = some (x 0) := by rw [← hA]; exact putsA_in (i := 0) 5 (by rfl) (by show (5 : Nat) < 13; decide) _ (by decide +kernel) (by decide)
      have f0 : x 0 = lp q := ft_val (hd 0 (by decide)) (fun _ _ _ => rfl)
      rw [f0] at e5
      clear hA hd
      refine wpOp_step rfl (fun K' hK' => ?_)
      go_simp
      exact hK' _ _ (hK _ _ ⟨0, 0, 0, rfl, al0⟩ (Below.refl _ _) no_al)
    · generalize hA : putsA _ _ x [0, 1, 2, 3, 4, 5, 6] = A_ at *
      have e6 : A_.tmps[6]? = some (x 1) := by rw [← hA]; exact putsA_in (i := 1) 6 (by rfl) (by show (6 : Nat) < 13; decide) _ (by decide +kernel) (by decide)
      have f1 : x 1 = lp q := ft_val (hd 1 (by decide)) (fun _ _ _ => rfl)
      rw [f1] at e6
      clear hA hd
      refine wpOp_step rfl (fun K' hK' => ?_)
      go_simp
      exact hK' _ _ (hK _ _ ⟨0, 0, 0, rfl, al0⟩ (Below.refl _ _) no_al)
    · generalize hA : putsA _ _ x [0, 1, 2, 3, 4, 5, 6] = A_ at *
      have e7 : A_.tmps[7]? = some (x 2) := by rw [← hA]; exact putsA_in (i := 2) 7 (by rfl) (by show (7 : Nat) < 13; decide) _ (by decide +kernel) (by decide)
      have f2 : x 2 = lp q := ft_val (hd 2 (by decide)) (fun _ _ _ => rfl)
      rw [f2] at e7
      clear hA hd
      refine wpOp_step rfl (fun K' hK' => ?_)
      go_simp
      exact hK' _ _ (hK _ _ ⟨0, 0, 0, rfl, al0⟩ (Below.refl _ _) no_al)
    · generalize hA : putsA _ _ x [0, 1, 2, 3, 4, 5, 6] = A_ at *
      have e1 : A_.tmps[1]? = some (lp k1) := by rw [← hA]; exact putsA_at 1 _ (by decide +kernel)
      clear hA hd
      refine wpOp_step rfl (fun K' hK' => ?_)
      go_simp
      exact hK' _ _ (hK _ _ ⟨0, 0, 0, rfl, al0⟩ (Below.refl _ _) no_al)
    · generalize hA : putsA _ _ x [0, 1, 2, 3, 4, 5, 6] = A_ at *
      have e2 : A_.tmps[2]? = some (lp k2) := by rw [← hA]; exact putsA_at 2 _ (by decide +kernel)
      clear hA hd
      refine wpOp_step rfl (fun K' hK' => ?_)
      go_simp
      exact hK' _ _ (hK _ _ ⟨0, 0, 0, rfl, al0⟩ (Below.refl _ _) no_al)
    · generalize hA : putsA _ _ x [0, 1, 2, 3, 4, 5, 6] = A_ at *
      have e3 : A_.tmps[3]? = some (lp k3) := by rw [← hA]; exact putsA_at 3 _ (by decide +kernel)
      clear hA hd
      refine wpOp_step rfl (fun K' hK' => ?_)
      go_simp
      exact hK' _ _ (hK _ _ ⟨0, 0, 0, rfl, al0⟩ (Below.refl _ _) no_al)
  case hend =>
    intro x W hf hg hb
    obtain ⟨y0, y1, y2, y3, y4⟩ := HC.out W hb
    have f0 : x 0 = lp q := ft_val (hf 0 (by decide)) (fun _ _ _ => rfl)
    have f1 : x 1 = lp q := ft_val (hf 1 (by decide)) (fun _ _ _ => rfl)
    have f2 : x 2 = lp q := ft_val (hf 2 (by decide)) (fun _ _ _ => rfl)
    have f3 : x 3 = lp g := ft_val (hf 3 (by decide)) (fun _ _ _ => rfl)
    have f4 : x 4 = .int .i64 f := ft_val (hf 4 (by decide)) (fun _ _ _ => rfl)
    have f5 : x 5 = .int .i64 a := ft_val (hf 5 (by decide)) (fun _ _ _ => rfl)
    have f6 : x 6 = .string s := ft_val (hf 6 (by decide)) (fun _ _ _ => rfl)
    rw [putsA_lit _ _ [0, 1, 2, 3, 4, 5, 6] ((5, 0) :: (6, 1) :: (7, 2) :: (8, 3) :: (9, 4) :: (10, 5) :: (11, 6) :: []) (by kernel_rfl)]
    simp only [setAll, ↓reduceIte, Nat.reduceAdd, Nat.reduceEqDiff]
    rw [f0, f1, f2, f3, f4, f5, f6]
    clear hf hg f0 f1 f2 f3 f4 f5 f6
    have HS2 := Lib.hid (HS.out W hb)
    clear HS HC
    refine wpAny_ready (rs := [7]) (by kernel_rfl) (by simp) ?_
    refine AllReady.cons rfl (fun K hK => ?_) AllReady.nil
    go_simp
    refine (HS2.out).mono ?_
    rintro e w1 ⟨rfl, hr⟩
    refine hK _ _ ?_
    clear hK K
    refine wpAny_ready (rs := [8]) (by kernel_rfl) (by simp) ?_
    refine AllReady.cons rfl (fun K hK => ?_) AllReady.nil
    go_simp
    refine hK _ _ ?_
    clear hK K
    refine wpAny_done (by kernel_rfl) ?_ _
    refine NoPanic.normal ?_
    go_wp2
    go_ret
    exact ⟨rfl, hr⟩
set_option maxRecDepth 100000 in
set_option maxHeartbeats 4000000 in
theorem lay_step {S : Nat → Prop} {g q k0 k1 : Nat} {s : ByteArray} {d : Dk} {N : Nat} {l : Lg} {w : World} (h : LgS w S g q d N l) (hN : N + 1 ≤ 1000000) (hs : s.size ≤ 140737488351232) (b0 : PtrBlk w k0 q) (b1 : Blk w k1 9 #[.string s]) (n0 : ¬ S k0) :
    Calls Try.prog 75 #[lp k0, lp k1] w fun e w' => e = .returned (.int .i64 (spD (.lay s) d l).2) ∧ LgR w S g q (spD (.lay s) d l).1.1 (N + 1) (spD (.lay s) d l).1.2 w' := by
  have HS := Lib.hid (fun W (hb : Below w.drew.heap.size w.drew W) => show Calls Try.prog 22 #[lp g, .int .i64 1, .int .i64 0, .string s] W fun e w' => e = .returned (.int .i64 (writeD d 1 0 s).2) ∧ LgR w S g q (writeD d 1 0 s).1 (N + 1) l w' ∧ PtrBlk w' k0 q from by
    obtain ⟨Sd, A, c, hm⟩ := h
    have hb0 := undrew hb
    have hm2 := lgAt_below hm hb0
    refine (write_any Sd g d N hN 1 0 s hs W hm2.dk).mono ?_
    rintro e w' ⟨he, hr⟩
    have hL := lgR_above hb0 (lgR_dk hm2 hr)
    refine ⟨he, hL, ?_⟩
    obtain ⟨S1, -, f1, -⟩ := hL
    exact fr_blk f1 b0 n0)
  have HC := Lib.hid (fun W (hb : Below w.drew.heap.size w.drew W) => show W.cell? ⟨k0, 0, none⟩ = some (lp q) ∧ W.cell? ⟨k1, 0, none⟩ = some (.string s) ∧ W.cell? ⟨q, 0, none⟩ = some (lp g) from by
    have hb0 := undrew hb
    obtain ⟨Sd, A, c, hm⟩ := h
    exact ⟨(blk_step b0 hb0).cell 0, (blk_step b1 hb0).cell 0, (lg_cells (lgAt_below hm hb0)).1⟩)
  clear h hN hs b0 b1
  unfold spD
  simp only
  generalize writeD d 1 0 s = R at *
  obtain ⟨d', z⟩ := R
  simp only at HS
  go_enter Try.func75, Try.ntmps75
  go_wp2_with fail
  refine wp_region_noPanic ?_
  refine wp_region_any (by kernel_rfl) ?_
  refine facts_startD [0, 1, 2, 3, 4] [] (fun i => match i with | 1 => [0] | 2 => [1] | 3 => [2] | _ => []) (Ft (fun i k k1 k2 => match i with | 0 => lp q | 1 => lp q | 2 => lp q | 3 => lp g | 4 => .string s | _ => undef) (fun _ _ _ _ => [])) _ _ _ 2 _ #[true, true, true, true, true, false, false] (by kernel_rfl) (by rfl) ft_step no_al' ?hstep ?hend
  case hstep =>
    intro i hi x W hd hb K hK
    obtain ⟨y0, y1, y2⟩ := HC.out W hb
    simp only [List.mem_cons, List.not_mem_nil, or_false] at hi
    rcases hi with rfl | rfl | rfl | rfl | rfl
    · generalize hA : putsA _ _ x [0, 1, 2, 3, 4] = A_ at *
      have e0 : A_.tmps[0]? = some (lp k0) := by rw [← hA]; exact putsA_at 0 _ (by decide +kernel)
      clear hA hd
      refine wpOp_step rfl (fun K' hK' => ?_)
      go_simp
      exact hK' _ _ (hK _ _ ⟨0, 0, 0, rfl, al0⟩ (Below.refl _ _) no_al)
    · generalize hA : putsA _ _ x [0, 1, 2, 3, 4] = A_ at *
      have e4 : A_.tmps[4]? = some (x 0) := by rw [← hA]; exact putsA_in (i := 0) 4 (by rfl) (by show (4 : Nat) < 22; decide) _ (by decide +kernel) (by decide)
      have f0 : x 0 = lp q := ft_val (hd 0 (by decide)) (fun _ _ _ => rfl)
      rw [f0] at e4
      clear hA hd
      refine wpOp_step rfl (fun K' hK' => ?_)
      go_simp
      exact hK' _ _ (hK _ _ ⟨0, 0, 0, rfl, al0⟩ (Below.refl _ _) no_al)
    · generalize hA : putsA _ _ x [0, 1, 2, 3, 4] = A_ at *
      have e5 : A_.tmps[5]? = some (x 1) := by rw [← hA]; exact putsA_in (i := 1) 5 (by rfl) (by show (5 : Nat) < 22; decide) _ (by decide +kernel) (by decide)
      have f1 : x 1 = lp q := ft_val (hd 1 (by decide)) (fun _ _ _ => rfl)
      rw [f1] at e5
      clear hA hd
      refine wpOp_step rfl (fun K' hK' => ?_)
      go_simp
      exact hK' _ _ (hK _ _ ⟨0, 0, 0, rfl, al0⟩ (Below.refl _ _) no_al)
    · generalize hA : putsA _ _ x [0, 1, 2, 3, 4] = A_ at *
      have e6 : A_.tmps[6]? = some (x 2) := by rw [← hA]; exact putsA_in (i := 2) 6 (by rfl) (by show (6 : Nat) < 22; decide) _ (by decide +kernel) (by decide)
      have f2 : x 2 = lp q := ft_val (hd 2 (by decide)) (fun _ _ _ => rfl)
      rw [f2] at e6
      clear hA hd
      refine wpOp_step rfl (fun K' hK' => ?_)
      go_simp
      exact hK' _ _ (hK _ _ ⟨0, 0, 0, rfl, al0⟩ (Below.refl _ _) no_al)
    · generalize hA : putsA _ _ x [0, 1, 2, 3, 4] = A_ at *
      have e1 : A_.tmps[1]? = some (lp k1) := by rw [← hA]; exact putsA_at 1 _ (by decide +kernel)
      clear hA hd
      refine wpOp_step rfl (fun K' hK' => ?_)
      go_simp
      exact hK' _ _ (hK _ _ ⟨0, 0, 0, rfl, al0⟩ (Below.refl _ _) no_al)
  case hend =>
    intro x W hf hg hb
    obtain ⟨y0, y1, y2⟩ := HC.out W hb
    have f0 : x 0 = lp q := ft_val (hf 0 (by decide)) (fun _ _ _ => rfl)
    have f1 : x 1 = lp q := ft_val (hf 1 (by decide)) (fun _ _ _ => rfl)
    have f2 : x 2 = lp q := ft_val (hf 2 (by decide)) (fun _ _ _ => rfl)
    have f3 : x 3 = lp g := ft_val (hf 3 (by decide)) (fun _ _ _ => rfl)
    have f4 : x 4 = .string s := ft_val (hf 4 (by decide)) (fun _ _ _ => rfl)
    rw [putsA_lit _ _ [0, 1, 2, 3, 4] ((4, 0) :: (5, 1) :: (6, 2) :: (7, 3) :: (8, 4) :: []) (by kernel_rfl)]
    simp only [setAll, ↓reduceIte, Nat.reduceAdd, Nat.reduceEqDiff]
    rw [f0, f1, f2, f3, f4]
    clear hf hg f0 f1 f2 f3 f4
    have HS2 := Lib.hid (HS.out W hb)
    clear HS HC
    refine wpAny_ready (rs := [5]) (by kernel_rfl) (by simp) ?_
    refine AllReady.cons rfl (fun K hK => ?_) AllReady.nil
    go_simp
    refine (HS2.out).mono ?_
    rintro e w1 ⟨rfl, hr, hk⟩
    refine hK _ _ ?_
    clear hK K
    refine wpAny_ready (rs := [6]) (by kernel_rfl) (by simp) ?_
    refine AllReady.cons rfl (fun K hK => ?_) AllReady.nil
    go_simp
    refine hK _ _ ?_
    clear hK K
    refine wpAny_done (by kernel_rfl) ?_ _
    refine NoPanic.normal ?_
    have HR := Lib.hid (show ∀ W, Below w1.drew.heap.size w1.drew W → ∀ b : Bool, b = (l.torn || decide (z = 0)) → LgR w S g q d' (N + 1) (tornL l (l.torn || decide (z = 0))) (W.setCell ⟨q, 8, none⟩ (.bool b)) from fun W hb b he => by
      subst he
      obtain ⟨S1, ⟨Sd1, A1, c1, h1⟩, f1, s1⟩ := lgR_below hr (undrew hb)
      exact ⟨S1, ⟨Sd1, A1, c1, lgAt_torn h1 _⟩, fr_set f1 (p := ⟨q, 8, none⟩) (s1 q h1.sq) _, s1⟩)
    have HC0 := Lib.hid (show ∀ W, Below w1.drew.heap.size w1.drew W → W.cell? ⟨k0, 0, none⟩ = some (lp q) ∧ W.cell? ⟨q, 8, none⟩ = some (.bool l.torn) ∧ W.frozen? ⟨q, 8, none⟩ = false from fun W hb => by
      have hb1 := undrew hb
      obtain ⟨S1, ⟨Sd1, A1, c1, h1⟩, f1, s1⟩ := lgR_below hr hb1
      exact ⟨(blk_step hk hb1).cell 0, (lg_cells h1).2.2.2.2.2.2.2.2.1, h1.blk.frozen 8⟩)
    clear hr hk hb
    have HFIN := HR
    have HC2 := HC0
    clear HR HC0
    cases ht : l.torn with
    | true =>
      have HT := Lib.hid (show true = (l.torn || decide (z = 0)) by rw [ht]; rfl)
      rw [ht] at HC2
      clear ht
      go_wp2_with fail
      refine wp_region_noPanic ?_
      refine wp_region_any (by kernel_rfl) ?_
      refine facts_startD [0, 1, 2, 3, 4, 5, 6, 7, 8, 9, 10] [] (fun i => match i with | 2 => [1] | 3 => [2] | 4 => [3] | 5 => [4] | 6 => [5] | 7 => [6, 5] | 8 => [5, 7] | 9 => [0] | 10 => [9] | _ => []) (Ft (fun i k k1 k2 => match i with | 0 => lp q | 1 => lp q | 2 => lp q | 3 => .pointer (some ⟨q, 8, none⟩) | 4 => .bool true | 5 => .bool true | 6 => undef | 7 => undef | 8 => .bool true | 9 => lp q | 10 => .pointer (some ⟨q, 8, none⟩) | _ => undef) (fun _ _ _ _ => [])) _ _ _ 1 _ #[true, true, true, true, true, true, true, true, true, true, true, false] (by kernel_rfl) (by rfl) ft_step no_al' ?hstep ?hend
      case hstep =>
        intro i hi x W hd hb K hK
        obtain ⟨y0, y1, -⟩ := HC2.out W hb
        simp only [List.mem_cons, List.not_mem_nil, or_false] at hi
        rcases hi with rfl | rfl | rfl | rfl | rfl | rfl | rfl | rfl | rfl | rfl | rfl
        · generalize hA : putsA _ _ x [0, 1, 2, 3, 4, 5, 6, 7, 8, 9, 10] = A_ at *
          have e0 : A_.tmps[0]? = some (lp k0) := by rw [← hA]; exact putsA_at 0 _ (by decide +kernel)
          clear hA hd
          refine wpOp_step rfl (fun K' hK' => ?_)
          go_simp
          exact hK' _ _ (hK _ _ ⟨0, 0, 0, rfl, al0⟩ (Below.refl _ _) no_al)
        · generalize hA : putsA _ _ x [0, 1, 2, 3, 4, 5, 6, 7, 8, 9, 10] = A_ at *
          have e0 : A_.tmps[0]? = some (lp k0) := by rw [← hA]; exact putsA_at 0 _ (by decide +kernel)
          clear hA hd
          refine wpOp_step rfl (fun K' hK' => ?_)
          go_simp
          exact hK' _ _ (hK _ _ ⟨0, 0, 0, rfl, al0⟩ (Below.refl _ _) no_al)
        · generalize hA : putsA _ _ x [0, 1, 2, 3, 4, 5, 6, 7, 8, 9, 10] = A_ at *
          have e11 : A_.tmps[11]? = some (x 1) := by rw [← hA]; exact putsA_in (i := 1) 11 (by rfl) (by show (11 : Nat) < 22; decide) _ (by decide +kernel) (by decide)
          have f1 : x 1 = lp q := ft_val (hd 1 (by decide)) (fun _ _ _ => rfl)
          rw [f1] at e11
          clear hA hd
          refine wpOp_step rfl (fun K' hK' => ?_)
          go_simp
          exact hK' _ _ (hK _ _ ⟨0, 0, 0, rfl, al0⟩ (Below.refl _ _) no_al)
        · generalize hA : putsA _ _ x [0, 1, 2, 3, 4, 5, 6, 7, 8, 9, 10] = A_ at *
          have e12 : A_.tmps[12]? = some (x 2) := by rw [← hA]; exact putsA_in (i := 2) 12 (by rfl) (by show (12 : Nat) < 22; decide) _ (by decide +kernel) (by decide)
          have f2 : x 2 = lp q := ft_val (hd 2 (by decide)) (fun _ _ _ => rfl)
          rw [f2] at e12
          clear hA hd
          refine wpOp_step rfl (fun K' hK' => ?_)
          go_simp
          exact hK' _ _ (hK _ _ ⟨0, 0, 0, rfl, al0⟩ (Below.refl _ _) no_al)
        · generalize hA : putsA _ _ x [0, 1, 2, 3, 4, 5, 6, 7, 8, 9, 10] = A_ at *
          have e13 : A_.tmps[13]? = some (x 3) := by rw [← hA]; exact putsA_in (i := 3) 13 (by rfl) (by show (13 : Nat) < 22; decide) _ (by decide +kernel) (by decide)
          have f3 : x 3 = .pointer (some ⟨q, 8, none⟩) := ft_val (hd 3 (by decide)) (fun _ _ _ => rfl)
          rw [f3] at e13
          clear hA hd
          refine wpOp_step rfl (fun K' hK' => ?_)
          go_simp
          exact hK' _ _ (hK _ _ ⟨0, 0, 0, rfl, al0⟩ (Below.refl _ _) no_al)
        · generalize hA : putsA _ _ x [0, 1, 2, 3, 4, 5, 6, 7, 8, 9, 10] = A_ at *
          have e14 : A_.tmps[14]? = some (x 4) := by rw [← hA]; exact putsA_in (i := 4) 14 (by rfl) (by show (14 : Nat) < 22; decide) _ (by decide +kernel) (by decide)
          have f4 : x 4 = .bool true := ft_val (hd 4 (by decide)) (fun _ _ _ => rfl)
          rw [f4] at e14
          clear hA hd
          refine wpOp_step rfl (fun K' hK' => ?_)
          go_simp
          exact hK' _ _ (hK _ _ ⟨0, 0, 0, rfl, al0⟩ (Below.refl _ _) no_al)
        · generalize hA : putsA _ _ x [0, 1, 2, 3, 4, 5, 6, 7, 8, 9, 10] = A_ at *
          have e3 : A_.tmps[3]? = some (.int .i64 z) := by rw [← hA]; exact putsA_at 3 _ (by decide +kernel)
          have e15 : A_.tmps[15]? = some (x 5) := by rw [← hA]; exact putsA_in (i := 5) 15 (by rfl) (by show (15 : Nat) < 22; decide) _ (by decide +kernel) (by decide)
          have f5 : x 5 = .bool true := ft_val (hd 5 (by decide)) (fun _ _ _ => rfl)
          rw [f5] at e15
          clear hA hd
          refine wpOp_step rfl (fun K' hK' => ?_)
          go_simp
          exact hK' _ _ (hK _ _ ⟨0, 0, 0, rfl, al0⟩ (Below.refl _ _) no_al)
        · generalize hA : putsA _ _ x [0, 1, 2, 3, 4, 5, 6, 7, 8, 9, 10] = A_ at *
          have e16 : A_.tmps[16]? = some (x 6) := by rw [← hA]; exact putsA_in (i := 6) 16 (by rfl) (by show (16 : Nat) < 22; decide) _ (by decide +kernel) (by decide)
          have f6 : x 6 = undef := ft_val (hd 6 (by decide)) (fun _ _ _ => rfl)
          rw [f6] at e16
          have e15 : A_.tmps[15]? = some (x 5) := by rw [← hA]; exact putsA_in (i := 5) 15 (by rfl) (by show (15 : Nat) < 22; decide) _ (by decide +kernel) (by decide)
          have f5 : x 5 = .bool true := ft_val (hd 5 (by decide)) (fun _ _ _ => rfl)
          rw [f5] at e15
          clear hA hd
          refine wpOp_step rfl (fun K' hK' => ?_)
          go_simp
          exact hK' _ _ (hK _ _ ⟨0, 0, 0, rfl, al0⟩ (Below.refl _ _) no_al)
        · generalize hA : putsA _ _ x [0, 1, 2, 3, 4, 5, 6, 7, 8, 9, 10] = A_ at *
          have e15 : A_.tmps[15]? = some (x 5) := by rw [← hA]; exact putsA_in (i := 5) 15 (by rfl) (by show (15 : Nat) < 22; decide) _ (by decide +kernel) (by decide)
          have f5 : x 5 = .bool true := ft_val (hd 5 (by decide)) (fun _ _ _ => rfl)
          rw [f5] at e15
          have e17 : A_.tmps[17]? = some (x 7) := by rw [← hA]; exact putsA_in (i := 7) 17 (by rfl) (by show (17 : Nat) < 22; decide) _ (by decide +kernel) (by decide)
          have f7 : x 7 = undef := ft_val (hd 7 (by decide)) (fun _ _ _ => rfl)
          rw [f7] at e17
          clear hA hd
          refine wpOp_step rfl (fun K' hK' => ?_)
          go_simp
          exact hK' _ _ (hK _ _ ⟨0, 0, 0, rfl, al0⟩ (Below.refl _ _) no_al)
        · generalize hA : putsA _ _ x [0, 1, 2, 3, 4, 5, 6, 7, 8, 9, 10] = A_ at *
          have e10 : A_.tmps[10]? = some (x 0) := by rw [← hA]; exact putsA_in (i := 0) 10 (by rfl) (by show (10 : Nat) < 22; decide) _ (by decide +kernel) (by decide)
          have f0 : x 0 = lp q := ft_val (hd 0 (by decide)) (fun _ _ _ => rfl)
          rw [f0] at e10
          clear hA hd
          refine wpOp_step rfl (fun K' hK' => ?_)
          go_simp
          exact hK' _ _ (hK _ _ ⟨0, 0, 0, rfl, al0⟩ (Below.refl _ _) no_al)
        · generalize hA : putsA _ _ x [0, 1, 2, 3, 4, 5, 6, 7, 8, 9, 10] = A_ at *
          have e19 : A_.tmps[19]? = some (x 9) := by rw [← hA]; exact putsA_in (i := 9) 19 (by rfl) (by show (19 : Nat) < 22; decide) _ (by decide +kernel) (by decide)
          have f9 : x 9 = lp q := ft_val (hd 9 (by decide)) (fun _ _ _ => rfl)
          rw [f9] at e19
          clear hA hd
          refine wpOp_step rfl (fun K' hK' => ?_)
          go_simp
          exact hK' _ _ (hK _ _ ⟨0, 0, 0, rfl, al0⟩ (Below.refl _ _) no_al)
      case hend =>
        intro x W hf hg hb
        obtain ⟨y0, y1, -⟩ := HC2.out W hb
        have f0 : x 0 = lp q := ft_val (hf 0 (by decide)) (fun _ _ _ => rfl)
        have f1 : x 1 = lp q := ft_val (hf 1 (by decide)) (fun _ _ _ => rfl)
        have f2 : x 2 = lp q := ft_val (hf 2 (by decide)) (fun _ _ _ => rfl)
        have f3 : x 3 = .pointer (some ⟨q, 8, none⟩) := ft_val (hf 3 (by decide)) (fun _ _ _ => rfl)
        have f4 : x 4 = .bool true := ft_val (hf 4 (by decide)) (fun _ _ _ => rfl)
        have f5 : x 5 = .bool true := ft_val (hf 5 (by decide)) (fun _ _ _ => rfl)
        have f6 : x 6 = undef := ft_val (hf 6 (by decide)) (fun _ _ _ => rfl)
        have f7 : x 7 = undef := ft_val (hf 7 (by decide)) (fun _ _ _ => rfl)
        have f8 : x 8 = .bool true := ft_val (hf 8 (by decide)) (fun _ _ _ => rfl)
        have f9 : x 9 = lp q := ft_val (hf 9 (by decide)) (fun _ _ _ => rfl)
        have f10 : x 10 = .pointer (some ⟨q, 8, none⟩) := ft_val (hf 10 (by decide)) (fun _ _ _ => rfl)
        rw [putsA_lit _ _ [0, 1, 2, 3, 4, 5, 6, 7, 8, 9, 10] ((10, 0) :: (11, 1) :: (12, 2) :: (13, 3) :: (14, 4) :: (15, 5) :: (16, 6) :: (17, 7) :: (18, 8) :: (19, 9) :: (20, 10) :: []) (by kernel_rfl)]
        simp only [setAll, ↓reduceIte, Nat.reduceAdd, Nat.reduceEqDiff]
        rw [f0, f1, f2, f3, f4, f5, f6, f7, f8, f9, f10]
        clear hf hg f0 f1 f2 f3 f4 f5 f6 f7 f8 f9 f10
        obtain ⟨-, -, fr8⟩ := HC2.out W hb
        have HF2 := Lib.hid (HFIN.out W hb _ HT.out)
        clear HFIN HC2
        refine wpAny_ready (rs := [11]) (by kernel_rfl) (by simp) ?_
        refine AllReady.cons rfl (fun K hK => ?_) AllReady.nil
        go_simp
        refine hK _ _ ?_
        clear hK K fr8
        refine wpAny_done (by kernel_rfl) ?_ _
        refine NoPanic.normal ?_
        go_wp2
        go_ret
        exact ⟨rfl, by have h := HF2.out; first | exact h | (rw [← HT.out] at h; exact h) | (rw [HT.out]; exact h)⟩
    | false =>
      by_cases hz : z = 0
      · have HT := Lib.hid (show true = (l.torn || decide (z = 0)) by rw [ht, decide_eq_true hz]; rfl)
        subst hz
        rw [ht] at HC2
        clear ht
        go_wp2_with fail
        refine wp_region_noPanic ?_
        refine wp_region_any (by kernel_rfl) ?_
        refine facts_startD [0, 1, 2, 3, 4, 5, 6, 7, 8, 9, 10] [] (fun i => match i with | 2 => [1] | 3 => [2] | 4 => [3] | 5 => [4] | 6 => [5] | 7 => [6, 5] | 8 => [5, 7] | 9 => [0] | 10 => [9] | _ => []) (Ft (fun i k k1 k2 => match i with | 0 => lp q | 1 => lp q | 2 => lp q | 3 => .pointer (some ⟨q, 8, none⟩) | 4 => .bool false | 5 => .bool false | 6 => .int .i64 0 | 7 => .bool true | 8 => .bool true | 9 => lp q | 10 => .pointer (some ⟨q, 8, none⟩) | _ => undef) (fun _ _ _ _ => [])) _ _ _ 1 _ #[true, true, true, true, true, true, true, true, true, true, true, false] (by kernel_rfl) (by rfl) ft_step no_al' ?hstep ?hend
        case hstep =>
          intro i hi x W hd hb K hK
          obtain ⟨y0, y1, -⟩ := HC2.out W hb
          simp only [List.mem_cons, List.not_mem_nil, or_false] at hi
          rcases hi with rfl | rfl | rfl | rfl | rfl | rfl | rfl | rfl | rfl | rfl | rfl
          · generalize hA : putsA _ _ x [0, 1, 2, 3, 4, 5, 6, 7, 8, 9, 10] = A_ at *
            have e0 : A_.tmps[0]? = some (lp k0) := by rw [← hA]; exact putsA_at 0 _ (by decide +kernel)
            clear hA hd
            refine wpOp_step rfl (fun K' hK' => ?_)
            go_simp
            exact hK' _ _ (hK _ _ ⟨0, 0, 0, rfl, al0⟩ (Below.refl _ _) no_al)
          · generalize hA : putsA _ _ x [0, 1, 2, 3, 4, 5, 6, 7, 8, 9, 10] = A_ at *
            have e0 : A_.tmps[0]? = some (lp k0) := by rw [← hA]; exact putsA_at 0 _ (by decide +kernel)
            clear hA hd
            refine wpOp_step rfl (fun K' hK' => ?_)
            go_simp
            exact hK' _ _ (hK _ _ ⟨0, 0, 0, rfl, al0⟩ (Below.refl _ _) no_al)
          · generalize hA : putsA _ _ x [0, 1, 2, 3, 4, 5, 6, 7, 8, 9, 10] = A_ at *
            have e11 : A_.tmps[11]? = some (x 1) := by rw [← hA]; exact putsA_in (i := 1) 11 (by rfl) (by show (11 : Nat) < 22; decide) _ (by decide +kernel) (by decide)
            have f1 : x 1 = lp q := ft_val (hd 1 (by decide)) (fun _ _ _ => rfl)
            rw [f1] at e11
            clear hA hd
            refine wpOp_step rfl (fun K' hK' => ?_)
            go_simp
            exact hK' _ _ (hK _ _ ⟨0, 0, 0, rfl, al0⟩ (Below.refl _ _) no_al)
          · generalize hA : putsA _ _ x [0, 1, 2, 3, 4, 5, 6, 7, 8, 9, 10] = A_ at *
            have e12 : A_.tmps[12]? = some (x 2) := by rw [← hA]; exact putsA_in (i := 2) 12 (by rfl) (by show (12 : Nat) < 22; decide) _ (by decide +kernel) (by decide)
            have f2 : x 2 = lp q := ft_val (hd 2 (by decide)) (fun _ _ _ => rfl)
            rw [f2] at e12
            clear hA hd
            refine wpOp_step rfl (fun K' hK' => ?_)
            go_simp
            exact hK' _ _ (hK _ _ ⟨0, 0, 0, rfl, al0⟩ (Below.refl _ _) no_al)
          · generalize hA : putsA _ _ x [0, 1, 2, 3, 4, 5, 6, 7, 8, 9, 10] = A_ at *
            have e13 : A_.tmps[13]? = some (x 3) := by rw [← hA]; exact putsA_in (i := 3) 13 (by rfl) (by show (13 : Nat) < 22; decide) _ (by decide +kernel) (by decide)
            have f3 : x 3 = .pointer (some ⟨q, 8, none⟩) := ft_val (hd 3 (by decide)) (fun _ _ _ => rfl)
            rw [f3] at e13
            clear hA hd
            refine wpOp_step rfl (fun K' hK' => ?_)
            go_simp
            exact hK' _ _ (hK _ _ ⟨0, 0, 0, rfl, al0⟩ (Below.refl _ _) no_al)
          · generalize hA : putsA _ _ x [0, 1, 2, 3, 4, 5, 6, 7, 8, 9, 10] = A_ at *
            have e14 : A_.tmps[14]? = some (x 4) := by rw [← hA]; exact putsA_in (i := 4) 14 (by rfl) (by show (14 : Nat) < 22; decide) _ (by decide +kernel) (by decide)
            have f4 : x 4 = .bool false := ft_val (hd 4 (by decide)) (fun _ _ _ => rfl)
            rw [f4] at e14
            clear hA hd
            refine wpOp_step rfl (fun K' hK' => ?_)
            go_simp
            exact hK' _ _ (hK _ _ ⟨0, 0, 0, rfl, al0⟩ (Below.refl _ _) no_al)
          · generalize hA : putsA _ _ x [0, 1, 2, 3, 4, 5, 6, 7, 8, 9, 10] = A_ at *
            have e3 : A_.tmps[3]? = some (.int .i64 0) := by rw [← hA]; exact putsA_at 3 _ (by decide +kernel)
            have e15 : A_.tmps[15]? = some (x 5) := by rw [← hA]; exact putsA_in (i := 5) 15 (by rfl) (by show (15 : Nat) < 22; decide) _ (by decide +kernel) (by decide)
            have f5 : x 5 = .bool false := ft_val (hd 5 (by decide)) (fun _ _ _ => rfl)
            rw [f5] at e15
            clear hA hd
            refine wpOp_step rfl (fun K' hK' => ?_)
            go_simp
            exact hK' _ _ (hK _ _ ⟨0, 0, 0, rfl, al0⟩ (Below.refl _ _) no_al)
          · generalize hA : putsA _ _ x [0, 1, 2, 3, 4, 5, 6, 7, 8, 9, 10] = A_ at *
            have e16 : A_.tmps[16]? = some (x 6) := by rw [← hA]; exact putsA_in (i := 6) 16 (by rfl) (by show (16 : Nat) < 22; decide) _ (by decide +kernel) (by decide)
            have f6 : x 6 = .int .i64 0 := ft_val (hd 6 (by decide)) (fun _ _ _ => rfl)
            rw [f6] at e16
            have e15 : A_.tmps[15]? = some (x 5) := by rw [← hA]; exact putsA_in (i := 5) 15 (by rfl) (by show (15 : Nat) < 22; decide) _ (by decide +kernel) (by decide)
            have f5 : x 5 = .bool false := ft_val (hd 5 (by decide)) (fun _ _ _ => rfl)
            rw [f5] at e15
            clear hA hd
            refine wpOp_step rfl (fun K' hK' => ?_)
            go_simp
            exact hK' _ _ (hK _ _ ⟨0, 0, 0, rfl, al0⟩ (Below.refl _ _) no_al)
          · generalize hA : putsA _ _ x [0, 1, 2, 3, 4, 5, 6, 7, 8, 9, 10] = A_ at *
            have e15 : A_.tmps[15]? = some (x 5) := by rw [← hA]; exact putsA_in (i := 5) 15 (by rfl) (by show (15 : Nat) < 22; decide) _ (by decide +kernel) (by decide)
            have f5 : x 5 = .bool false := ft_val (hd 5 (by decide)) (fun _ _ _ => rfl)
            rw [f5] at e15
            have e17 : A_.tmps[17]? = some (x 7) := by rw [← hA]; exact putsA_in (i := 7) 17 (by rfl) (by show (17 : Nat) < 22; decide) _ (by decide +kernel) (by decide)
            have f7 : x 7 = .bool true := ft_val (hd 7 (by decide)) (fun _ _ _ => rfl)
            rw [f7] at e17
            clear hA hd
            refine wpOp_step rfl (fun K' hK' => ?_)
            go_simp
            exact hK' _ _ (hK _ _ ⟨0, 0, 0, rfl, al0⟩ (Below.refl _ _) no_al)
          · generalize hA : putsA _ _ x [0, 1, 2, 3, 4, 5, 6, 7, 8, 9, 10] = A_ at *
            have e10 : A_.tmps[10]? = some (x 0) := by rw [← hA]; exact putsA_in (i := 0) 10 (by rfl) (by show (10 : Nat) < 22; decide) _ (by decide +kernel) (by decide)
            have f0 : x 0 = lp q := ft_val (hd 0 (by decide)) (fun _ _ _ => rfl)
            rw [f0] at e10
            clear hA hd
            refine wpOp_step rfl (fun K' hK' => ?_)
            go_simp
            exact hK' _ _ (hK _ _ ⟨0, 0, 0, rfl, al0⟩ (Below.refl _ _) no_al)
          · generalize hA : putsA _ _ x [0, 1, 2, 3, 4, 5, 6, 7, 8, 9, 10] = A_ at *
            have e19 : A_.tmps[19]? = some (x 9) := by rw [← hA]; exact putsA_in (i := 9) 19 (by rfl) (by show (19 : Nat) < 22; decide) _ (by decide +kernel) (by decide)
            have f9 : x 9 = lp q := ft_val (hd 9 (by decide)) (fun _ _ _ => rfl)
            rw [f9] at e19
            clear hA hd
            refine wpOp_step rfl (fun K' hK' => ?_)
            go_simp
            exact hK' _ _ (hK _ _ ⟨0, 0, 0, rfl, al0⟩ (Below.refl _ _) no_al)
        case hend =>
          intro x W hf hg hb
          obtain ⟨y0, y1, -⟩ := HC2.out W hb
          have f0 : x 0 = lp q := ft_val (hf 0 (by decide)) (fun _ _ _ => rfl)
          have f1 : x 1 = lp q := ft_val (hf 1 (by decide)) (fun _ _ _ => rfl)
          have f2 : x 2 = lp q := ft_val (hf 2 (by decide)) (fun _ _ _ => rfl)
          have f3 : x 3 = .pointer (some ⟨q, 8, none⟩) := ft_val (hf 3 (by decide)) (fun _ _ _ => rfl)
          have f4 : x 4 = .bool false := ft_val (hf 4 (by decide)) (fun _ _ _ => rfl)
          have f5 : x 5 = .bool false := ft_val (hf 5 (by decide)) (fun _ _ _ => rfl)
          have f6 : x 6 = .int .i64 0 := ft_val (hf 6 (by decide)) (fun _ _ _ => rfl)
          have f7 : x 7 = .bool true := ft_val (hf 7 (by decide)) (fun _ _ _ => rfl)
          have f8 : x 8 = .bool true := ft_val (hf 8 (by decide)) (fun _ _ _ => rfl)
          have f9 : x 9 = lp q := ft_val (hf 9 (by decide)) (fun _ _ _ => rfl)
          have f10 : x 10 = .pointer (some ⟨q, 8, none⟩) := ft_val (hf 10 (by decide)) (fun _ _ _ => rfl)
          rw [putsA_lit _ _ [0, 1, 2, 3, 4, 5, 6, 7, 8, 9, 10] ((10, 0) :: (11, 1) :: (12, 2) :: (13, 3) :: (14, 4) :: (15, 5) :: (16, 6) :: (17, 7) :: (18, 8) :: (19, 9) :: (20, 10) :: []) (by kernel_rfl)]
          simp only [setAll, ↓reduceIte, Nat.reduceAdd, Nat.reduceEqDiff]
          rw [f0, f1, f2, f3, f4, f5, f6, f7, f8, f9, f10]
          clear hf hg f0 f1 f2 f3 f4 f5 f6 f7 f8 f9 f10
          obtain ⟨-, -, fr8⟩ := HC2.out W hb
          have HF2 := Lib.hid (HFIN.out W hb _ HT.out)
          clear HFIN HC2
          refine wpAny_ready (rs := [11]) (by kernel_rfl) (by simp) ?_
          refine AllReady.cons rfl (fun K hK => ?_) AllReady.nil
          go_simp
          refine hK _ _ ?_
          clear hK K fr8
          refine wpAny_done (by kernel_rfl) ?_ _
          refine NoPanic.normal ?_
          go_wp2
          go_ret
          exact ⟨rfl, by have h := HF2.out; first | exact h | (rw [← HT.out] at h; exact h) | (rw [HT.out]; exact h)⟩
      · have HT := Lib.hid (show false = (l.torn || decide (z = 0)) by rw [ht, decide_eq_false hz]; rfl)
        have hzb : (z == 0) = false := by simp [hz]
        rw [ht] at HC2
        clear ht hz
        go_wp2_with fail
        refine wp_region_noPanic ?_
        refine wp_region_any (by kernel_rfl) ?_
        refine facts_startD [0, 1, 2, 3, 4, 5, 6, 7, 8, 9, 10] [] (fun i => match i with | 2 => [1] | 3 => [2] | 4 => [3] | 5 => [4] | 6 => [5] | 7 => [6, 5] | 8 => [5, 7] | 9 => [0] | 10 => [9] | _ => []) (Ft (fun i k k1 k2 => match i with | 0 => lp q | 1 => lp q | 2 => lp q | 3 => .pointer (some ⟨q, 8, none⟩) | 4 => .bool false | 5 => .bool false | 6 => .int .i64 z | 7 => .bool false | 8 => .bool false | 9 => lp q | 10 => .pointer (some ⟨q, 8, none⟩) | _ => undef) (fun _ _ _ _ => [])) _ _ _ 1 _ #[true, true, true, true, true, true, true, true, true, true, true, false] (by kernel_rfl) (by rfl) ft_step no_al' ?hstep ?hend
        case hstep =>
          intro i hi x W hd hb K hK
          obtain ⟨y0, y1, -⟩ := HC2.out W hb
          simp only [List.mem_cons, List.not_mem_nil, or_false] at hi
          rcases hi with rfl | rfl | rfl | rfl | rfl | rfl | rfl | rfl | rfl | rfl | rfl
          · generalize hA : putsA _ _ x [0, 1, 2, 3, 4, 5, 6, 7, 8, 9, 10] = A_ at *
            have e0 : A_.tmps[0]? = some (lp k0) := by rw [← hA]; exact putsA_at 0 _ (by decide +kernel)
            clear hA hd
            refine wpOp_step rfl (fun K' hK' => ?_)
            go_simp
            exact hK' _ _ (hK _ _ ⟨0, 0, 0, rfl, al0⟩ (Below.refl _ _) no_al)
          · generalize hA : putsA _ _ x [0, 1, 2, 3, 4, 5, 6, 7, 8, 9, 10] = A_ at *
            have e0 : A_.tmps[0]? = some (lp k0) := by rw [← hA]; exact putsA_at 0 _ (by decide +kernel)
            clear hA hd
            refine wpOp_step rfl (fun K' hK' => ?_)
            go_simp
            exact hK' _ _ (hK _ _ ⟨0, 0, 0, rfl, al0⟩ (Below.refl _ _) no_al)
          · generalize hA : putsA _ _ x [0, 1, 2, 3, 4, 5, 6, 7, 8, 9, 10] = A_ at *
            have e11 : A_.tmps[11]? = some (x 1) := by rw [← hA]; exact putsA_in (i := 1) 11 (by rfl) (by show (11 : Nat) < 22; decide) _ (by decide +kernel) (by decide)
            have f1 : x 1 = lp q := ft_val (hd 1 (by decide)) (fun _ _ _ => rfl)
            rw [f1] at e11
            clear hA hd
            refine wpOp_step rfl (fun K' hK' => ?_)
            go_simp
            exact hK' _ _ (hK _ _ ⟨0, 0, 0, rfl, al0⟩ (Below.refl _ _) no_al)
          · generalize hA : putsA _ _ x [0, 1, 2, 3, 4, 5, 6, 7, 8, 9, 10] = A_ at *
            have e12 : A_.tmps[12]? = some (x 2) := by rw [← hA]; exact putsA_in (i := 2) 12 (by rfl) (by show (12 : Nat) < 22; decide) _ (by decide +kernel) (by decide)
            have f2 : x 2 = lp q := ft_val (hd 2 (by decide)) (fun _ _ _ => rfl)
            rw [f2] at e12
            clear hA hd
            refine wpOp_step rfl (fun K' hK' => ?_)
            go_simp
            exact hK' _ _ (hK _ _ ⟨0, 0, 0, rfl, al0⟩ (Below.refl _ _) no_al)
          · generalize hA : putsA _ _ x [0, 1, 2, 3, 4, 5, 6, 7, 8, 9, 10] = A_ at *
            have e13 : A_.tmps[13]? = some (x 3) := by rw [← hA]; exact putsA_in (i := 3) 13 (by rfl) (by show (13 : Nat) < 22; decide) _ (by decide +kernel) (by decide)
            have f3 : x 3 = .pointer (some ⟨q, 8, none⟩) := ft_val (hd 3 (by decide)) (fun _ _ _ => rfl)
            rw [f3] at e13
            clear hA hd
            refine wpOp_step rfl (fun K' hK' => ?_)
            go_simp
            exact hK' _ _ (hK _ _ ⟨0, 0, 0, rfl, al0⟩ (Below.refl _ _) no_al)
          · generalize hA : putsA _ _ x [0, 1, 2, 3, 4, 5, 6, 7, 8, 9, 10] = A_ at *
            have e14 : A_.tmps[14]? = some (x 4) := by rw [← hA]; exact putsA_in (i := 4) 14 (by rfl) (by show (14 : Nat) < 22; decide) _ (by decide +kernel) (by decide)
            have f4 : x 4 = .bool false := ft_val (hd 4 (by decide)) (fun _ _ _ => rfl)
            rw [f4] at e14
            clear hA hd
            refine wpOp_step rfl (fun K' hK' => ?_)
            go_simp
            exact hK' _ _ (hK _ _ ⟨0, 0, 0, rfl, al0⟩ (Below.refl _ _) no_al)
          · generalize hA : putsA _ _ x [0, 1, 2, 3, 4, 5, 6, 7, 8, 9, 10] = A_ at *
            have e3 : A_.tmps[3]? = some (.int .i64 z) := by rw [← hA]; exact putsA_at 3 _ (by decide +kernel)
            have e15 : A_.tmps[15]? = some (x 5) := by rw [← hA]; exact putsA_in (i := 5) 15 (by rfl) (by show (15 : Nat) < 22; decide) _ (by decide +kernel) (by decide)
            have f5 : x 5 = .bool false := ft_val (hd 5 (by decide)) (fun _ _ _ => rfl)
            rw [f5] at e15
            clear hA hd
            refine wpOp_step rfl (fun K' hK' => ?_)
            go_simp
            exact hK' _ _ (hK _ _ ⟨0, 0, 0, rfl, al0⟩ (Below.refl _ _) no_al)
          · generalize hA : putsA _ _ x [0, 1, 2, 3, 4, 5, 6, 7, 8, 9, 10] = A_ at *
            have e16 : A_.tmps[16]? = some (x 6) := by rw [← hA]; exact putsA_in (i := 6) 16 (by rfl) (by show (16 : Nat) < 22; decide) _ (by decide +kernel) (by decide)
            have f6 : x 6 = .int .i64 z := ft_val (hd 6 (by decide)) (fun _ _ _ => rfl)
            rw [f6] at e16
            have e15 : A_.tmps[15]? = some (x 5) := by rw [← hA]; exact putsA_in (i := 5) 15 (by rfl) (by show (15 : Nat) < 22; decide) _ (by decide +kernel) (by decide)
            have f5 : x 5 = .bool false := ft_val (hd 5 (by decide)) (fun _ _ _ => rfl)
            rw [f5] at e15
            clear hA hd
            refine wpOp_step rfl (fun K' hK' => ?_)
            go_simp
            exact hK' _ _ (hK _ _ ⟨0, 0, 0, rfl, al0⟩ (Below.refl _ _) no_al)
          · generalize hA : putsA _ _ x [0, 1, 2, 3, 4, 5, 6, 7, 8, 9, 10] = A_ at *
            have e15 : A_.tmps[15]? = some (x 5) := by rw [← hA]; exact putsA_in (i := 5) 15 (by rfl) (by show (15 : Nat) < 22; decide) _ (by decide +kernel) (by decide)
            have f5 : x 5 = .bool false := ft_val (hd 5 (by decide)) (fun _ _ _ => rfl)
            rw [f5] at e15
            have e17 : A_.tmps[17]? = some (x 7) := by rw [← hA]; exact putsA_in (i := 7) 17 (by rfl) (by show (17 : Nat) < 22; decide) _ (by decide +kernel) (by decide)
            have f7 : x 7 = .bool false := ft_val (hd 7 (by decide)) (fun _ _ _ => rfl)
            rw [f7] at e17
            clear hA hd
            refine wpOp_step rfl (fun K' hK' => ?_)
            go_simp
            exact hK' _ _ (hK _ _ ⟨0, 0, 0, rfl, al0⟩ (Below.refl _ _) no_al)
          · generalize hA : putsA _ _ x [0, 1, 2, 3, 4, 5, 6, 7, 8, 9, 10] = A_ at *
            have e10 : A_.tmps[10]? = some (x 0) := by rw [← hA]; exact putsA_in (i := 0) 10 (by rfl) (by show (10 : Nat) < 22; decide) _ (by decide +kernel) (by decide)
            have f0 : x 0 = lp q := ft_val (hd 0 (by decide)) (fun _ _ _ => rfl)
            rw [f0] at e10
            clear hA hd
            refine wpOp_step rfl (fun K' hK' => ?_)
            go_simp
            exact hK' _ _ (hK _ _ ⟨0, 0, 0, rfl, al0⟩ (Below.refl _ _) no_al)
          · generalize hA : putsA _ _ x [0, 1, 2, 3, 4, 5, 6, 7, 8, 9, 10] = A_ at *
            have e19 : A_.tmps[19]? = some (x 9) := by rw [← hA]; exact putsA_in (i := 9) 19 (by rfl) (by show (19 : Nat) < 22; decide) _ (by decide +kernel) (by decide)
            have f9 : x 9 = lp q := ft_val (hd 9 (by decide)) (fun _ _ _ => rfl)
            rw [f9] at e19
            clear hA hd
            refine wpOp_step rfl (fun K' hK' => ?_)
            go_simp
            exact hK' _ _ (hK _ _ ⟨0, 0, 0, rfl, al0⟩ (Below.refl _ _) no_al)
        case hend =>
          intro x W hf hg hb
          obtain ⟨y0, y1, -⟩ := HC2.out W hb
          have f0 : x 0 = lp q := ft_val (hf 0 (by decide)) (fun _ _ _ => rfl)
          have f1 : x 1 = lp q := ft_val (hf 1 (by decide)) (fun _ _ _ => rfl)
          have f2 : x 2 = lp q := ft_val (hf 2 (by decide)) (fun _ _ _ => rfl)
          have f3 : x 3 = .pointer (some ⟨q, 8, none⟩) := ft_val (hf 3 (by decide)) (fun _ _ _ => rfl)
          have f4 : x 4 = .bool false := ft_val (hf 4 (by decide)) (fun _ _ _ => rfl)
          have f5 : x 5 = .bool false := ft_val (hf 5 (by decide)) (fun _ _ _ => rfl)
          have f6 : x 6 = .int .i64 z := ft_val (hf 6 (by decide)) (fun _ _ _ => rfl)
          have f7 : x 7 = .bool false := ft_val (hf 7 (by decide)) (fun _ _ _ => rfl)
          have f8 : x 8 = .bool false := ft_val (hf 8 (by decide)) (fun _ _ _ => rfl)
          have f9 : x 9 = lp q := ft_val (hf 9 (by decide)) (fun _ _ _ => rfl)
          have f10 : x 10 = .pointer (some ⟨q, 8, none⟩) := ft_val (hf 10 (by decide)) (fun _ _ _ => rfl)
          rw [putsA_lit _ _ [0, 1, 2, 3, 4, 5, 6, 7, 8, 9, 10] ((10, 0) :: (11, 1) :: (12, 2) :: (13, 3) :: (14, 4) :: (15, 5) :: (16, 6) :: (17, 7) :: (18, 8) :: (19, 9) :: (20, 10) :: []) (by kernel_rfl)]
          simp only [setAll, ↓reduceIte, Nat.reduceAdd, Nat.reduceEqDiff]
          rw [f0, f1, f2, f3, f4, f5, f6, f7, f8, f9, f10]
          clear hf hg f0 f1 f2 f3 f4 f5 f6 f7 f8 f9 f10
          obtain ⟨-, -, fr8⟩ := HC2.out W hb
          have HF2 := Lib.hid (HFIN.out W hb _ HT.out)
          clear HFIN HC2
          refine wpAny_ready (rs := [11]) (by kernel_rfl) (by simp) ?_
          refine AllReady.cons rfl (fun K hK => ?_) AllReady.nil
          go_simp
          refine hK _ _ ?_
          clear hK K fr8
          refine wpAny_done (by kernel_rfl) ?_ _
          refine NoPanic.normal ?_
          go_wp2
          go_ret
          exact ⟨rfl, by have h := HF2.out; first | exact h | (rw [← HT.out] at h; exact h) | (rw [HT.out]; exact h)⟩
end Go.Proofs.Ythipaabjmlgjmaa
namespace Go.Proofs.Ythipaabjmlgjmaa
open Go.RowKit Go Go.Maps
set_option linter.unusedVariables false
set_option linter.unusedSimpArgs false
set_option maxRecDepth 100000 in
set_option maxHeartbeats 4000000 in
theorem sm_step {S : Nat → Prop} {g q k0 : Nat} {d : Dk} {N : Nat} {l : Lg} {w : World} (h : LgS w S g q d N l) (hN : N + 1 ≤ 1000000) (b0 : PtrBlk w k0 q) :
    Calls Try.prog 46 #[lp k0] w fun e w' => e = .returned (.int .i64 (spD .sm d l).2) ∧ LgR w S g q (spD .sm d l).1.1 (N + 1) (spD .sm d l).1.2 w' := by
  obtain ⟨Sd, A, c, hm⟩ := h
  obtain ⟨d0, -⟩ := lg_cells hm
  have y0 : w.cell? ⟨k0, 0, none⟩ = some (lp q) := b0.cell 0
  have HM := Lib.hid hm
  have HS := Lib.hid (sync_any Sd g d N hN 0 w hm.dk)
  unfold spD
  simp only
  clear hm b0
  go_enter Try.func46, Try.ntmps46
  go_wp2_with fail
  refine (HS.out).mono ?_
  rintro e w1 ⟨rfl, hr⟩
  have hL := lgR_dk HM.out hr
  go_wp2
  go_ret
  exact ⟨rfl, hL⟩
set_option maxRecDepth 100000 in
set_option maxHeartbeats 4000000 in
theorem cut_step {S : Nat → Prop} {g q : Nat} {d : Dk} {N : Nat} {l : Lg} {w : World} (h : LgS w S g q d N l) (hN : N + 1 ≤ 1000000) :
    Calls Try.prog 45 #[lp q] w fun e w' => e = .returned (.int .i64 (spD .cut d l).2) ∧ LgR w S g q (spD .cut d l).1.1 (N + 1) (spD .cut d l).1.2 w' := by
  have HU := Lib.hid (lgR_refl (lgS_up h hN))
  obtain ⟨Sd, A, c, hm⟩ := h
  obtain ⟨d0, -, -, d3, -⟩ := lg_cells hm
  have HM := Lib.hid hm
  have HPB := Lib.hid hm.ub.2.2.1
  have hPI : (l.P : Int) ≤ 256 := by have := hm.ub.2.2.1; omega
  have hw1 : IntKind.i64.wrap ((l.P : Int) + 1) = (l.P : Int) + 1 := by rw [IntKind.wrap_i64]; omega
  have HPA := Lib.hid (pageAt_any ((l.P : Int) + 1) w (by omega) (by omega))
  rw [show ((l.P : Int) + 1 - 1) * 8 = (l.P : Int) * 8 by omega] at HPA
  have HSZ := Lib.hid (size_any Sd g d N 0 w hm.dk)
  have HS := Lib.hid (cut_any Sd g d N hN 0 ((l.P : Int) * 8) w hm.dk)
  unfold spD
  simp only
  clear hm
  by_cases hlt : (l.P : Int) * 8 < sizeD d 0
  · rw [if_pos hlt]
    go_enter Try.func45, Try.ntmps45
    go_wp2_with fail
    refine (HPA.out).mono ?_
    rintro e w1 ⟨rfl, rfl⟩
    go_wp2_with fail
    refine (HSZ.out).mono ?_
    rintro e w1 ⟨rfl, rfl⟩
    go_wp2_with fail
    refine (HS.out).mono ?_
    rintro e w1 ⟨rfl, hr⟩
    have hL := lgR_dk HM.out hr
    go_wp2
    go_ret
    exact ⟨rfl, hL⟩
  · rw [if_neg hlt]
    go_enter Try.func45, Try.ntmps45
    go_wp2_with fail
    refine (HPA.out).mono ?_
    rintro e w1 ⟨rfl, rfl⟩
    go_wp2_with fail
    refine (HSZ.out).mono ?_
    rintro e w1 ⟨rfl, rfl⟩
    go_wp2
    go_ret
    exact ⟨rfl, HU.out⟩
/-- the value that stands for a step -/
def SpV (w : World) (S : Nat → Prop) (q : Nat) : Sp → Value → Prop
  | .wr f a s, v => s.size ≤ 140737488351232 ∧ ∃ k0 k1 k2 k3, v = .func (.func 74) #[] #[lp k0, lp k1, lp k2, lp k3] ∧ PtrBlk w k0 q ∧ Blk w k1 3 #[.int .i64 f] ∧ Blk w k2 3 #[.int .i64 a] ∧ Blk w k3 9 #[.string s] ∧ ¬ S k0 ∧ ¬ S k1 ∧ ¬ S k2 ∧ ¬ S k3
  | .sy, v => v = .func (.func 41) #[lp q] #[]
  | .lay s, v => s.size ≤ 140737488351232 ∧ ∃ k0 k1, v = .func (.func 75) #[] #[lp k0, lp k1] ∧ PtrBlk w k0 q ∧ Blk w k1 9 #[.string s] ∧ ¬ S k0 ∧ ¬ S k1
  | .cut, v => v = .func (.func 45) #[lp q] #[]
  | .sm, v => ∃ k0, v = .func (.func 46) #[] #[lp k0] ∧ PtrBlk w k0 q ∧ ¬ S k0
theorem not_new {w : World} {S S' : Nat → Prop} {k : Nat} {t : TypeId} {cs : Array Value} (hs : ∀ b, S' b → S b ∨ w.heap.size ≤ b) (hk : ¬ S k) (hb : Blk w k t cs) : ¬ S' k := fun e => (hs k e).elim hk (fun h => by have := hb.lt; omega)
theorem spV_fr {w w' : World} {S S' : Nat → Prop} {q : Nat} (hf : Fr S w w') (hs : ∀ b, S' b → S b ∨ w.heap.size ≤ b) : ∀ (sp : Sp) (v : Value), SpV w S q sp v → SpV w' S' q sp v
  | .wr f a s, v, ⟨h0, k0, k1, k2, k3, hv, h1, h2, h3, h4, n1, n2, n3, n4⟩ => ⟨h0, k0, k1, k2, k3, hv, fr_blk hf h1 n1, fr_blk hf h2 n2, fr_blk hf h3 n3, fr_blk hf h4 n4, not_new hs n1 h1, not_new hs n2 h2, not_new hs n3 h3, not_new hs n4 h4⟩
  | .sy, v, h => h
  | .lay s, v, ⟨h0, k0, k1, hv, h1, h2, n1, n2⟩ => ⟨h0, k0, k1, hv, fr_blk hf h1 n1, fr_blk hf h2 n2, not_new hs n1 h1, not_new hs n2 h2⟩
  | .cut, v, h => h
  | .sm, v, ⟨k0, hv, h1, n1⟩ => ⟨k0, hv, fr_blk hf h1 n1, not_new hs n1 h1⟩
def offL (l : Lg) (b : Bool) : Lg := { l with off := b }
theorem lgAt_off {w : World} {S Sd : Nat → Prop} {g q : Nat} {A : Option Addr} {c : Nat} {d : Dk} {N : Nat} {l : Lg} (h : LgAt w S Sd g q A c d N l) (b : Bool) : LgAt (w.setCell ⟨q, 9, none⟩ (.bool b)) S Sd g q A c d N (offL l b) :=
  lgAt_set h 9 (.bool b) rfl rfl h.fit ⟨h.ub.1, h.ub.2.1, h.ub.2.2.1⟩
/-- steps are done until one fails -/
def doneD : List Sp → Dk → Lg → (Dk × Lg) × Int
  | [], d, l => ((d, l), 0)
  | sp :: r, d, l => if (spD sp d l).2 = 0 then doneD r (spD sp d l).1.1 (spD sp d l).1.2 else (((spD sp d l).1.1, offL (spD sp d l).1.2 ((spD sp d l).1.2.off || decide ((spD sp d l).2 = 32))), (spD sp d l).2)
/-- the slice of the steps -/
def SpsAt (w : World) (S : Nat → Prop) (q : Nat) (A : Option Addr) (l : List Sp) : Prop :=
  l = [] ∨ ∃ b o t cs, A = some ⟨b, o, none⟩ ∧ ¬ S b ∧ w.heap[b]? = some (.cells cs t (0, 0)) ∧ ∀ (j : Nat) sp, l[j]? = some sp → ∃ v, cs[o + j]? = some v ∧ SpV w S q sp v
theorem spsAt_fr {w w' : World} {S S' : Nat → Prop} {q : Nat} {A : Option Addr} {l : List Sp} (h : SpsAt w S q A l) (hf : Fr S w w') (hs : ∀ b, S' b → S b ∨ w.heap.size ≤ b) : SpsAt w' S' q A l := by
  rcases h with h | ⟨b, o, t, cs, hA, hn, hb, hc⟩
  · exact .inl h
  · have hB : Blk w b t cs := hb
    refine .inr ⟨b, o, t, cs, hA, not_new hs hn hB, fr_blk hf hB hn, fun j sp hj => ?_⟩
    obtain ⟨v, h1, h2⟩ := hc j sp hj
    exact ⟨v, h1, spV_fr hf hs sp v h2⟩
theorem sps_get {w : World} {S : Nat → Prop} {q : Nat} {A : Option Addr} {l : List Sp} (h : SpsAt w S q A l) {j : Nat} {sp : Sp} (hj : l[j]? = some sp) : ∃ b o v, A = some ⟨b, o, none⟩ ∧ w.cell? ⟨b, o + j, none⟩ = some v ∧ SpV w S q sp v := by
  rcases h with h | ⟨b, o, t, cs, hA, hn, hb, hc⟩
  · rw [h] at hj; simp at hj
  · obtain ⟨v, h1, h2⟩ := hc j sp hj
    have hB : Blk w b t cs := hb
    exact ⟨b, o, v, hA, (hB.cell (o + j)).trans h1, h2⟩
theorem lgS_to {w : World} {S : Nat → Prop} {g q : Nat} {d : Dk} {N : Nat} {l : Lg} (h : LgS w S g q d N l) : ∀ k : Nat, N + k ≤ 1000000 → LgS w S g q d (N + k) l
  | 0, _ => h
  | k + 1, hk => lgS_up (lgS_to h k (by omega)) (by omega)
theorem lgR_to {w w' : World} {S : Nat → Prop} {g q : Nat} {d : Dk} {N N' : Nat} {l : Lg} (h : LgR w S g q d N l w') (h1 : N ≤ N') (h2 : N' ≤ 1000000) : LgR w S g q d N' l w' := by
  obtain ⟨S', hS, f, s⟩ := h
  have := lgS_to hS (N' - N) (by omega)
  rw [show N + (N' - N) = N' by omega] at this
  exact ⟨S', this, f, s⟩
set_option maxRecDepth 100000 in
set_option maxHeartbeats 16000000 in
theorem wdone_any {S : Nat → Prop} {g q : Nat} {d : Dk} {N : Nat} {l : Lg} {w : World} (h : LgS w S g q d N l) (A : Option Addr) (n c : Nat) (sps : List Sp) (hA : SpsAt w S q A sps) (hn : n = sps.length) (hN : N + n ≤ 1000000) :
    Calls Try.prog 42 #[lp q, .slice A n c] w fun e w' => e = .returned (.int .i64 (doneD sps d l).2) ∧ LgR w S g q (doneD sps d l).1.1 (N + n) (doneD sps d l).1.2 w' := by
  have HL := Lib.hid h
  have HA := Lib.hid hA
  have HN := Lib.hid hn
  have hnI : (n : Int) ≤ 1000000 := by omega
  obtain ⟨DD, hDD⟩ : ∃ DD, doneD sps d l = DD := ⟨_, rfl⟩
  rw [hDD]
  have HDD := Lib.hid hDD
  clear h hA hn hDD
  go_enter Try.func42, Try.ntmps42
  go_wp2_with fail
  go_loopw [10] (fun i W => ∃ j d1 l1, j ≤ n ∧ i = .int .i64 j ∧ LgR w S g q d1 (N + j) l1 W ∧ DD = doneD (sps.drop j) d1 l1) (fun i _ => n - (intOf i).toNat)
  case atStart => exact ⟨0, d, l, Nat.zero_le _, rfl, lgR_refl HL.out, HDD.out.symm⟩
  case round =>
    obtain ⟨j, d1, l1, hj, rfl, hR, hD⟩ := hrel
    have HR := Lib.hid hR
    have HD := Lib.hid hD
    clear hR hD
    by_cases hjn : j < n
    rotate_left
    · obtain rfl : j = n := by omega
      have hD0 : DD = ((d1, l1), 0) := by rw [HD.out, List.drop_of_length_le (by have := HN.out; omega)]; rfl
      clear HD HA HDD
      subst hD0
      go_wp2
      go_ret
      exact ⟨rfl, HR.out⟩
    · have hlt : j < sps.length := by have := HN.out; omega
      have hjI : (j : Int) < n := by omega
      obtain ⟨sp, hsp⟩ : ∃ sp, sps[j]? = some sp := ⟨_, List.getElem?_eq_getElem hlt⟩
      obtain ⟨S1, hS1, f1, s1⟩ := HR.out
      obtain ⟨b, o, v, rfl, hcell, hv⟩ := sps_get (spsAt_fr HA.out f1 s1) hsp
      have hdrop : sps.drop j = sp :: sps.drop (j + 1) := by
        rw [List.drop_eq_getElem_cons hlt]
        congr 1
        rw [List.getElem?_eq_getElem hlt] at hsp
        exact Option.some.inj hsp
      have HD2 := Lib.hid (show DD = _ from by rw [HD.out, hdrop, doneD])
      have H1 := Lib.hid hS1
      have HST := Lib.hid (show ∀ d2 l2 W', LgR wr S1 g q d2 (N + j + 1) l2 W' → LgR w S g q d2 (N + (j + 1)) l2 W' from fun d2 l2 W' hw => by
        obtain ⟨S2, h2, f2, s2⟩ := hw
        refine ⟨S2, h2, fr_trans f1 f2 s1, fun b hb => ?_⟩
        rcases s2 b hb with hb | hb
        · exact s1 b hb
        · exact .inr (Nat.le_trans f1.size hb))
      have hN1 : N + j + 1 ≤ 1000000 := by omega
      clear hsp hdrop f1 s1 HR HD hS1
      cases sp with
      | wr f a s =>
        obtain ⟨hz, k0, k1, k2, k3, rfl, b0, b1, b2, b3, -⟩ := hv
        have HCALL := Lib.hid (write_step H1.out hN1 hz b0 b1 b2 b3)
        clear b0 b1 b2 b3 hz
        generalize spD (.wr f a s) d1 l1 = R at *
        obtain ⟨⟨d2, l2⟩, z⟩ := R
        simp only at HCALL HD2
        go_wp2_with fail
        refine (HCALL.out).mono ?_
        rintro e w1 ⟨rfl, hr⟩
        have HR2 := Lib.hid (HST.out d2 l2 w1 hr)
        clear hr HST HCALL H1 hcell
        by_cases hz0 : z = 0
        · subst hz0
          go_wp2
          go_roundw
          case rel => exact ⟨j + 1, d2, l2, by omega, by go_num, HR2.out, HD2.out.trans (by simp)⟩
          case measure => simp [intOf]; omega
        · have hzb : (z != 0) = true := by simp [hz0]
          have hDD : DD = ((d2, offL l2 (l2.off || decide (z = 32))), z) := by rw [HD2.out, if_neg hz0]
          have hR3 := lgR_to HR2.out (show N + (j + 1) ≤ N + n by omega) hN
          obtain ⟨S3, ⟨Sd3, A3, c3, h3⟩, f3, s3⟩ := hR3
          obtain ⟨-, -, -, -, -, -, -, -, -, e9⟩ := lg_cells h3
          have fr9 := h3.blk.frozen 9
          have HFIN := Lib.hid (show ∀ b : Bool, b = (l2.off || decide (z = 32)) → LgR w S g q DD.1.1 (N + n) DD.1.2 (w1.setCell ⟨q, 9, none⟩ (.bool b)) from fun b hb => by
            subst hb
            rw [hDD]
            exact ⟨S3, ⟨Sd3, A3, c3, lgAt_off h3 _⟩, fr_set f3 (p := ⟨q, 9, none⟩) (s3 q h3.sq) _, s3⟩)
          have HZ := Lib.hid (show DD.2 = z from by rw [hDD])
          clear hDD h3 f3 s3 HR2 HD2 HDD HL HA HN hz0
          cases ho : l2.off with
          | true =>
            have HT := Lib.hid (show true = (l2.off || decide (z = 32)) by rw [ho]; rfl)
            rw [ho] at e9
            clear ho
            go_wp2
            go_ret
            exact ⟨by rw [HZ.out]; rfl, HFIN.out _ HT.out⟩
          | false =>
            rw [ho] at e9
            by_cases h32 : z = 32
            · have HT := Lib.hid (show true = (l2.off || decide (z = 32)) by rw [ho, decide_eq_true h32]; rfl)
              subst h32
              clear ho
              go_wp2
              go_ret
              exact ⟨by rw [HZ.out]; rfl, HFIN.out _ HT.out⟩
            · have HT := Lib.hid (show false = (l2.off || decide (z = 32)) by rw [ho, decide_eq_false h32]; rfl)
              have hzb2 : (z == 32) = false := by simp [h32]
              clear ho h32
              go_wp2
              go_ret
              exact ⟨by rw [HZ.out]; rfl, HFIN.out _ HT.out⟩
      | sy =>
        obtain rfl := hv
        have HCALL := Lib.hid (sync_step H1.out hN1)
        generalize spD .sy d1 l1 = R at *
        obtain ⟨⟨d2, l2⟩, z⟩ := R
        simp only at HCALL HD2
        go_wp2_with fail
        refine (HCALL.out).mono ?_
        rintro e w1 ⟨rfl, hr⟩
        have HR2 := Lib.hid (HST.out d2 l2 w1 hr)
        clear hr HST HCALL H1 hcell
        by_cases hz0 : z = 0
        · subst hz0
          go_wp2
          go_roundw
          case rel => exact ⟨j + 1, d2, l2, by omega, by go_num, HR2.out, HD2.out.trans (by simp)⟩
          case measure => simp [intOf]; omega
        · have hzb : (z != 0) = true := by simp [hz0]
          have hDD : DD = ((d2, offL l2 (l2.off || decide (z = 32))), z) := by rw [HD2.out, if_neg hz0]
          have hR3 := lgR_to HR2.out (show N + (j + 1) ≤ N + n by omega) hN
          obtain ⟨S3, ⟨Sd3, A3, c3, h3⟩, f3, s3⟩ := hR3
          obtain ⟨-, -, -, -, -, -, -, -, -, e9⟩ := lg_cells h3
          have fr9 := h3.blk.frozen 9
          have HFIN := Lib.hid (show ∀ b : Bool, b = (l2.off || decide (z = 32)) → LgR w S g q DD.1.1 (N + n) DD.1.2 (w1.setCell ⟨q, 9, none⟩ (.bool b)) from fun b hb => by
            subst hb
            rw [hDD]
            exact ⟨S3, ⟨Sd3, A3, c3, lgAt_off h3 _⟩, fr_set f3 (p := ⟨q, 9, none⟩) (s3 q h3.sq) _, s3⟩)
          have HZ := Lib.hid (show DD.2 = z from by rw [hDD])
          clear hDD h3 f3 s3 HR2 HD2 HDD HL HA HN hz0
          cases ho : l2.off with
          | true =>
            have HT := Lib.hid (show true = (l2.off || decide (z = 32)) by rw [ho]; rfl)
            rw [ho] at e9
            clear ho
            go_wp2
            go_ret
            exact ⟨by rw [HZ.out]; rfl, HFIN.out _ HT.out⟩
          | false =>
            rw [ho] at e9
            by_cases h32 : z = 32
            · have HT := Lib.hid (show true = (l2.off || decide (z = 32)) by rw [ho, decide_eq_true h32]; rfl)
              subst h32
              clear ho
              go_wp2
              go_ret
              exact ⟨by rw [HZ.out]; rfl, HFIN.out _ HT.out⟩
            · have HT := Lib.hid (show false = (l2.off || decide (z = 32)) by rw [ho, decide_eq_false h32]; rfl)
              have hzb2 : (z == 32) = false := by simp [h32]
              clear ho h32
              go_wp2
              go_ret
              exact ⟨by rw [HZ.out]; rfl, HFIN.out _ HT.out⟩
      | lay s =>
        obtain ⟨hz, k0, k1, rfl, b0, b1, n0, -⟩ := hv
        have HCALL := Lib.hid (lay_step H1.out hN1 hz b0 b1 n0)
        clear b0 b1 n0 hz
        generalize spD (.lay s) d1 l1 = R at *
        obtain ⟨⟨d2, l2⟩, z⟩ := R
        simp only at HCALL HD2
        go_wp2_with fail
        refine (HCALL.out).mono ?_
        rintro e w1 ⟨rfl, hr⟩
        have HR2 := Lib.hid (HST.out d2 l2 w1 hr)
        clear hr HST HCALL H1 hcell
        by_cases hz0 : z = 0
        · subst hz0
          go_wp2
          go_roundw
          case rel => exact ⟨j + 1, d2, l2, by omega, by go_num, HR2.out, HD2.out.trans (by simp)⟩
          case measure => simp [intOf]; omega
        · have hzb : (z != 0) = true := by simp [hz0]
          have hDD : DD = ((d2, offL l2 (l2.off || decide (z = 32))), z) := by rw [HD2.out, if_neg hz0]
          have hR3 := lgR_to HR2.out (show N + (j + 1) ≤ N + n by omega) hN
          obtain ⟨S3, ⟨Sd3, A3, c3, h3⟩, f3, s3⟩ := hR3
          obtain ⟨-, -, -, -, -, -, -, -, -, e9⟩ := lg_cells h3
          have fr9 := h3.blk.frozen 9
          have HFIN := Lib.hid (show ∀ b : Bool, b = (l2.off || decide (z = 32)) → LgR w S g q DD.1.1 (N + n) DD.1.2 (w1.setCell ⟨q, 9, none⟩ (.bool b)) from fun b hb => by
            subst hb
            rw [hDD]
            exact ⟨S3, ⟨Sd3, A3, c3, lgAt_off h3 _⟩, fr_set f3 (p := ⟨q, 9, none⟩) (s3 q h3.sq) _, s3⟩)
          have HZ := Lib.hid (show DD.2 = z from by rw [hDD])
          clear hDD h3 f3 s3 HR2 HD2 HDD HL HA HN hz0
          cases ho : l2.off with
          | true =>
            have HT := Lib.hid (show true = (l2.off || decide (z = 32)) by rw [ho]; rfl)
            rw [ho] at e9
            clear ho
            go_wp2
            go_ret
            exact ⟨by rw [HZ.out]; rfl, HFIN.out _ HT.out⟩
          | false =>
            rw [ho] at e9
            by_cases h32 : z = 32
            · have HT := Lib.hid (show true = (l2.off || decide (z = 32)) by rw [ho, decide_eq_true h32]; rfl)
              subst h32
              clear ho
              go_wp2
              go_ret
              exact ⟨by rw [HZ.out]; rfl, HFIN.out _ HT.out⟩
            · have HT := Lib.hid (show false = (l2.off || decide (z = 32)) by rw [ho, decide_eq_false h32]; rfl)
              have hzb2 : (z == 32) = false := by simp [h32]
              clear ho h32
              go_wp2
              go_ret
              exact ⟨by rw [HZ.out]; rfl, HFIN.out _ HT.out⟩
      | cut =>
        obtain rfl := hv
        have HCALL := Lib.hid (cut_step H1.out hN1)
        generalize spD .cut d1 l1 = R at *
        obtain ⟨⟨d2, l2⟩, z⟩ := R
        simp only at HCALL HD2
        go_wp2_with fail
        refine (HCALL.out).mono ?_
        rintro e w1 ⟨rfl, hr⟩
        have HR2 := Lib.hid (HST.out d2 l2 w1 hr)
        clear hr HST HCALL H1 hcell
        by_cases hz0 : z = 0
        · subst hz0
          go_wp2
          go_roundw
          case rel => exact ⟨j + 1, d2, l2, by omega, by go_num, HR2.out, HD2.out.trans (by simp)⟩
          case measure => simp [intOf]; omega
        · have hzb : (z != 0) = true := by simp [hz0]
          have hDD : DD = ((d2, offL l2 (l2.off || decide (z = 32))), z) := by rw [HD2.out, if_neg hz0]
          have hR3 := lgR_to HR2.out (show N + (j + 1) ≤ N + n by omega) hN
          obtain ⟨S3, ⟨Sd3, A3, c3, h3⟩, f3, s3⟩ := hR3
          obtain ⟨-, -, -, -, -, -, -, -, -, e9⟩ := lg_cells h3
          have fr9 := h3.blk.frozen 9
          have HFIN := Lib.hid (show ∀ b : Bool, b = (l2.off || decide (z = 32)) → LgR w S g q DD.1.1 (N + n) DD.1.2 (w1.setCell ⟨q, 9, none⟩ (.bool b)) from fun b hb => by
            subst hb
            rw [hDD]
            exact ⟨S3, ⟨Sd3, A3, c3, lgAt_off h3 _⟩, fr_set f3 (p := ⟨q, 9, none⟩) (s3 q h3.sq) _, s3⟩)
          have HZ := Lib.hid (show DD.2 = z from by rw [hDD])
          clear hDD h3 f3 s3 HR2 HD2 HDD HL HA HN hz0
          cases ho : l2.off with
          | true =>
            have HT := Lib.hid (show true = (l2.off || decide (z = 32)) by rw [ho]; rfl)
            rw [ho] at e9
            clear ho
            go_wp2
            go_ret
            exact ⟨by rw [HZ.out]; rfl, HFIN.out _ HT.out⟩
          | false =>
            rw [ho] at e9
            by_cases h32 : z = 32
            · have HT := Lib.hid (show true = (l2.off || decide (z = 32)) by rw [ho, decide_eq_true h32]; rfl)
              subst h32
              clear ho
              go_wp2
              go_ret
              exact ⟨by rw [HZ.out]; rfl, HFIN.out _ HT.out⟩
            · have HT := Lib.hid (show false = (l2.off || decide (z = 32)) by rw [ho, decide_eq_false h32]; rfl)
              have hzb2 : (z == 32) = false := by simp [h32]
              clear ho h32
              go_wp2
              go_ret
              exact ⟨by rw [HZ.out]; rfl, HFIN.out _ HT.out⟩
      | sm =>
        obtain ⟨k0, rfl, b0, -⟩ := hv
        have HCALL := Lib.hid (sm_step H1.out hN1 b0)
        clear b0
        generalize spD .sm d1 l1 = R at *
        obtain ⟨⟨d2, l2⟩, z⟩ := R
        simp only at HCALL HD2
        go_wp2_with fail
        refine (HCALL.out).mono ?_
        rintro e w1 ⟨rfl, hr⟩
        have HR2 := Lib.hid (HST.out d2 l2 w1 hr)
        clear hr HST HCALL H1 hcell
        by_cases hz0 : z = 0
        · subst hz0
          go_wp2
          go_roundw
          case rel => exact ⟨j + 1, d2, l2, by omega, by go_num, HR2.out, HD2.out.trans (by simp)⟩
          case measure => simp [intOf]; omega
        · have hzb : (z != 0) = true := by simp [hz0]
          have hDD : DD = ((d2, offL l2 (l2.off || decide (z = 32))), z) := by rw [HD2.out, if_neg hz0]
          have hR3 := lgR_to HR2.out (show N + (j + 1) ≤ N + n by omega) hN
          obtain ⟨S3, ⟨Sd3, A3, c3, h3⟩, f3, s3⟩ := hR3
          obtain ⟨-, -, -, -, -, -, -, -, -, e9⟩ := lg_cells h3
          have fr9 := h3.blk.frozen 9
          have HFIN := Lib.hid (show ∀ b : Bool, b = (l2.off || decide (z = 32)) → LgR w S g q DD.1.1 (N + n) DD.1.2 (w1.setCell ⟨q, 9, none⟩ (.bool b)) from fun b hb => by
            subst hb
            rw [hDD]
            exact ⟨S3, ⟨Sd3, A3, c3, lgAt_off h3 _⟩, fr_set f3 (p := ⟨q, 9, none⟩) (s3 q h3.sq) _, s3⟩)
          have HZ := Lib.hid (show DD.2 = z from by rw [hDD])
          clear hDD h3 f3 s3 HR2 HD2 HDD HL HA HN hz0
          cases ho : l2.off with
          | true =>
            have HT := Lib.hid (show true = (l2.off || decide (z = 32)) by rw [ho]; rfl)
            rw [ho] at e9
            clear ho
            go_wp2
            go_ret
            exact ⟨by rw [HZ.out]; rfl, HFIN.out _ HT.out⟩
          | false =>
            rw [ho] at e9
            by_cases h32 : z = 32
            · have HT := Lib.hid (show true = (l2.off || decide (z = 32)) by rw [ho, decide_eq_true h32]; rfl)
              subst h32
              clear ho
              go_wp2
              go_ret
              exact ⟨by rw [HZ.out]; rfl, HFIN.out _ HT.out⟩
            · have HT := Lib.hid (show false = (l2.off || decide (z = 32)) by rw [ho, decide_eq_false h32]; rfl)
              have hzb2 : (z == 32) = false := by simp [h32]
              clear ho h32
              go_wp2
              go_ret
              exact ⟨by rw [HZ.out]; rfl, HFIN.out _ HT.out⟩
end Go.Proofs.Ythipaabjmlgjmaa
