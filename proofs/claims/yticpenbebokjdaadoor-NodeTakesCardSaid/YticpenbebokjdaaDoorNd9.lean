/- The reader: leafCell, innerCell. Conditions: those of each lemma. -/
import Derived.Test.YticpenbebokjdaaDoorNd8
namespace Go.Proofs.YticpenbebokjdaaDoor
open Go.RowKit Go
set_option linter.unusedVariables false
set_option linter.unusedSimpArgs false
def stp (s : ByteArray × Bool) (n : Nat) : ByteArray × (ByteArray × Bool) := ((textZ s.1 s.2 n).1, ((textZ s.1 s.2 n).2.1, (textZ s.1 s.2 n).2.2))
theorem stp_size (s : ByteArray × Bool) (n : Nat) : (stp s n).2.1.size ≤ s.1.size := by
  unfold stp textZ
  split
  · show (0 : Nat) ≤ _; omega
  · simp only [ByteArray.size_extract]; omega
theorem stp_val (s : ByteArray × Bool) (n : Nat) (hn : n ≤ 4) : valL (bts (stp s n).1) < 256 ^ n := by
  have h := valL_lt (bts (stp s n).1) (bts_lt _) n
  have hle : (bts (stp s n).1).length ≤ n := by
    rw [bts_length]
    unfold stp textZ
    split
    · show (0 : Nat) ≤ n; omega
    · simp only [ByteArray.size_extract]; omega
  rwa [List.take_of_length_le hle] at h
theorem text_v {B r : Nat} {s : ByteArray × Bool} {X : BL} {w : World} (n : Nat) (v : Int) (hv : v = (n : Int)) (h : Rk B r s.1 s.2 X w) (hl : s.1.size ≤ 100000) :
    Calls Tryd.prog 31 #[.pointer (some ⟨r, 0, none⟩), .int .i64 v] w fun e w' => e = .returned (.string (stp s n).1) ∧ Rk B r (stp s n).2.1 (stp s n).2.2 X w' ∧ Below B w w' := by
  subst hv
  exact text_any B r s.1 s.2 X n w h hl
theorem number_v {B r : Nat} {s : ByteArray × Bool} {X : BL} {w : World} (n : Nat) (v : Int) (hv : v = (n : Int)) (h : Rk B r s.1 s.2 X w) (hl : s.1.size ≤ 100000) (hn : n ≤ 4) :
    Calls Tryd.prog 27 #[.pointer (some ⟨r, 0, none⟩), .int .i64 v] w fun e w' => e = .returned (.int .i64 (valL (bts (stp s n).1) : Nat)) ∧ Rk B r (stp s n).2.1 (stp s n).2.2 X w' ∧ Below B w w' := by
  subst hv
  exact number_any B r s.1 s.2 X n w h hl hn
theorem rk_setc {B r : Nat} {left : ByteArray} {well : Bool} {X : BL} {W : World} {g : Nat} {t : TypeId} {cs : Array Value} (h : Rk B r left well ((g, t, cs) :: X) W) (hg : ∀ x ∈ X, x.1 ≠ g) (i : Nat) (u : Value) : Rk B r left well ((g, t, cs.setIfInBounds i u) :: X) (W.setCell ⟨g, i, none⟩ u) := by
  obtain ⟨h1, h2, h3⟩ := h
  have hgr := (h2 _ (List.mem_cons_self ..)).2
  refine ⟨h1.far (fun e => hgr e.symm) _, fun x hx => ?_, h3⟩
  rcases List.mem_cons.1 hx with rfl | hx
  · exact ⟨(h2 _ (List.mem_cons_self ..)).1.set_ i u, hgr⟩
  · exact ⟨(h2 _ (List.mem_cons_of_mem _ hx)).1.far (hg x hx) _, (h2 _ (List.mem_cons_of_mem _ hx)).2⟩
theorem rk_new {B r : Nat} {left : ByteArray} {well : Bool} {X : BL} {W : World} (h : Rk B r left well X W) : ∀ x ∈ X, x.1 ≠ W.heap.size := fun x hx => Nat.ne_of_lt (h.2.1 x hx).1.lt
theorem froz4 {W : World} {g : Nat} {t : TypeId} {cs : Array Value} (h : Blk W g t cs) : W.frozen? ⟨g, 0, none⟩ = false ∧ W.frozen? ⟨g, 1, none⟩ = false ∧ W.frozen? ⟨g, 2, none⟩ = false ∧ W.frozen? ⟨g, 3, none⟩ = false := ⟨h.frozen 0, h.frozen 1, h.frozen 2, h.frozen 3⟩
/-- what an inner page's next cell is -/
def rdInner (s : ByteArray × Bool) : Cl × (ByteArray × Bool) :=
  (⟨(stp (stp s 1).2 (valL (bts (stp s 1).1))).1, 0, ⟨#[]⟩, ((valL (bts (stp (stp (stp s 1).2 (valL (bts (stp s 1).1))).2 4).1) : Nat) : Int)⟩, (stp (stp (stp s 1).2 (valL (bts (stp s 1).1))).2 4).2)
set_option maxRecDepth 100000 in
set_option maxHeartbeats 8000000 in
theorem rinner_any (B r : Nat) (s : ByteArray × Bool) (X : BL) (w : World) (h : Rk B r s.1 s.2 X w) (hl : s.1.size ≤ 100000) :
    Calls Tryd.prog 30 #[.pointer (some ⟨r, 0, none⟩)] w fun e w' => e = .returned (clV (rdInner s).1) ∧ Rk B r (rdInner s).2.1 (rdInner s).2.2 X w' ∧ Below B w w' := by
  have HG := Lib.hid (rk_new h)
  have hBw : B ≤ w.heap.size := Nat.le_trans h.2.2 (Nat.le_of_lt h.1.lt)
  have HBW := Lib.hid hBw
  have HA := Lib.hid (rk_alloc h #[.string ⟨#[]⟩, .int .i64 0, .string ⟨#[]⟩, .int .i64 0] 30)
  have HB := Lib.hid ((Below.refl B w).alloc hBw (.cells #[.string ⟨#[]⟩, .int .i64 0, .string ⟨#[]⟩, .int .i64 0] 30))
  have HS := Lib.hid (And.intro hl (And.intro (stp_size s 1) (stp_size (stp s 1).2 (valL (bts (stp s 1).1)))))
  clear h hBw hl
  go_enter Tryd.func30, Tryd.ntmps30
  go_wp2_with fail
  refine (number_v 1 _ (by rfl) HA.out HS.out.1 (by omega)).mono ?_
  rintro e wa ⟨rfl, ha, hba⟩
  have HA1 := Lib.hid ha
  have HB1 := Lib.hid (HB.out.trans hba)
  clear ha hba HA HB
  go_wp2_with fail
  refine (text_v (s := (stp s 1).2) (valL (bts (stp s 1).1)) _ (by rfl) HA1.out (by have := HS.out; omega)).mono ?_
  rintro e wb ⟨rfl, hb, hbb⟩
  obtain ⟨c0, c1, c2, c3⟩ := cell4 (rk_get hb (.head _))
  obtain ⟨f0, f1, f2, f3⟩ := froz4 (rk_get hb (.head _))
  generalize hk : (stp (stp s 1).2 (valL (bts (stp s 1).1))).1 = K at *
  have hb2 : Rk B r _ _ ((w.heap.size, 30, #[.string K, .int .i64 0, .string ⟨#[]⟩, .int .i64 0]) :: X) (wb.setCell ⟨w.heap.size, 0, none⟩ (.string K)) := rk_setc hb HG.out 0 (.string K)
  have HA2 := Lib.hid hb2
  have HB2 := Lib.hid ((HB1.out.trans hbb).setCell (p := ⟨w.heap.size, 0, none⟩) HBW.out (.string K))
  have HK := Lib.hid hk
  clear hb hbb hb2 HA1 HB1 hk
  go_wp2_with fail
  refine (number_v (s := (stp (stp s 1).2 (valL (bts (stp s 1).1))).2) 4 _ (by rfl) HA2.out (by have := HS.out; omega) (by omega)).mono ?_
  rintro e wd ⟨rfl, hd, hbd⟩
  clear c0 c1 c2 c3 f0 f1 f2 f3
  obtain ⟨c0, c1, c2, c3⟩ := cell4 (rk_get hd (.head _))
  obtain ⟨f0, f1, f2, f3⟩ := froz4 (rk_get hd (.head _))
  generalize hp : valL (bts (stp (stp (stp s 1).2 (valL (bts (stp s 1).1))).2 4).1) = P at *
  have hd2 : Rk B r _ _ ((w.heap.size, 30, #[.string K, .int .i64 0, .string ⟨#[]⟩, .int .i64 (P : Int)]) :: X) (wd.setCell ⟨w.heap.size, 3, none⟩ (.int .i64 (P : Int))) := rk_setc hd HG.out 3 (.int .i64 (P : Int))
  have HA3 := Lib.hid hd2
  have HB3 := Lib.hid ((HB2.out.trans hbd).setCell (p := ⟨w.heap.size, 3, none⟩) HBW.out (.int .i64 (P : Int)))
  have HP := Lib.hid hp
  have HRD : Hid (rdInner s = (⟨K, 0, ⟨#[]⟩, (P : Int)⟩, (stp (stp (stp s 1).2 (valL (bts (stp s 1).1))).2 4).2)) := Lib.hid (by unfold rdInner; rw [HK.out, HP.out])

  clear hd hbd hd2 HA2 HB2 hp
  go_wp2
  obtain ⟨SL, SW, hsl⟩ : ∃ SL SW, (rdInner s).2 = (SL, SW) := ⟨_, _, rfl⟩
  have z3 : Rk B r SL SW ((w.heap.size, 30, #[.string K, .int .i64 (0), .string ⟨#[]⟩, .int .i64 (P : Int)]) :: X) _ := rk_setc (rk_setc (rk_setc (rk_setc (show Rk B r SL SW ((w.heap.size, 30, #[.string K, .int .i64 (0), .string ⟨#[]⟩, .int .i64 (P : Int)]) :: X) _ by have h := HA3.out; rw [show SL = (rdInner s).2.1 by rw [hsl], show SW = (rdInner s).2.2 by rw [hsl], HRD.out]; exact h) HG.out 0 (.string K)) HG.out 1 (.int .i64 (0))) HG.out 2 (.string ⟨#[]⟩)) HG.out 3 (.int .i64 (P : Int))
  obtain ⟨e0, e1, e2, e3⟩ := cell4 (rk_get z3 (.head _))
  rw [show (rdInner s).1 = ⟨K, 0, ⟨#[]⟩, (P : Int)⟩ by rw [HRD.out], hsl]
  exact bodyPost_ret (v := .agg #[.string K, .int .i64 (0), .string ⟨#[]⟩, .int .i64 (P : Int)]) (by simp [results, Tryd.results30, go_sem, e0, e1, e2, e3]) rfl ⟨rfl, rk_drop z3 (fun x hx => .tail _ hx), (((HB3.out.setCell (p := ⟨w.heap.size, 0, none⟩) HBW.out _).setCell (p := ⟨w.heap.size, 1, none⟩) HBW.out _).setCell (p := ⟨w.heap.size, 2, none⟩) HBW.out _).setCell (p := ⟨w.heap.size, 3, none⟩) HBW.out _⟩
/-- what a leaf's next cell is -/
def rdL3 (s : ByteArray × Bool) : ByteArray × (ByteArray × Bool) := stp (stp (stp s 1).2 (valL (bts (stp s 1).1))).2 2
def rdL4 (s : ByteArray × Bool) : ByteArray × (ByteArray × Bool) := stp (rdL3 s).2 (min (valL (bts (rdL3 s).1)) 100)
def rdLeaf (s : ByteArray × Bool) : Cl × (ByteArray × Bool) :=
  if 100 < valL (bts (rdL3 s).1) then (⟨(stp (stp s 1).2 (valL (bts (stp s 1).1))).1, ((valL (bts (rdL3 s).1) : Nat) : Int), (rdL4 s).1, ((valL (bts (stp (rdL4 s).2 4).1) : Nat) : Int)⟩, (stp (rdL4 s).2 4).2)
  else (⟨(stp (stp s 1).2 (valL (bts (stp s 1).1))).1, ((valL (bts (rdL3 s).1) : Nat) : Int), (rdL4 s).1, 0⟩, (rdL4 s).2)
set_option maxRecDepth 100000 in
set_option maxHeartbeats 8000000 in
theorem rleaf_any (B r : Nat) (s : ByteArray × Bool) (X : BL) (w : World) (h : Rk B r s.1 s.2 X w) (hl : s.1.size ≤ 100000) :
    Calls Tryd.prog 29 #[.pointer (some ⟨r, 0, none⟩)] w fun e w' => e = .returned (clV (rdLeaf s).1) ∧ Rk B r (rdLeaf s).2.1 (rdLeaf s).2.2 X w' ∧ Below B w w' := by
  have HG := Lib.hid (rk_new h)
  have hBw : B ≤ w.heap.size := Nat.le_trans h.2.2 (Nat.le_of_lt h.1.lt)
  have HBW := Lib.hid hBw
  have HA := Lib.hid (rk_alloc h #[.string ⟨#[]⟩, .int .i64 0, .string ⟨#[]⟩, .int .i64 0] 30)
  have HB := Lib.hid ((Below.refl B w).alloc hBw (.cells #[.string ⟨#[]⟩, .int .i64 0, .string ⟨#[]⟩, .int .i64 0] 30))
  have HS : Hid (s.1.size ≤ 100000 ∧ (stp s 1).2.1.size ≤ s.1.size ∧ (stp (stp s 1).2 (valL (bts (stp s 1).1))).2.1.size ≤ (stp s 1).2.1.size ∧ (rdL3 s).2.1.size ≤ (stp (stp s 1).2 (valL (bts (stp s 1).1))).2.1.size ∧ (rdL4 s).2.1.size ≤ (rdL3 s).2.1.size) := Lib.hid ⟨hl, stp_size _ _, stp_size _ _, stp_size _ _, stp_size _ _⟩
  have HZ := Lib.hid (stp_val (stp (stp s 1).2 (valL (bts (stp s 1).1))).2 2 (by omega))
  clear h hBw hl
  go_enter Tryd.func29, Tryd.ntmps29
  go_wp2_with fail
  refine (number_v 1 _ (by rfl) HA.out HS.out.1 (by omega)).mono ?_
  rintro e wa ⟨rfl, ha, hba⟩
  have HA1 := Lib.hid ha
  have HB1 := Lib.hid (HB.out.trans hba)
  clear ha hba HA HB
  go_wp2_with fail
  refine (text_v (s := (stp s 1).2) (valL (bts (stp s 1).1)) _ (by rfl) HA1.out (by have := HS.out; omega)).mono ?_
  rintro e wb ⟨rfl, hb, hbb⟩
  obtain ⟨c0, c1, c2, c3⟩ := cell4 (rk_get hb (.head _))
  obtain ⟨f0, f1, f2, f3⟩ := froz4 (rk_get hb (.head _))
  generalize hk : (stp (stp s 1).2 (valL (bts (stp s 1).1))).1 = K at *
  have hb2 : Rk B r _ _ ((w.heap.size, 30, #[.string K, .int .i64 0, .string ⟨#[]⟩, .int .i64 0]) :: X) (wb.setCell ⟨w.heap.size, 0, none⟩ (.string K)) := rk_setc hb HG.out 0 (.string K)
  have HA2 := Lib.hid hb2
  have HB2 := Lib.hid ((HB1.out.trans hbb).setCell (p := ⟨w.heap.size, 0, none⟩) HBW.out (.string K))
  have HK := Lib.hid hk
  clear hb hbb hb2 HA1 HB1 hk
  go_wp2_with fail
  refine (number_v (s := (stp (stp s 1).2 (valL (bts (stp s 1).1))).2) 2 _ (by rfl) HA2.out (by have := HS.out; omega) (by omega)).mono ?_
  rintro e wc ⟨rfl, hc, hbc⟩
  clear c0 c1 c2 c3 f0 f1 f2 f3
  obtain ⟨c0, c1, c2, c3⟩ := cell4 (rk_get hc (.head _))
  obtain ⟨f0, f1, f2, f3⟩ := froz4 (rk_get hc (.head _))
  have hz3 : valL (bts (stp (stp (stp s 1).2 (valL (bts (stp s 1).1))).2 2).1) = valL (bts (rdL3 s).1) := rfl
  have hzv := HZ.out
  rw [hz3] at hzv ⊢
  have hc' : Rk B r (rdL3 s).2.1 (rdL3 s).2.2 ((w.heap.size, 30, #[.string K, .int .i64 0, .string ⟨#[]⟩, .int .i64 0]) :: X) wc := hc
  generalize hz : valL (bts (rdL3 s).1) = Z at *
  have hzI : (Z : Int) ≤ 65535 := by omega
  have hc2 : Rk B r _ _ ((w.heap.size, 30, #[.string K, .int .i64 (Z : Int), .string ⟨#[]⟩, .int .i64 0]) :: X) (wc.setCell ⟨w.heap.size, 1, none⟩ (.int .i64 (Z : Int))) := rk_setc hc' HG.out 1 (.int .i64 (Z : Int))
  have HA3 := Lib.hid hc2
  have HB3 := Lib.hid ((HB2.out.trans hbc).setCell (p := ⟨w.heap.size, 1, none⟩) HBW.out (.int .i64 (Z : Int)))
  have HZZ := Lib.hid hz
  clear hc hc' hbc hc2 HA2 HB2 hz hz3 hzv HZ
  by_cases h100 : 100 < Z
  · have hd1 : decide (100 < Z) = true := decide_eq_true h100
    have hd3 : (100 : Int) < (Z : Int) := by omega
    go_wp2_with fail
    refine (text_v (s := (rdL3 s).2) (min Z 100) _ (by omega) HA3.out (by have := HS.out; omega)).mono ?_
    rintro e wd ⟨rfl, hd, hbd⟩
    clear c0 c1 c2 c3 f0 f1 f2 f3
    obtain ⟨c0, c1, c2, c3⟩ := cell4 (rk_get hd (.head _))
    obtain ⟨f0, f1, f2, f3⟩ := froz4 (rk_get hd (.head _))
    have h4 : stp (rdL3 s).2 (min Z 100) = rdL4 s := by unfold rdL4; rw [HZZ.out]
    rw [h4] at hd ⊢
    obtain ⟨LO, hlo⟩ : ∃ LO, (rdL4 s).1 = LO := ⟨_, rfl⟩
    rw [hlo]
    have hd2 : Rk B r _ _ ((w.heap.size, 30, #[.string K, .int .i64 (Z : Int), .string LO, .int .i64 0]) :: X) (wd.setCell ⟨w.heap.size, 2, none⟩ (.string LO)) := rk_setc hd HG.out 2 (.string LO)
    have HA4 := Lib.hid hd2
    have HB4 := Lib.hid ((HB3.out.trans hbd).setCell (p := ⟨w.heap.size, 2, none⟩) HBW.out (.string LO))
    have HLO := Lib.hid hlo
    clear hd hbd hd2 HA3 HB3 hlo h4
    go_wp2_with fail
    refine (number_v (s := (rdL4 s).2) 4 _ (by rfl) HA4.out (by have := HS.out; omega) (by omega)).mono ?_
    rintro e we ⟨rfl, he, hbe⟩
    clear c0 c1 c2 c3 f0 f1 f2 f3
    obtain ⟨c0, c1, c2, c3⟩ := cell4 (rk_get he (.head _))
    obtain ⟨f0, f1, f2, f3⟩ := froz4 (rk_get he (.head _))
    generalize hp : valL (bts (stp (rdL4 s).2 4).1) = P at *
    have he2 : Rk B r _ _ ((w.heap.size, 30, #[.string K, .int .i64 (Z : Int), .string LO, .int .i64 (P : Int)]) :: X) (we.setCell ⟨w.heap.size, 3, none⟩ (.int .i64 (P : Int))) := rk_setc he HG.out 3 (.int .i64 (P : Int))
    have HA3 := Lib.hid he2
    have HB3 := Lib.hid ((HB4.out.trans hbe).setCell (p := ⟨w.heap.size, 3, none⟩) HBW.out (.int .i64 (P : Int)))
    have HRD : Hid (rdLeaf s = (⟨K, (Z : Int), LO, (P : Int)⟩, (stp (rdL4 s).2 4).2)) := Lib.hid (by unfold rdLeaf; rw [HZZ.out, if_pos h100, HK.out, HLO.out, hp])
    clear he hbe he2 HA4 HB4 hp
    go_wp2
    obtain ⟨SL, SW, hsl⟩ : ∃ SL SW, (rdLeaf s).2 = (SL, SW) := ⟨_, _, rfl⟩
    have z3 : Rk B r SL SW ((w.heap.size, 30, #[.string K, .int .i64 ((Z : Int)), .string LO, .int .i64 (P : Int)]) :: X) _ := rk_setc (rk_setc (rk_setc (rk_setc (show Rk B r SL SW ((w.heap.size, 30, #[.string K, .int .i64 ((Z : Int)), .string LO, .int .i64 (P : Int)]) :: X) _ by have h := HA3.out; rw [show SL = (rdLeaf s).2.1 by rw [hsl], show SW = (rdLeaf s).2.2 by rw [hsl], HRD.out]; exact h) HG.out 0 (.string K)) HG.out 1 (.int .i64 ((Z : Int)))) HG.out 2 (.string LO)) HG.out 3 (.int .i64 (P : Int))
    obtain ⟨e0, e1, e2, e3⟩ := cell4 (rk_get z3 (.head _))
    rw [show (rdLeaf s).1 = ⟨K, (Z : Int), LO, (P : Int)⟩ by rw [HRD.out], hsl]
    exact bodyPost_ret (v := .agg #[.string K, .int .i64 ((Z : Int)), .string LO, .int .i64 (P : Int)]) (by simp [results, Tryd.results29, go_sem, e0, e1, e2, e3]) rfl ⟨rfl, rk_drop z3 (fun x hx => .tail _ hx), (((HB3.out.setCell (p := ⟨w.heap.size, 0, none⟩) HBW.out _).setCell (p := ⟨w.heap.size, 1, none⟩) HBW.out _).setCell (p := ⟨w.heap.size, 2, none⟩) HBW.out _).setCell (p := ⟨w.heap.size, 3, none⟩) HBW.out _⟩
  · have hd1 : decide (100 < Z) = false := decide_eq_false h100
    have hd3 : (Z : Int) ≤ 100 := by omega
    go_wp2_with fail
    refine (text_v (s := (rdL3 s).2) (min Z 100) _ (by omega) HA3.out (by have := HS.out; omega)).mono ?_
    rintro e wd ⟨rfl, hd, hbd⟩
    clear c0 c1 c2 c3 f0 f1 f2 f3
    obtain ⟨c0, c1, c2, c3⟩ := cell4 (rk_get hd (.head _))
    obtain ⟨f0, f1, f2, f3⟩ := froz4 (rk_get hd (.head _))
    have h4 : stp (rdL3 s).2 (min Z 100) = rdL4 s := by unfold rdL4; rw [HZZ.out]
    rw [h4] at hd ⊢
    obtain ⟨LO, hlo⟩ : ∃ LO, (rdL4 s).1 = LO := ⟨_, rfl⟩
    rw [hlo]
    have hd2 : Rk B r _ _ ((w.heap.size, 30, #[.string K, .int .i64 (Z : Int), .string LO, .int .i64 0]) :: X) (wd.setCell ⟨w.heap.size, 2, none⟩ (.string LO)) := rk_setc hd HG.out 2 (.string LO)
    have HA4 := Lib.hid hd2
    have HB4 := Lib.hid ((HB3.out.trans hbd).setCell (p := ⟨w.heap.size, 2, none⟩) HBW.out (.string LO))
    have HLO := Lib.hid hlo
    clear hd hbd hd2 HA3 HB3 hlo h4
    have HA3 := Lib.hid HA4.out
    have HB3 := Lib.hid HB4.out
    have HRD : Hid (rdLeaf s = (⟨K, (Z : Int), LO, 0⟩, (rdL4 s).2)) := Lib.hid (by unfold rdLeaf; rw [HZZ.out, if_neg h100, HK.out, HLO.out])
    clear HA4 HB4
    go_wp2
    obtain ⟨SL, SW, hsl⟩ : ∃ SL SW, (rdLeaf s).2 = (SL, SW) := ⟨_, _, rfl⟩
    have z3 : Rk B r SL SW ((w.heap.size, 30, #[.string K, .int .i64 ((Z : Int)), .string LO, .int .i64 0]) :: X) _ := rk_setc (rk_setc (rk_setc (rk_setc (show Rk B r SL SW ((w.heap.size, 30, #[.string K, .int .i64 ((Z : Int)), .string LO, .int .i64 0]) :: X) _ by have h := HA3.out; rw [show SL = (rdLeaf s).2.1 by rw [hsl], show SW = (rdLeaf s).2.2 by rw [hsl], HRD.out]; exact h) HG.out 0 (.string K)) HG.out 1 (.int .i64 ((Z : Int)))) HG.out 2 (.string LO)) HG.out 3 (.int .i64 0)
    obtain ⟨e0, e1, e2, e3⟩ := cell4 (rk_get z3 (.head _))
    rw [show (rdLeaf s).1 = ⟨K, (Z : Int), LO, 0⟩ by rw [HRD.out], hsl]
    exact bodyPost_ret (v := .agg #[.string K, .int .i64 ((Z : Int)), .string LO, .int .i64 0]) (by simp [results, Tryd.results29, go_sem, e0, e1, e2, e3]) rfl ⟨rfl, rk_drop z3 (fun x hx => .tail _ hx), (((HB3.out.setCell (p := ⟨w.heap.size, 0, none⟩) HBW.out _).setCell (p := ⟨w.heap.size, 1, none⟩) HBW.out _).setCell (p := ⟨w.heap.size, 2, none⟩) HBW.out _).setCell (p := ⟨w.heap.size, 3, none⟩) HBW.out _⟩
end Go.Proofs.YticpenbebokjdaaDoor
