/- slices.MinFunc and MaxFunc by value.Compare, eval.total, of lists of values. Conditions: those of each lemma. -/
import Derived.Test.YtkgpcodccpckeaaEv4
import Derived.Test.YtkgpcodccpckeaaValCmp
import Derived.Test.YtkgpcodccpckeaaEv16
import Derived.OrdersHeld
import Derived.Deep.RegionHeld3
namespace Go.Proofs.Ytkgpcodccpckeaa
open Go Go.RowKit
set_option linter.unusedVariables false
set_option linter.unusedSimpArgs false
def minF (m : Val) : List Val → Val
  | [] => m
  | x :: l => minF (if valCmp x m < 0 then x else m) l
def maxF (m : Val) : List Val → Val
  | [] => m
  | x :: l => maxF (if 0 < valCmp x m then x else m) l
def minL (l : List Val) : Val := minF (l.getD 0 (0, 0, ⟨#[]⟩)) (l.drop 1)
def maxL (l : List Val) : Val := maxF (l.getD 0 (0, 0, ⟨#[]⟩)) (l.drop 1)
/-- the blocks: the answer's, the one that is least so far -/
def Mn (w : World) (v : Val) (W : World) : Prop := Blk W w.heap.size 23 #[.int .u8 0, .int .i64 0, .string ⟨#[]⟩] ∧ Blk W (w.heap.size + 1) 23 (valC v) ∧ Below w.heap.size w W
theorem mn_step {w W W' : World} {v : Val} (h : Mn w v W) (hb : Below W.heap.size W W') : Mn w v W' := ⟨blk_step h.1 hb, blk_step h.2.1 hb, bj h.2.2 hb⟩
theorem mn_drew {w W : World} {v : Val} (h : Mn w v W) : Mn w v W.drew := ⟨h.1.drew, h.2.1.drew, h.2.2.drew⟩
theorem mn_new (w : World) (v : Val) : Mn w v ((w.alloc (.cells #[.int .u8 0, .int .i64 0, .string ⟨#[]⟩] 23)).alloc (.cells (valC v) 23)) := ⟨(Blk.new _ _ _).alloc _, blk_new _ _ _ _ (by simp), bj one_alloc one_alloc⟩
theorem mn_set {w W : World} {v : Val} (h : Mn w v W) (k q : Int) (s : ByteArray) : Mn w (k, q, s) (((W.setCell ⟨w.heap.size + 1, 0, none⟩ (.int .u8 k)).setCell ⟨w.heap.size + 1, 1, none⟩ (.int .i64 q)).setCell ⟨w.heap.size + 1, 2, none⟩ (.string s)) :=
  ⟨((h.1.far (by simp) _).far (by simp) _).far (by simp) _, blk3_set h.2.1 _ _ _, below3_at h.2.2 (by omega) _ _ _⟩
set_option maxRecDepth 100000 in
set_option maxHeartbeats 8000000 in
theorem minfunc_any (l : List Val) (b o m c : Nat) (w : World) (hm : m = l.length) (h0 : 0 < m) (hmx : m ≤ 100000) (hV : Vals w w.heap.size (some ⟨b, o, none⟩) l) :
    Calls Try.prog 58 #[.slice (some ⟨b, o, none⟩) m c, .func (.func 50) #[] #[]] w fun e w' => e = .returned (valV (minL l)) ∧ Below w.heap.size w w' := by
  obtain ⟨b', o', hA, hbl, hc⟩ := vals_get hV (fun e => by rw [e] at hm; simp at hm; omega)
  obtain ⟨rfl, rfl⟩ : b = b' ∧ o = o' := by simpa using hA
  have hl0 : 0 < l.length := by omega
  obtain ⟨x0, x1, x2⟩ := hc 0 l[0] (List.getElem?_eq_getElem hl0)
  simp only [Nat.zero_mul, Nat.add_zero] at x0 x1 x2
  have hst : minL l = minF l[0] (l.drop 1) := by unfold minL; rw [List.getD_eq_getElem?_getD, List.getElem?_eq_getElem hl0]; rfl
  rw [hst]
  obtain ⟨R, hR⟩ : ∃ R, minF l[0] (l.drop 1) = R := ⟨_, rfl⟩
  have HR := Lib.hid hR
  rw [hR]
  have hmn := mn_new w l[0]
  generalize l[0] = y at *
  obtain ⟨k, q, s⟩ := y
  have HMN := Lib.hid hmn
  have HC := Lib.hid hc
  have HBL := Lib.hid hbl
  have HN := Lib.hid hm
  have x0 := ((one_alloc (w := w) (o := .cells #[.int .u8 0, .int .i64 0, .string ⟨#[]⟩] 23)).cell (p := ⟨b, o, none⟩) hbl).trans x0
  have x1 := ((one_alloc (w := w) (o := .cells #[.int .u8 0, .int .i64 0, .string ⟨#[]⟩] 23)).cell (p := ⟨b, o + 1, none⟩) hbl).trans x1
  have x2 := ((one_alloc (w := w) (o := .cells #[.int .u8 0, .int .i64 0, .string ⟨#[]⟩] 23)).cell (p := ⟨b, o + 2, none⟩) hbl).trans x2
  have hmI : (m : Int) ≤ 100000 := by omega
  have h1I : ¬ ((m : Int) < 1) := by omega
  have h0I : (0 : Int) < m := by omega
  obtain ⟨R1, R2, R3⟩ := R
  clear hst hR hmn hc hbl hm h0 hmx hV hA hl0
  go_enter Try.func58, Try.ntmps58
  go_wp2
  go_loopw [6] (fun i wr => ∃ (j : Nat) (v : Val), 1 ≤ j ∧ j ≤ m ∧ i = .int .i64 j ∧ minF v (l.drop j) = (R1, R2, R3) ∧ Mn w v wr) (fun i _ => m - (intOf i).toNat)
  case atStart => exact ⟨1, _, by omega, by omega, rfl, HR.out, HMN.out⟩
  case round =>
    clear HMN HR x0 x1 x2
    obtain ⟨j, v, hj1, hj, rfl, hEQ, hmn⟩ := hrel
    obtain ⟨v1, v2, v3⟩ := v
    have HQ := Lib.hid hEQ
    have HM := Lib.hid hmn
    obtain ⟨m0, m1, m2, f0, f1, f2⟩ := cell3 hmn.2.1
    clear hEQ
    by_cases hjm : j < m
    · have hjl : j < l.length := by have := HN.out; omega
      obtain ⟨a0, a1, a2⟩ := HC.out j l[j] (List.getElem?_eq_getElem hjl)
      have hd : l.drop j = l[j] :: l.drop (j + 1) := List.drop_eq_getElem_cons hjl
      have heq := HQ.out
      rw [hd, minF] at heq
      generalize l[j] = x at *
      obtain ⟨k', q', s'⟩ := x
      simp only at a0 a1 a2
      have hcall := fun W => vcompare_any (k', q', s') (v1, v2, v3) W
      have b0 := (hmn.2.2.cell (p := ⟨b, o + j * 3, none⟩) HBL.out).trans a0
      have b1 := (hmn.2.2.cell (p := ⟨b, o + j * 3 + 1, none⟩) HBL.out).trans a1
      have b2 := (hmn.2.2.cell (p := ⟨b, o + j * 3 + 2, none⟩) HBL.out).trans a2
      have hjI : (j : Int) < m := by omega
      have HA3 := Lib.hid (And.intro a0 (And.intro a1 a2))
      by_cases hcc : valCmp (k', q', s') (v1, v2, v3) < 0
      · rw [if_pos hcc] at heq
        have hcd : decide (valCmp (k', q', s') (v1, v2, v3) < 0) = true := decide_eq_true hcc
        generalize valCmp (k', q', s') (v1, v2, v3) = cc at *
        have HX := Lib.hid heq
        have HCA := Lib.hid hcall
        clear heq hcall hcc hd a0 a1 a2 HQ hmn
        go_wp2_with fail
        go_region_with (go_at_call 50; (refine (HCA.out _).mono ?_); rintro e w3 ⟨rfl, hb3⟩)
        all_goals
          have HM3 := Lib.hid (mn_step (mn_drew HM.out) hb3)
          clear m0 m1 m2 f0 f1 f2
          obtain ⟨m0, m1, m2, f0, f1, f2⟩ := cell3 HM3.out.2.1
          clear b0 b1 b2
          have b0 := (HM3.out.2.2.cell (p := ⟨b, o + j * 3, none⟩) HBL.out).trans HA3.out.1
          have b1 := (HM3.out.2.2.cell (p := ⟨b, o + j * 3 + 1, none⟩) HBL.out).trans HA3.out.2.1
          have b2 := (HM3.out.2.2.cell (p := ⟨b, o + j * 3 + 2, none⟩) HBL.out).trans HA3.out.2.2
          go_wp2
          go_roundw
          case rel => exact ⟨j + 1, (k', q', s'), by omega, by omega, by go_num, HX.out, mn_set HM3.out k' q' s'⟩
          case measure => simp [intOf]; omega
      · rw [if_neg hcc] at heq
        have hcd : decide (valCmp (k', q', s') (v1, v2, v3) < 0) = false := decide_eq_false hcc
        generalize valCmp (k', q', s') (v1, v2, v3) = cc at *
        have HX := Lib.hid heq
        have HCA := Lib.hid hcall
        clear heq hcall hcc hd a0 a1 a2 HQ hmn
        go_wp2_with fail
        go_region_with (go_at_call 50; (refine (HCA.out _).mono ?_); rintro e w3 ⟨rfl, hb3⟩)
        all_goals
          have HM3 := Lib.hid (mn_step (mn_drew HM.out) hb3)
          clear m0 m1 m2 f0 f1 f2 b0 b1 b2
          go_wp2
          go_roundw
          case rel => exact ⟨j + 1, (v1, v2, v3), by omega, by omega, by go_num, HX.out, HM3.out⟩
          case measure => simp [intOf]; omega
    · obtain rfl : j = m := by omega
      have HX := Lib.hid (show (v1, v2, v3) = (R1, R2, R3) by rw [← HQ.out, List.drop_of_length_le (by have := HN.out; omega)]; rfl)
      obtain ⟨r0, r1, r2, g0, g1, g2⟩ := cell3 HM.out.1
      clear HQ hmn
      go_wp2
      obtain ⟨e0, e1, e2, _, _, _⟩ := cell3 (blk3_set HM.out.1 (.int .u8 v1) (.int .i64 v2) (.string v3))
      exact bodyPost_ret (v := .agg #[.int .u8 v1, .int .i64 v2, .string v3]) (by simp [results, Try.results58, go_sem, e0, e1, e2]) rfl ⟨by have h := HX.out; simp only [Prod.mk.injEq] at h; obtain ⟨rfl, rfl, rfl⟩ := h; rfl, below3_set HM.out.2.2 _ _ _⟩
set_option maxRecDepth 100000 in
set_option maxHeartbeats 8000000 in
theorem maxfunc_any (l : List Val) (b o m c : Nat) (w : World) (hm : m = l.length) (h0 : 0 < m) (hmx : m ≤ 100000) (hV : Vals w w.heap.size (some ⟨b, o, none⟩) l) :
    Calls Try.prog 59 #[.slice (some ⟨b, o, none⟩) m c, .func (.func 50) #[] #[]] w fun e w' => e = .returned (valV (maxL l)) ∧ Below w.heap.size w w' := by
  obtain ⟨b', o', hA, hbl, hc⟩ := vals_get hV (fun e => by rw [e] at hm; simp at hm; omega)
  obtain ⟨rfl, rfl⟩ : b = b' ∧ o = o' := by simpa using hA
  have hl0 : 0 < l.length := by omega
  obtain ⟨x0, x1, x2⟩ := hc 0 l[0] (List.getElem?_eq_getElem hl0)
  simp only [Nat.zero_mul, Nat.add_zero] at x0 x1 x2
  have hst : maxL l = maxF l[0] (l.drop 1) := by unfold maxL; rw [List.getD_eq_getElem?_getD, List.getElem?_eq_getElem hl0]; rfl
  rw [hst]
  obtain ⟨R, hR⟩ : ∃ R, maxF l[0] (l.drop 1) = R := ⟨_, rfl⟩
  have HR := Lib.hid hR
  rw [hR]
  have hmn := mn_new w l[0]
  generalize l[0] = y at *
  obtain ⟨k, q, s⟩ := y
  have HMN := Lib.hid hmn
  have HC := Lib.hid hc
  have HBL := Lib.hid hbl
  have HN := Lib.hid hm
  have x0 := ((one_alloc (w := w) (o := .cells #[.int .u8 0, .int .i64 0, .string ⟨#[]⟩] 23)).cell (p := ⟨b, o, none⟩) hbl).trans x0
  have x1 := ((one_alloc (w := w) (o := .cells #[.int .u8 0, .int .i64 0, .string ⟨#[]⟩] 23)).cell (p := ⟨b, o + 1, none⟩) hbl).trans x1
  have x2 := ((one_alloc (w := w) (o := .cells #[.int .u8 0, .int .i64 0, .string ⟨#[]⟩] 23)).cell (p := ⟨b, o + 2, none⟩) hbl).trans x2
  have hmI : (m : Int) ≤ 100000 := by omega
  have h1I : ¬ ((m : Int) < 1) := by omega
  have h0I : (0 : Int) < m := by omega
  obtain ⟨R1, R2, R3⟩ := R
  clear hst hR hmn hc hbl hm h0 hmx hV hA hl0
  go_enter Try.func59, Try.ntmps59
  go_wp2
  go_loopw [6] (fun i wr => ∃ (j : Nat) (v : Val), 1 ≤ j ∧ j ≤ m ∧ i = .int .i64 j ∧ maxF v (l.drop j) = (R1, R2, R3) ∧ Mn w v wr) (fun i _ => m - (intOf i).toNat)
  case atStart => exact ⟨1, _, by omega, by omega, rfl, HR.out, HMN.out⟩
  case round =>
    clear HMN HR x0 x1 x2
    obtain ⟨j, v, hj1, hj, rfl, hEQ, hmn⟩ := hrel
    obtain ⟨v1, v2, v3⟩ := v
    have HQ := Lib.hid hEQ
    have HM := Lib.hid hmn
    obtain ⟨m0, m1, m2, f0, f1, f2⟩ := cell3 hmn.2.1
    clear hEQ
    by_cases hjm : j < m
    · have hjl : j < l.length := by have := HN.out; omega
      obtain ⟨a0, a1, a2⟩ := HC.out j l[j] (List.getElem?_eq_getElem hjl)
      have hd : l.drop j = l[j] :: l.drop (j + 1) := List.drop_eq_getElem_cons hjl
      have heq := HQ.out
      rw [hd, maxF] at heq
      generalize l[j] = x at *
      obtain ⟨k', q', s'⟩ := x
      simp only at a0 a1 a2
      have hcall := fun W => vcompare_any (k', q', s') (v1, v2, v3) W
      have b0 := (hmn.2.2.cell (p := ⟨b, o + j * 3, none⟩) HBL.out).trans a0
      have b1 := (hmn.2.2.cell (p := ⟨b, o + j * 3 + 1, none⟩) HBL.out).trans a1
      have b2 := (hmn.2.2.cell (p := ⟨b, o + j * 3 + 2, none⟩) HBL.out).trans a2
      have hjI : (j : Int) < m := by omega
      have HA3 := Lib.hid (And.intro a0 (And.intro a1 a2))
      by_cases hcc : 0 < valCmp (k', q', s') (v1, v2, v3)
      · rw [if_pos hcc] at heq
        have hcd : decide (0 < valCmp (k', q', s') (v1, v2, v3)) = true := decide_eq_true hcc
        generalize valCmp (k', q', s') (v1, v2, v3) = cc at *
        have HX := Lib.hid heq
        have HCA := Lib.hid hcall
        clear heq hcall hcc hd a0 a1 a2 HQ hmn
        go_wp2_with fail
        go_region_with (go_at_call 50; (refine (HCA.out _).mono ?_); rintro e w3 ⟨rfl, hb3⟩)
        all_goals
          have HM3 := Lib.hid (mn_step (mn_drew HM.out) hb3)
          clear m0 m1 m2 f0 f1 f2
          obtain ⟨m0, m1, m2, f0, f1, f2⟩ := cell3 HM3.out.2.1
          clear b0 b1 b2
          have b0 := (HM3.out.2.2.cell (p := ⟨b, o + j * 3, none⟩) HBL.out).trans HA3.out.1
          have b1 := (HM3.out.2.2.cell (p := ⟨b, o + j * 3 + 1, none⟩) HBL.out).trans HA3.out.2.1
          have b2 := (HM3.out.2.2.cell (p := ⟨b, o + j * 3 + 2, none⟩) HBL.out).trans HA3.out.2.2
          go_wp2
          go_roundw
          case rel => exact ⟨j + 1, (k', q', s'), by omega, by omega, by go_num, HX.out, mn_set HM3.out k' q' s'⟩
          case measure => simp [intOf]; omega
      · rw [if_neg hcc] at heq
        have hcd : decide (0 < valCmp (k', q', s') (v1, v2, v3)) = false := decide_eq_false hcc
        generalize valCmp (k', q', s') (v1, v2, v3) = cc at *
        have HX := Lib.hid heq
        have HCA := Lib.hid hcall
        clear heq hcall hcc hd a0 a1 a2 HQ hmn
        go_wp2_with fail
        go_region_with (go_at_call 50; (refine (HCA.out _).mono ?_); rintro e w3 ⟨rfl, hb3⟩)
        all_goals
          have HM3 := Lib.hid (mn_step (mn_drew HM.out) hb3)
          clear m0 m1 m2 f0 f1 f2 b0 b1 b2
          go_wp2
          go_roundw
          case rel => exact ⟨j + 1, (v1, v2, v3), by omega, by omega, by go_num, HX.out, HM3.out⟩
          case measure => simp [intOf]; omega
    · obtain rfl : j = m := by omega
      have HX := Lib.hid (show (v1, v2, v3) = (R1, R2, R3) by rw [← HQ.out, List.drop_of_length_le (by have := HN.out; omega)]; rfl)
      obtain ⟨r0, r1, r2, g0, g1, g2⟩ := cell3 HM.out.1
      clear HQ hmn
      go_wp2
      obtain ⟨e0, e1, e2, _, _, _⟩ := cell3 (blk3_set HM.out.1 (.int .u8 v1) (.int .i64 v2) (.string v3))
      exact bodyPost_ret (v := .agg #[.int .u8 v1, .int .i64 v2, .string v3]) (by simp [results, Try.results59, go_sem, e0, e1, e2]) rfl ⟨by have h := HX.out; simp only [Prod.mk.injEq] at h; obtain ⟨rfl, rfl, rfl⟩ := h; rfl, below3_set HM.out.2.2 _ _ _⟩
end Go.Proofs.Ytkgpcodccpckeaa
