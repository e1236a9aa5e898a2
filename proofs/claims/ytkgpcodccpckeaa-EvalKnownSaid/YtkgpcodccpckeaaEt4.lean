/- eval.together of any op, eval.kindOf, eval.Type of any expression. Conditions: how it lies in memory; kindOf: that it may be. -/
import Derived.Test.YtkgpcodccpckeaaEt3
import Derived.Deep.RegionHeld3
namespace Go.Proofs.Ytkgpcodccpckeaa
open Go Go.RowKit
set_option linter.unusedVariables false
set_option linter.unusedSimpArgs false
theorem tog_20 (A : Option Addr) (n c : Nat) (w : World) : Calls Try.prog 42 #[.int .u8 20, .slice A n c] w fun e w' => e = .returned (.bool true) ∧ w = w' := by
  go_enter Try.func42, Try.ntmps42
  go_wp2
  go_ret
  exact ⟨rfl, rfl⟩
theorem tog_22 (A : Option Addr) (n c : Nat) (w : World) : Calls Try.prog 42 #[.int .u8 22, .slice A n c] w fun e w' => e = .returned (.bool true) ∧ w = w' := by
  go_enter Try.func42, Try.ntmps42
  go_wp2
  go_ret
  exact ⟨rfl, rfl⟩
theorem tog_23 (A : Option Addr) (n c : Nat) (w : World) : Calls Try.prog 42 #[.int .u8 23, .slice A n c] w fun e w' => e = .returned (.bool true) ∧ w = w' := by
  go_enter Try.func42, Try.ntmps42
  go_wp2
  go_ret
  exact ⟨rfl, rfl⟩
theorem tog_21 (A : Option Addr) (l : List Int) (n c : Nat) (w : World) (hV : U8s w w.heap.size A l) (hn : n = l.length) (hm : n ≤ 100) : Calls Try.prog 42 #[.int .u8 21, .slice A n c] w fun e w' => e = .returned (.bool (togA 21 l)) ∧ w = w' := by
  have HO := Lib.hid (only_any 1 A l n c w hV hn hm)
  have HC := Lib.hid (fun W => compares_any 21 W)
  have HT := Lib.hid (show togA 21 l = onlyB 1 l from rfl)
  clear hV hn hm
  go_enter Try.func42, Try.ntmps42
  go_wp2_with fail
  refine (HC.out _).mono ?_
  rintro e w2 ⟨rfl, rfl⟩
  rw [show comparesB 21 = false from rfl]
  go_wp2_with fail
  refine (HO.out).mono ?_
  rintro e w2 ⟨rfl, rfl⟩
  go_wp2
  go_ret
  exact ⟨rbool HT.out.symm, rfl⟩
/-- together, of any op that an expression has -/
theorem tog_all (op : Int) (b o n c : Nat) (l : List Int) (w : World) (h1 : 3 ≤ op) (h2 : op ≤ 23) (hl : op = 20 ∨ l ≠ []) (hV : U8s w w.heap.size (some ⟨b, o, none⟩) l) (hn : n = l.length) (hm : n ≤ 100) :
    Calls Try.prog 42 #[.int .u8 op, .slice (some ⟨b, o, none⟩) n c] w fun e w' => e = .returned (.bool (togA op l)) ∧ w = w' := by
  by_cases h20 : op = 20
  · subst h20; exact tog_20 _ n c w
  by_cases h22 : op = 22
  · subst h22; exact tog_22 _ n c w
  by_cases h23 : op = 23
  · subst h23; exact tog_23 _ n c w
  by_cases h21 : op = 21
  · subst h21; exact tog_21 _ l n c w hV hn hm
  cases l with
  | nil => rcases hl with h | h; exact absurd h h20; exact absurd rfl h
  | cons x l =>
    rw [show togA op (x :: l) = togB op (x :: l) by unfold togA; rw [if_neg (by omega)]]
    exact together_any op b o n c x l w h1 (by omega) hV hn hm
theorem kind_leaf (v : Val) (tb nm : ByteArray) (n : Int) (A : Option Addr) (m c : Nat) (CA : Option Addr) (cn cc : Nat) (g : Bool) (w : World) :
    Calls Try.prog 31 #[exV ⟨1, v, tb, nm, n, A, m, c⟩, .slice CA cn cc, .bool g] w fun e w' => e = .returned (.tuple #[.int .u8 v.1, .int .i64 0]) ∧ Below w.heap.size w w' := by
  go_enter Try.func31, Try.ntmps31
  go_wp2
  go_ret2
  exact ⟨rfl, one_alloc⟩
theorem kind_col (v : Val) (tb nm : ByteArray) (n : Nat) (A : Option Addr) (m c : Nat) (cols : List Int) (CA : Option Addr) (cn cc : Nat) (g : Bool) (w : World) (hV : U8s w w.heap.size CA cols) (hn : cn = cols.length) (h1 : n < cn) :
    Calls Try.prog 31 #[exV ⟨2, v, tb, nm, n, A, m, c⟩, .slice CA cn cc, .bool g] w fun e w' => e = .returned (.tuple #[.int .u8 (cols.getD n 0), .int .i64 0]) ∧ Below w.heap.size w w' := by
  obtain ⟨b, o, rfl, hbl, hc⟩ := u8s_get hV (fun e => by rw [e] at hn; simp at hn; omega)
  have hnl : n < cols.length := by omega
  have hx := hc n cols[n] (List.getElem?_eq_getElem hnl)
  have HE := Lib.hid (show cols.getD n 0 = cols[n] by rw [List.getD_eq_getElem?_getD, List.getElem?_eq_getElem hnl]; rfl)
  have hnI : (n : Int) < cn := by omega
  generalize cols[n] = x at *
  clear hc hV hn hnl
  go_enter Try.func31, Try.ntmps31
  go_wp2
  go_ret2
  exact ⟨by rw [HE.out]; rfl, one_alloc⟩
set_option maxRecDepth 100000 in
set_option maxHeartbeats 4000000 in
theorem kind_group (op : Int) (v : Val) (tb nm : ByteArray) (n : Int) (A : Option Addr) (m c : Nat) (CA : Option Addr) (cn cc : Nat) (w : World) (hg : groupedB op = true) (h1 : ¬ op = 1) (h2 : ¬ op = 2) :
    Calls Try.prog 31 #[exV ⟨op, v, tb, nm, n, A, m, c⟩, .slice CA cn cc, .bool false] w fun e w' => e = .returned (.tuple #[.int .u8 0, .int .i64 151]) ∧ Below w.heap.size w w' := by
  have hgc := fun W => grouped_any op W
  rw [hg] at hgc
  have HG := Lib.hid hgc
  have e1 := beq_no h1
  have e2 := beq_no h2
  clear hgc hg h1 h2
  go_enter Try.func31, Try.ntmps31
  go_wp2_with fail
  refine (HG.out _).mono ?_
  rintro e w2 ⟨rfl, rfl⟩
  go_wp2
  go_ret2
  exact ⟨rfl, one_alloc⟩
/-- the expression's box, and the kinds of its kids so far -/
def Kd (w : World) (x : Ex) (k0 k1 : Int) (W : World) : Prop := Blk W w.heap.size 29 (exC x) ∧ Blk W (w.heap.size + 1) 53 #[.int .u8 k0, .int .u8 k1] ∧ Below w.heap.size w W
theorem kd_below {w W W' : World} {x : Ex} {k0 k1 : Int} (h : Kd w x k0 k1 W) (hb : Below W.heap.size W W') : Kd w x k0 k1 W' := ⟨blk_step h.1 hb, blk_step h.2.1 hb, bj h.2.2 hb⟩
theorem kd_new (w : World) (x : Ex) : Kd w x 0 0 ((w.alloc (.cells (exC x) 29)).alloc (.cells #[.int .u8 0, .int .u8 0] 53)) := ⟨(Blk.new _ _ _).alloc _, blk_new _ _ _ _ (by simp), bj one_alloc one_alloc⟩
theorem kd_set0 {w W : World} {x : Ex} {k0 k1 : Int} (h : Kd w x k0 k1 W) (k : Int) : Kd w x k k1 (W.setCell ⟨w.heap.size + 1, 0, none⟩ (.int .u8 k)) := ⟨h.1.far (p := ⟨w.heap.size + 1, 0, none⟩) (by simp) _, h.2.1.set_ 0 _, h.2.2.setCell (p := ⟨w.heap.size + 1, 0, none⟩) (by simp) _⟩
theorem kd_set1 {w W : World} {x : Ex} {k0 k1 : Int} (h : Kd w x k0 k1 W) (k : Int) : Kd w x k0 k (W.setCell ⟨w.heap.size + 1, 1, none⟩ (.int .u8 k)) := ⟨h.1.far (p := ⟨w.heap.size + 1, 1, none⟩) (by simp) _, h.2.1.set_ 1 _, h.2.2.setCell (p := ⟨w.heap.size + 1, 1, none⟩) (by simp) _⟩
theorem kd_setj {w W : World} {x : Ex} {k0 k1 : Int} (h : Kd w x k0 k1 W) (j : Nat) (hj : j < 2) (k : Int) : ∃ k0' k1', Kd w x k0' k1' (W.setCell ⟨w.heap.size + 1, j, none⟩ (.int .u8 k)) ∧ [k0', k1'].take (j + 1) = [k0, k1].take j ++ [k] := by
  rcases (by omega : j = 0 ∨ j = 1) with rfl | rfl
  · exact ⟨k, k1, kd_set0 h k, rfl⟩
  · exact ⟨k0, k, kd_set1 h k, rfl⟩
theorem kd_at {w W : World} {x : Ex} {k0 k1 : Int} (h : Kd w x k0 k1 W) (j : Nat) (hj : j < 2) : W.frozen? ⟨w.heap.size + 1, j, none⟩ = false ∧ ∃ u, W.cell? ⟨w.heap.size + 1, j, none⟩ = some u := by
  rcases (by omega : j = 0 ∨ j = 1) with rfl | rfl
  · exact ⟨h.2.1.frozen 0, _, h.2.1.cell 0⟩
  · exact ⟨h.2.1.frozen 1, _, h.2.1.cell 1⟩
theorem kd_cells {w W : World} {op k q n k0 k1 : Int} {s tb nm : ByteArray} {A : Option Addr} {m c : Nat} (h : Kd w ⟨op, (k, q, s), tb, nm, n, A, m, c⟩ k0 k1 W) : W.cell? ⟨w.heap.size, 0, none⟩ = some (.int .u8 op) ∧ W.cell? ⟨w.heap.size, 7, none⟩ = some (.slice A m c) ∧ W.cell? ⟨w.heap.size + 1, 0, none⟩ = some (.int .u8 k0) := ⟨h.1.cell 0, h.1.cell 7, h.2.1.cell 0⟩
theorem kd_two {w W : World} {op k q n k0 k1 : Int} {s tb nm : ByteArray} {A : Option Addr} {m c : Nat} (h : Kd w ⟨op, (k, q, s), tb, nm, n, A, m, c⟩ k0 k1 W) : W.cell? ⟨w.heap.size, 0, none⟩ = some (.int .u8 op) ∧ W.cell? ⟨w.heap.size, 7, none⟩ = some (.slice A m c) := ⟨h.1.cell 0, h.1.cell 7⟩
theorem kd_drewN {w W : World} {x : Ex} {k0 k1 : Int} (h : Kd w x k0 k1 W) (n : Nat) : Kd w x k0 k1 (W.drewN n) := kd_below h ⟨rfl, rfl, rfl, Nat.le_refl _, fun _ _ => rfl⟩
theorem kd_u8s {w W : World} {x : Ex} {k0 k1 : Int} (h : Kd w x k0 k1 W) (m : Nat) : U8s W W.heap.size (some ⟨w.heap.size + 1, 0, none⟩) ([k0, k1].take m) := by
  refine u8s_blk h.2.1 fun j y hy => ?_
  rw [List.getElem?_take] at hy
  split at hy
  · match j, hy with
    | 0, hy => simp at hy; subst hy; rfl
    | 1, hy => simp at hy; subst hy; rfl
    | j + 2, hy => simp at hy
  · cases hy
set_option maxRecDepth 100000 in
set_option maxHeartbeats 8000000 in
theorem kind_node (op : Int) (v : Val) (tb nm : ByteArray) (n : Int) (A : Option Addr) (m c : Nat) (ks : List XT) (cols : List Int) (CA : Option Addr) (cn cc : Nat) (w : World) (g0 g1 gg : Bool) (hg : groupedB op = gg) (hg0 : g1 = if gg then false else g0) (hgg : gg = true → g0 = true)
    (h1 : 3 ≤ op) (h2 : op ≤ 23) (hm : m = ks.length) (hm2 : m ≤ 2) (hm0 : 0 < m) (hK : Kids w w.heap.size A (ks.map XT.ex))
    (hk : ∀ (j : Nat) x, ks[j]? = some x → ∀ W, Below w.heap.size w W → Calls Try.prog 31 #[exV x.ex, .slice CA cn cc, .bool g1] W fun e w' => e = .returned (.tuple #[.int .u8 (kindP cols x g1).1, .int .i64 (kindP cols x g1).2]) ∧ Below W.heap.size W w') :
    Calls Try.prog 31 #[exV ⟨op, v, tb, nm, n, A, m, c⟩, .slice CA cn cc, .bool g0] w fun e w' => e = .returned (.tuple #[.int .u8 (kindF op (kindL cols ks g1)).1, .int .i64 (kindF op (kindL cols ks g1)).2]) ∧ Below w.heap.size w w' := by
  have hgc := fun W => grouped_any op W
  rw [hg] at hgc
  have HG := Lib.hid hgc
  have e1 := beq_no (a := op) (b := 1) (by omega)
  have e2 := beq_no (a := op) (b := 2) (by omega)
  obtain ⟨vk, vn, vs⟩ := v
  obtain ⟨b, o, rfl, hbl, hc⟩ := kids_get hK (fun e => by have := congrArg List.length e; simp at this; rw [this] at hm; simp at hm; omega)
  have HC := Lib.hid hc
  have HBL := Lib.hid hbl
  have HK := Lib.hid hk
  have HN := Lib.hid hm
  have HM := Lib.hid hm2
  have HM0 := Lib.hid hm0
  have HOP := Lib.hid (And.intro h1 h2)
  have hmI : (m : Int) ≤ 2 := by omega
  have HX := Lib.hid (kd_new w ⟨op, (vk, vn, vs), tb, nm, n, some ⟨b, o, none⟩, m, c⟩)
  clear hgc hg h1 h2 hk hK hm hm2 hc hbl hm0
  cases gg
  · simp only [↓reduceIte, Bool.false_eq_true] at hg0
    subst hg0
    clear hgg
    go_enter Try.func31, Try.ntmps31
    go_wp2_with fail
    refine (HG.out _).mono ?_
    rintro e w2 ⟨rfl, rfl⟩
    go_wp2
    go_loopw [35] (fun i wr => ∃ (j : Nat) (k0 k1 : Int), j ≤ m ∧ i = .int .i64 j ∧ kindL cols ks g1 = ([k0, k1].take j ++ (kindL cols (ks.drop j) g1).1, (kindL cols (ks.drop j) g1).2) ∧ Kd w ⟨op, (vk, vn, vs), tb, nm, n, some ⟨b, o, none⟩, m, c⟩ k0 k1 wr) (fun i _ => m - (intOf i).toNat)
    case atStart => exact ⟨0, 0, 0, by omega, rfl, rfl, HX.out⟩
    case round =>
      clear HX
      obtain ⟨j, k0, k1, hj, rfl, heq, hkd⟩ := hrel
      by_cases hjm : j < m
      · have hjl : j < ks.length := by have := HN.out; omega
        have hjx : (ks.map XT.ex)[j]? = some ks[j].ex := by rw [List.getElem?_map, List.getElem?_eq_getElem hjl]; rfl
        obtain ⟨a0, a1, a2, a3, a4, a5, a6, a7⟩ := cells8_below (HC.out j _ hjx) hkd.2.2 HBL.out
        have hkc := HK.out j ks[j] (List.getElem?_eq_getElem hjl)
        have hd : ks.drop j = ks[j] :: ks.drop (j + 1) := List.drop_eq_getElem_cons hjl
        rw [hd, kindL] at heq
        generalize ks[j] = y at *
        obtain ⟨yo, yv, yt, yn, yN, yA, yc, yk⟩ := y
        simp only [XT.ex] at a0 a1 a2 a3 a4 a5 a6 a7
        have hkd1 := kd_below hkd (one_alloc (o := .cells (exC (XT.mk yo yv yt yn yN yA yc yk).ex) 29))
        generalize hkk : kindP cols (XT.mk yo yv yt yn yN yA yc yk) g1 = r at *
        obtain ⟨r1, r2⟩ := r
        have HKC := Lib.hid hkc
        have HQ := Lib.hid heq
        have HKD := Lib.hid hkd1
        have hj2 : j < 2 := by have := HM.out; omega
        have hj2I : (j : Int) < 2 := by omega
        clear hkc heq hd hkd1 hkd hjx hkk
        by_cases hr : r2 = 0
        · subst hr
          go_wp2_with fail
          refine (HKC.out _ HKD.out.2.2).mono ?_
          rintro e w5 ⟨rfl, hb5⟩
          have hkd5 := kd_below HKD.out hb5
          obtain ⟨f0, u, c0⟩ := kd_at hkd5 j hj2
          obtain ⟨k0', k1', hk', htk⟩ := kd_setj hkd5 j hj2 r1
          have HK5 := Lib.hid hk'
          have HR : Hid (kindL cols ks g1 = ([k0', k1'].take (j + 1) ++ (kindL cols (ks.drop (j + 1)) g1).1, (kindL cols (ks.drop (j + 1)) g1).2)) := Lib.hid (by rw [HQ.out, htk, if_neg (by simp)]; simp)
          clear hb5 hkd5 hk' htk HKC HQ HKD
          go_wp2
          go_roundw
          case rel => exact ⟨j + 1, k0', k1', by omega, by go_num, HR.out, HK5.out⟩
          case measure => simp [intOf]; omega
        · have hrb : (r2 != 0) = true := by simp [bne, hr]
          have HR : Hid (kindF op (kindL cols ks g1) = (0, r2)) := Lib.hid (by rw [HQ.out, if_pos hr]; unfold kindF; rw [if_pos hr])
          clear HQ
          go_wp2_with fail
          refine (HKC.out _ HKD.out.2.2).mono ?_
          rintro e w5 ⟨rfl, hb5⟩
          have HB := Lib.hid (kd_below HKD.out hb5)
          clear hb5 HKC HKD hr
          go_wp2
          go_ret2
          exact ⟨by rw [HR.out]; rfl, HB.out.2.2⟩
      · obtain rfl : j = m := by omega
        have hR : kindL cols ks g1 = ([k0, k1].take j, 0) := by rw [heq, List.drop_of_length_le (by have := HN.out; omega)]; simp [kindL]
        clear heq
        have HR := Lib.hid hR
        have HT := Lib.hid (fun (W : World) (h : Kd w ⟨op, (vk, vn, vs), tb, nm, n, some ⟨b, o, none⟩, j, c⟩ k0 k1 W) => tog_all op (w.heap.size + 1) 0 j 2 ([k0, k1].take j) W HOP.out.1 HOP.out.2 (.inr (fun e => by have := congrArg List.length e; rw [List.length_take] at this; simp at this; have := HM0.out; omega)) (kd_u8s h j) (by rw [List.length_take]; simp only [List.length_cons, List.length_nil]; have := HM.out; omega) (by have := HM.out; omega))
        obtain ⟨c0, c7, a0⟩ := kd_cells hkd
        have HKD := Lib.hid hkd
        clear hkd hR
        have hmn : ¬ ((j : Int) < 0) := by omega
        have hs := kd_below HKD.out (Below.refl _ _).drew
        have hmn2 : (j : Int) ≤ 2 := by omega
        have hjn : j ≤ 2 := by omega
        have H0 := Lib.hid (show ([k0, k1].take j).headD 0 = k0 by have := HM0.out; cases j with | zero => omega | succ j => rfl)
        obtain ⟨L, hL⟩ : ∃ L, [k0, k1].take j = L := ⟨_, rfl⟩
        rw [hL] at HT H0 HR
        clear hL
        cases ht : togA op L
        · rw [ht] at HT
          have HF := Lib.hid (show kindF op (L, 0) = (0, 150) by unfold kindF; rw [if_neg (by simp)]; simp only [ht]; rfl)
          clear ht
          go_wp2_with fail
          go_region_held3 (fun W => W.cell? ⟨w.heap.size, 0, none⟩ = some (.int .u8 op) ∧ W.cell? ⟨w.heap.size, 7, none⟩ = some (.slice (some ⟨b, o, none⟩) j c))
            (with_reducible exact kd_two (by assumption))
            (first | (go_at_call 42; (with_reducible refine (HT.out _ (by assumption)).mono ?_); rintro e w5 ⟨rfl, rfl⟩))
          all_goals
            go_wp2
            go_ret2
            exact ⟨by rw [HR.out, HF.out]; rfl, hs.2.2⟩
        · rw [ht] at HT
          by_cases h11 : op = 11
          · have HF := Lib.hid (show kindF op (L, 0) = (2, 0) by unfold kindF; rw [if_neg (by simp)]; simp only [ht]; rw [if_neg (by simp), if_pos h11])
            have b1 : (op == 11) = true := by simp [h11]
            clear ht h11
            go_wp2_with fail
            go_region_held3 (fun W => W.cell? ⟨w.heap.size, 0, none⟩ = some (.int .u8 op) ∧ W.cell? ⟨w.heap.size, 7, none⟩ = some (.slice (some ⟨b, o, none⟩) j c))
              (with_reducible exact kd_two (by assumption))
              (first | (go_at_call 42; (with_reducible refine (HT.out _ (by assumption)).mono ?_); rintro e w5 ⟨rfl, rfl⟩))
            all_goals
              go_wp2
              go_ret2
              exact ⟨by rw [HR.out, HF.out]; rfl, hs.2.2⟩
          have b1 := beq_no h11
          by_cases h22 : op = 22
          · have HF := Lib.hid (show kindF op (L, 0) = (k0, 0) by unfold kindF; rw [if_neg (by simp)]; simp only [ht]; rw [if_neg (by simp), if_neg h11, if_pos (by omega), H0.out])
            have b2 : (op == 22) = true := by simp [h22]
            clear ht h11 h22
            go_wp2_with fail
            go_region_held3 (fun W => W.cell? ⟨w.heap.size, 0, none⟩ = some (.int .u8 op) ∧ W.cell? ⟨w.heap.size, 7, none⟩ = some (.slice (some ⟨b, o, none⟩) j c))
              (with_reducible exact kd_two (by assumption))
              (first | (go_at_call 42; (with_reducible refine (HT.out _ (by assumption)).mono ?_); rintro e w5 ⟨rfl, rfl⟩))
            all_goals
              have a0 := hs.2.1.cell 0
              go_wp2
              go_ret2
              exact ⟨by rw [HR.out, HF.out]; rfl, hs.2.2⟩
          have b2 := beq_no h22
          by_cases h23 : op = 23
          · have HF := Lib.hid (show kindF op (L, 0) = (k0, 0) by unfold kindF; rw [if_neg (by simp)]; simp only [ht]; rw [if_neg (by simp), if_neg h11, if_pos (by omega), H0.out])
            have b3 : (op == 23) = true := by simp [h23]
            clear ht h11 h22 h23
            go_wp2_with fail
            go_region_held3 (fun W => W.cell? ⟨w.heap.size, 0, none⟩ = some (.int .u8 op) ∧ W.cell? ⟨w.heap.size, 7, none⟩ = some (.slice (some ⟨b, o, none⟩) j c))
              (with_reducible exact kd_two (by assumption))
              (first | (go_at_call 42; (with_reducible refine (HT.out _ (by assumption)).mono ?_); rintro e w5 ⟨rfl, rfl⟩))
            all_goals
              have a0 := hs.2.1.cell 0
              go_wp2
              go_ret2
              exact ⟨by rw [HR.out, HF.out]; rfl, hs.2.2⟩
          have b3 := beq_no h23
          have HF := Lib.hid (show kindF op (L, 0) = (1, 0) by unfold kindF; rw [if_neg (by simp)]; simp only [ht]; rw [if_neg (by simp), if_neg h11, if_neg (by have := HOP.out; omega)])
          clear ht h11 h22 h23
          go_wp2_with fail
          go_region_held3 (fun W => W.cell? ⟨w.heap.size, 0, none⟩ = some (.int .u8 op) ∧ W.cell? ⟨w.heap.size, 7, none⟩ = some (.slice (some ⟨b, o, none⟩) j c))
            (with_reducible exact kd_two (by assumption))
            (first | (go_at_call 42; (with_reducible refine (HT.out _ (by assumption)).mono ?_); rintro e w5 ⟨rfl, rfl⟩))
          all_goals
            go_wp2
            go_ret2
            exact ⟨by rw [HR.out, HF.out]; rfl, hs.2.2⟩
  · have e := hgg rfl
    subst e
    simp only [↓reduceIte] at hg0
    subst hg0
    clear hgg
    go_enter Try.func31, Try.ntmps31
    go_wp2_with fail
    refine (HG.out _).mono ?_
    rintro e w2 ⟨rfl, rfl⟩
    go_wp2
    go_loopw [35] (fun i wr => ∃ (j : Nat) (k0 k1 : Int), j ≤ m ∧ i = .int .i64 j ∧ kindL cols ks false = ([k0, k1].take j ++ (kindL cols (ks.drop j) false).1, (kindL cols (ks.drop j) false).2) ∧ Kd w ⟨op, (vk, vn, vs), tb, nm, n, some ⟨b, o, none⟩, m, c⟩ k0 k1 wr) (fun i _ => m - (intOf i).toNat)
    case atStart => exact ⟨0, 0, 0, by omega, rfl, rfl, HX.out⟩
    case round =>
      clear HX
      obtain ⟨j, k0, k1, hj, rfl, heq, hkd⟩ := hrel
      by_cases hjm : j < m
      · have hjl : j < ks.length := by have := HN.out; omega
        have hjx : (ks.map XT.ex)[j]? = some ks[j].ex := by rw [List.getElem?_map, List.getElem?_eq_getElem hjl]; rfl
        obtain ⟨a0, a1, a2, a3, a4, a5, a6, a7⟩ := cells8_below (HC.out j _ hjx) hkd.2.2 HBL.out
        have hkc := HK.out j ks[j] (List.getElem?_eq_getElem hjl)
        have hd : ks.drop j = ks[j] :: ks.drop (j + 1) := List.drop_eq_getElem_cons hjl
        rw [hd, kindL] at heq
        generalize ks[j] = y at *
        obtain ⟨yo, yv, yt, yn, yN, yA, yc, yk⟩ := y
        simp only [XT.ex] at a0 a1 a2 a3 a4 a5 a6 a7
        have hkd1 := kd_below hkd (one_alloc (o := .cells (exC (XT.mk yo yv yt yn yN yA yc yk).ex) 29))
        generalize hkk : kindP cols (XT.mk yo yv yt yn yN yA yc yk) false = r at *
        obtain ⟨r1, r2⟩ := r
        have HKC := Lib.hid hkc
        have HQ := Lib.hid heq
        have HKD := Lib.hid hkd1
        have hj2 : j < 2 := by have := HM.out; omega
        have hj2I : (j : Int) < 2 := by omega
        clear hkc heq hd hkd1 hkd hjx hkk
        by_cases hr : r2 = 0
        · subst hr
          go_wp2_with fail
          refine (HKC.out _ HKD.out.2.2).mono ?_
          rintro e w5 ⟨rfl, hb5⟩
          have hkd5 := kd_below HKD.out hb5
          obtain ⟨f0, u, c0⟩ := kd_at hkd5 j hj2
          obtain ⟨k0', k1', hk', htk⟩ := kd_setj hkd5 j hj2 r1
          have HK5 := Lib.hid hk'
          have HR : Hid (kindL cols ks false = ([k0', k1'].take (j + 1) ++ (kindL cols (ks.drop (j + 1)) false).1, (kindL cols (ks.drop (j + 1)) false).2)) := Lib.hid (by rw [HQ.out, htk, if_neg (by simp)]; simp)
          clear hb5 hkd5 hk' htk HKC HQ HKD
          go_wp2
          go_roundw
          case rel => exact ⟨j + 1, k0', k1', by omega, by go_num, HR.out, HK5.out⟩
          case measure => simp [intOf]; omega
        · have hrb : (r2 != 0) = true := by simp [bne, hr]
          have HR : Hid (kindF op (kindL cols ks false) = (0, r2)) := Lib.hid (by rw [HQ.out, if_pos hr]; unfold kindF; rw [if_pos hr])
          clear HQ
          go_wp2_with fail
          refine (HKC.out _ HKD.out.2.2).mono ?_
          rintro e w5 ⟨rfl, hb5⟩
          have HB := Lib.hid (kd_below HKD.out hb5)
          clear hb5 HKC HKD hr
          go_wp2
          go_ret2
          exact ⟨by rw [HR.out]; rfl, HB.out.2.2⟩
      · obtain rfl : j = m := by omega
        have hR : kindL cols ks false = ([k0, k1].take j, 0) := by rw [heq, List.drop_of_length_le (by have := HN.out; omega)]; simp [kindL]
        clear heq
        have HR := Lib.hid hR
        have HT := Lib.hid (fun (W : World) (h : Kd w ⟨op, (vk, vn, vs), tb, nm, n, some ⟨b, o, none⟩, j, c⟩ k0 k1 W) => tog_all op (w.heap.size + 1) 0 j 2 ([k0, k1].take j) W HOP.out.1 HOP.out.2 (.inr (fun e => by have := congrArg List.length e; rw [List.length_take] at this; simp at this; have := HM0.out; omega)) (kd_u8s h j) (by rw [List.length_take]; simp only [List.length_cons, List.length_nil]; have := HM.out; omega) (by have := HM.out; omega))
        obtain ⟨c0, c7, a0⟩ := kd_cells hkd
        have HKD := Lib.hid hkd
        clear hkd hR
        have hmn : ¬ ((j : Int) < 0) := by omega
        have hs := kd_below HKD.out (Below.refl _ _).drew
        have hmn2 : (j : Int) ≤ 2 := by omega
        have hjn : j ≤ 2 := by omega
        have H0 := Lib.hid (show ([k0, k1].take j).headD 0 = k0 by have := HM0.out; cases j with | zero => omega | succ j => rfl)
        obtain ⟨L, hL⟩ : ∃ L, [k0, k1].take j = L := ⟨_, rfl⟩
        rw [hL] at HT H0 HR
        clear hL
        cases ht : togA op L
        · rw [ht] at HT
          have HF := Lib.hid (show kindF op (L, 0) = (0, 150) by unfold kindF; rw [if_neg (by simp)]; simp only [ht]; rfl)
          clear ht
          go_wp2_with fail
          go_region_held3 (fun W => W.cell? ⟨w.heap.size, 0, none⟩ = some (.int .u8 op) ∧ W.cell? ⟨w.heap.size, 7, none⟩ = some (.slice (some ⟨b, o, none⟩) j c))
            (with_reducible exact kd_two (by assumption))
            (first | (go_at_call 42; (with_reducible refine (HT.out _ (by assumption)).mono ?_); rintro e w5 ⟨rfl, rfl⟩))
          all_goals
            go_wp2
            go_ret2
            exact ⟨by rw [HR.out, HF.out]; rfl, hs.2.2⟩
        · rw [ht] at HT
          by_cases h11 : op = 11
          · have HF := Lib.hid (show kindF op (L, 0) = (2, 0) by unfold kindF; rw [if_neg (by simp)]; simp only [ht]; rw [if_neg (by simp), if_pos h11])
            have b1 : (op == 11) = true := by simp [h11]
            clear ht h11
            go_wp2_with fail
            go_region_held3 (fun W => W.cell? ⟨w.heap.size, 0, none⟩ = some (.int .u8 op) ∧ W.cell? ⟨w.heap.size, 7, none⟩ = some (.slice (some ⟨b, o, none⟩) j c))
              (with_reducible exact kd_two (by assumption))
              (first | (go_at_call 42; (with_reducible refine (HT.out _ (by assumption)).mono ?_); rintro e w5 ⟨rfl, rfl⟩))
            all_goals
              go_wp2
              go_ret2
              exact ⟨by rw [HR.out, HF.out]; rfl, hs.2.2⟩
          have b1 := beq_no h11
          by_cases h22 : op = 22
          · have HF := Lib.hid (show kindF op (L, 0) = (k0, 0) by unfold kindF; rw [if_neg (by simp)]; simp only [ht]; rw [if_neg (by simp), if_neg h11, if_pos (by omega), H0.out])
            have b2 : (op == 22) = true := by simp [h22]
            clear ht h11 h22
            go_wp2_with fail
            go_region_held3 (fun W => W.cell? ⟨w.heap.size, 0, none⟩ = some (.int .u8 op) ∧ W.cell? ⟨w.heap.size, 7, none⟩ = some (.slice (some ⟨b, o, none⟩) j c))
              (with_reducible exact kd_two (by assumption))
              (first | (go_at_call 42; (with_reducible refine (HT.out _ (by assumption)).mono ?_); rintro e w5 ⟨rfl, rfl⟩))
            all_goals
              have a0 := hs.2.1.cell 0
              go_wp2
              go_ret2
              exact ⟨by rw [HR.out, HF.out]; rfl, hs.2.2⟩
          have b2 := beq_no h22
          by_cases h23 : op = 23
          · have HF := Lib.hid (show kindF op (L, 0) = (k0, 0) by unfold kindF; rw [if_neg (by simp)]; simp only [ht]; rw [if_neg (by simp), if_neg h11, if_pos (by omega), H0.out])
            have b3 : (op == 23) = true := by simp [h23]
            clear ht h11 h22 h23
            go_wp2_with fail
            go_region_held3 (fun W => W.cell? ⟨w.heap.size, 0, none⟩ = some (.int .u8 op) ∧ W.cell? ⟨w.heap.size, 7, none⟩ = some (.slice (some ⟨b, o, none⟩) j c))
              (with_reducible exact kd_two (by assumption))
              (first | (go_at_call 42; (with_reducible refine (HT.out _ (by assumption)).mono ?_); rintro e w5 ⟨rfl, rfl⟩))
            all_goals
              have a0 := hs.2.1.cell 0
              go_wp2
              go_ret2
              exact ⟨by rw [HR.out, HF.out]; rfl, hs.2.2⟩
          have b3 := beq_no h23
          have HF := Lib.hid (show kindF op (L, 0) = (1, 0) by unfold kindF; rw [if_neg (by simp)]; simp only [ht]; rw [if_neg (by simp), if_neg h11, if_neg (by have := HOP.out; omega)])
          clear ht h11 h22 h23
          go_wp2_with fail
          go_region_held3 (fun W => W.cell? ⟨w.heap.size, 0, none⟩ = some (.int .u8 op) ∧ W.cell? ⟨w.heap.size, 7, none⟩ = some (.slice (some ⟨b, o, none⟩) j c))
            (with_reducible exact kd_two (by assumption))
            (first | (go_at_call 42; (with_reducible refine (HT.out _ (by assumption)).mono ?_); rintro e w5 ⟨rfl, rfl⟩))
          all_goals
            go_wp2
            go_ret2
            exact ⟨by rw [HR.out, HF.out]; rfl, hs.2.2⟩
end Go.Proofs.Ytkgpcodccpckeaa
