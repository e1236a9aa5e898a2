/- Layer 22: change.Check. Conditions: those of each lemma. -/
import Derived.Test.YtocbdehcjcggeaaCg7
namespace Go.Proofs.Ytocbdehcjcggeaa
open Go.RowKit Go
set_option linter.unusedVariables false
set_option linter.unusedSimpArgs false
/-- the change at j may be, and stands behind the one ahead of it -/
def OkAt (l : List Cg) (j : Nat) : Prop := ∃ x, l[j]? = some x ∧ mayC x = true ∧ ∀ i y, j = i + 1 → l[i]? = some y → cgCmp y x < 0
def OkUp (l : List Cg) (j : Nat) : Prop := ∀ i, i < j → OkAt l i
def OkC (l : List Cg) : Prop := l.length ≤ 1000 ∧ OkUp l l.length
open Classical in
noncomputable def chkG (l : List Cg) : Int := if OkC l then 0 else 2
theorem chkG_ok {l : List Cg} (h : OkC l) : chkG l = 0 := if_pos h
theorem chkG_no {l : List Cg} (h : ¬ OkC l) : chkG l = 2 := if_neg h
theorem chkG_zero {l : List Cg} (h : chkG l = 0) : OkC l := by
  unfold chkG at h
  split at h
  · assumption
  · cases h
theorem okUp_succ {l : List Cg} {j : Nat} (h : OkUp l j) (hj : OkAt l j) : OkUp l (j + 1) := fun i hi => by
  rcases Nat.lt_or_ge i j with h1 | h1
  · exact h i h1
  · obtain rfl : i = j := by omega
    exact hj
theorem may_len {x : Cg} (h : mayC x = true) : x.k.length ≤ 16 := by
  unfold mayC at h
  simp only [Bool.and_eq_true, decide_eq_true_eq] at h
  have h4 := h.2.2.2.1
  unfold sizeZ at h4
  split at h4
  · rename_i h5; exact chkR_len h5
  · cases h4
/-- a change at a block -/
def Ck (w : World) (g : Nat) (x : Cg) (W : World) : Prop := Blk W g 33 (cgC x) ∧ Below w.heap.size w W
theorem ck_step {w W W' : World} {g : Nat} {x : Cg} (h : Ck w g x W) (hb : Below W.heap.size W W') : Ck w g x W' := ⟨blk_step h.1 hb, bj h.2 hb⟩
theorem ck_cells {w W : World} {g : Nat} {x : Cg} (h : Ck w g x W) : W.cell? ⟨g, 0, none⟩ = some (.string x.t) ∧ W.cell? ⟨g, 1, none⟩ = some (.slice x.kA x.k.length x.kc) ∧ W.cell? ⟨g, 2, none⟩ = some (.slice x.oA x.o.length x.oc) ∧ W.cell? ⟨g, 3, none⟩ = some (.slice x.nA x.n.length x.nc) := ⟨h.1.cell 0, h.1.cell 1, h.1.cell 2, h.1.cell 3⟩
theorem ck_new {w wr : World} {x : Cg} (hb : Below w.heap.size w wr) : Ck w wr.heap.size x (wr.alloc (.cells (cgC x) 33)) := ⟨Blk.new _ _ _, bj hb one_allocC⟩
def dCk1 : Nat → List Nat
  | 1 => [0]
  | 2 => [1]
  | 3 => [2]
  | 4 => [3]
  | 5 => [3, 4]
  | 6 => [3, 5]
  | 7 => [6]
  | 8 => [6]
  | 9 => [6, 8]
  | 10 => [6, 7, 9]
  | 11 => [6, 10]
  | 12 => [6]
  | 13 => [6, 11, 12]
  | 14 => [6, 13]
  | 15 => [3, 6, 14]
  | 16 => [3, 15]
  | _ => []
def mkCk1 (g b o n c j : Nat) (X Y : Cg) (cc : Int) (bge : Bool) : Nat → Nat → Nat → Nat → Value
  | 0, k, k1, k2 => .agg (cgC X)
  | 1, k, k1, k2 => .bool false
  | 2, k, k1, k2 => .bool true
  | 3, k, k1, k2 => .bool true
  | 4, k, k1, k2 => undef
  | 5, k, k1, k2 => undef
  | 6, k, k1, k2 => undef
  | 7, k, k1, k2 => undef
  | 8, k, k1, k2 => undef
  | 9, k, k1, k2 => undef
  | 10, k, k1, k2 => undef
  | 11, k, k1, k2 => undef
  | 12, k, k1, k2 => undef
  | 13, k, k1, k2 => undef
  | 14, k, k1, k2 => undef
  | 15, k, k1, k2 => undef
  | 16, k, k1, k2 => .bool true
  | _, _, _, _ => .bool false
def dCk2 : Nat → List Nat
  | 1 => [0]
  | 2 => [1]
  | 3 => [2]
  | 4 => [3]
  | 5 => [3, 4]
  | 6 => [3, 5]
  | 7 => [6]
  | 8 => [6]
  | 9 => [6, 8]
  | 10 => [6, 7, 9]
  | 11 => [6, 10]
  | 12 => [6]
  | 13 => [6, 11, 12]
  | 14 => [6, 13]
  | 15 => [3, 6, 14]
  | 16 => [3, 15]
  | _ => []
def mkCk2 (g b o n c j : Nat) (X Y : Cg) (cc : Int) (bge : Bool) : Nat → Nat → Nat → Nat → Value
  | 0, k, k1, k2 => .agg (cgC X)
  | 1, k, k1, k2 => .bool true
  | 2, k, k1, k2 => .bool false
  | 3, k, k1, k2 => .bool false
  | 4, k, k1, k2 => .int .i64 (j : Int)
  | 5, k, k1, k2 => .bool false
  | 6, k, k1, k2 => .bool false
  | 7, k, k1, k2 => undef
  | 8, k, k1, k2 => undef
  | 9, k, k1, k2 => undef
  | 10, k, k1, k2 => undef
  | 11, k, k1, k2 => undef
  | 12, k, k1, k2 => undef
  | 13, k, k1, k2 => undef
  | 14, k, k1, k2 => undef
  | 15, k, k1, k2 => .bool false
  | 16, k, k1, k2 => .bool false
  | _, _, _, _ => .bool false
def dCk3 : Nat → List Nat
  | 1 => [0]
  | 2 => [1]
  | 3 => [2]
  | 4 => [3]
  | 5 => [3, 4]
  | 6 => [3, 5]
  | 7 => [6]
  | 8 => [6]
  | 9 => [6, 8]
  | 10 => [6, 7, 9]
  | 11 => [6, 10]
  | 12 => [6]
  | 13 => [6, 11, 12]
  | 14 => [6, 13]
  | 15 => [3, 6, 14]
  | 16 => [3, 15]
  | _ => []
def mkCk3 (g b o n c j : Nat) (X Y : Cg) (cc : Int) (bge : Bool) : Nat → Nat → Nat → Nat → Value
  | 0, k, k1, k2 => .agg (cgC X)
  | 1, k, k1, k2 => .bool true
  | 2, k, k1, k2 => .bool false
  | 3, k, k1, k2 => .bool false
  | 4, k, k1, k2 => .int .i64 (j : Int)
  | 5, k, k1, k2 => .bool true
  | 6, k, k1, k2 => .bool true
  | 7, k, k1, k2 => .slice (some ⟨b, o, none⟩) n c
  | 8, k, k1, k2 => .int .i64 (j : Int)
  | 9, k, k1, k2 => .int .i64 ((j : Int) - 1)
  | 10, k, k1, k2 => .pointer (some ⟨b, o + (j - 1) * 4, none⟩)
  | 11, k, k1, k2 => .agg (cgC Y)
  | 12, k, k1, k2 => .agg (cgC X)
  | 13, k, k1, k2 => .int .i64 cc
  | 14, k, k1, k2 => .bool bge
  | 15, k, k1, k2 => .bool bge
  | 16, k, k1, k2 => .bool bge
  | _, _, _, _ => .bool false
set_option maxRecDepth 100000 in
set_option maxHeartbeats 8000000 in
theorem gcheck_any (A : Option Addr) (l : List Cg) (n c : Nat) (w : World) (hO : Cgs w w.heap.size A l) (hn : n = l.length) (hm : n ≤ maxLen) (hfit : ∀ x ∈ l, FitC x) :
    Calls Try.prog 17 #[.slice A n c] w fun e w' => e = .returned (.int .i64 (chkG l)) ∧ Below w.heap.size w w' := by
  have hmI : (n : Int) ≤ 9223372036854775807 := by unfold maxLen at hm; omega
  have HN := Lib.hid hn
  by_cases hbig : 1000 < n
  · have HR := Lib.hid (chkG_no (l := l) (fun h => by have := h.1; omega))
    have hbI : (1000 : Int) < n := by omega
    clear hn hm
    go_enter Try.func17, Try.ntmps17
    go_wp2
    go_ret
    exact ⟨rint HR.out.symm, Below.refl _ _⟩
  have hbI : ¬ (1000 : Int) < n := by omega
  have HBIG := Lib.hid hbig
  clear hn hm hbig
  go_enter Try.func17, Try.ntmps17
  go_wp2
  go_loopw [10] (fun i wr => ∃ j : Nat, j ≤ n ∧ i = .int .i64 j ∧ OkUp l j ∧ Below w.heap.size w wr) (fun i _ => n - (intOf i).toNat)
  case atStart => exact ⟨0, by omega, rfl, fun i hi => by omega, Below.refl _ _⟩
  case round =>
    obtain ⟨j, hj, rfl, hok, hbr⟩ := hrel
    by_cases hjn : j < n
    · have hlt : j < l.length := by have := HN.out; omega
      obtain ⟨b, o, rfl, hbl, hcs⟩ := cgs_get hO (fun e => by rw [e] at hlt; simp at hlt)
      have HIN := Lib.hid (hcs w (Below.refl _ _) j l[j] (List.getElem?_eq_getElem hlt)).2
      obtain ⟨⟨a0, a1, a2, a3⟩, _⟩ := hcs wr hbr j l[j] (List.getElem?_eq_getElem hlt)
      have HFX := Lib.hid (hfit l[j] (List.getElem_mem hlt))
      have HLJ := Lib.hid (List.getElem?_eq_getElem hlt)
      have HOK := Lib.hid hok
      have HCS := Lib.hid (hcs w (Below.refl _ _))
      have HFIT := Lib.hid hfit
      have HG := Lib.hid (show b < w.heap.size from hbl)
      have HBR := Lib.hid hbr
      have hjI : (j : Int) < n := by omega
      generalize l[j] = X at *
      clear hcs hok hfit hbr hlt hbl hO
      have HM := Lib.hid (show ∀ W, Below w.heap.size w W → Calls Try.prog 39 #[.agg (cgC X)] W fun e w' => e = .returned (.bool (mayC X)) ∧ Below W.heap.size W w' from fun W hb =>
        mayBe_any X W (cgIn_mono (cgIn_below HIN.out hb) hb.size) HFX.out)
      obtain ⟨Y, hy⟩ : ∃ Y : Cg, Y = X := ⟨_, rfl⟩
      obtain ⟨cc, hcc⟩ : ∃ cc : Int, cc = 0 := ⟨_, rfl⟩
      obtain ⟨bge, hbge⟩ : ∃ bge : Bool, bge = true := ⟨_, rfl⟩
      clear hy hcc hbge
      go_upto_region 6 with fail
      have HS := Lib.hid (show Ck w wr.heap.size X ((wr.alloc (.cells #[.string X.t, .slice X.kA X.k.length X.kc, .slice X.oA X.o.length X.oc, .slice X.nA X.n.length X.nc] 33)).drew) from ck_step (ck_new HBR.out) (Below.refl _ _).drew)
      clear a0 a1 a2 a3 HBR
      rcases hmx : mayC X with _ | _
      · have HR : Hid (chkG l = 2) := Lib.hid (chkG_no (fun h => by
          obtain ⟨x', h1, h2, _⟩ := h.2 j (by have := HN.out; omega)
          rw [HLJ.out] at h1
          cases h1
          rw [hmx] at h2
          cases h2))
        rw [hmx] at HM
        clear hmx
        refine wp_region_noPanic ?_
        refine wp_region_any (by kernel_rfl) ?_
        refine facts_start (0 :: 1 :: 2 :: 3 :: 4 :: 5 :: 6 :: 7 :: 8 :: 9 :: 10 :: 11 :: 12 :: 13 :: 14 :: 15 :: 16 :: []) [] dCk1 (Ft (mkCk1 wr.heap.size b o n c j X Y cc bge) (fun _ _ _ _ => [])) _ _ _ 0 _ #[true, true, true, true, true, true, true, true, true, true, true, true, true, true, true, true, true] (by kernel_rfl) (by rfl) ft_step no_al' ?hstep ?hend
        case hstep =>
          intro i hi x W hd hb K hK
          have hs := ck_step HS.out hb
          obtain ⟨p0, p1, p2, p3⟩ := ck_cells hs
          simp only [List.mem_cons, List.not_mem_nil, or_false] at hi
          rcases hi with rfl | rfl | rfl | rfl | rfl | rfl | rfl | rfl | rfl | rfl | rfl | rfl | rfl | rfl | rfl | rfl | rfl
          · generalize hA : putsA _ _ x (0 :: 1 :: 2 :: 3 :: 4 :: 5 :: 6 :: 7 :: 8 :: 9 :: 10 :: 11 :: 12 :: 13 :: 14 :: 15 :: 16 :: []) = A at *
            have e4 : A.tmps[4]? = some (.pointer (some ⟨wr.heap.size, 0, none⟩)) := by rw [← hA]; exact putsA_at 4 _ (by decide +kernel)
            clear hA hd
            refine wpOp_step rfl (fun K' hK' => ?_)
            go_simp
            exact hK' _ _ (hK _ _ ⟨0, 0, 0, rfl, al0⟩ (Below.refl _ _) no_al)
          · generalize hA : putsA _ _ x (0 :: 1 :: 2 :: 3 :: 4 :: 5 :: 6 :: 7 :: 8 :: 9 :: 10 :: 11 :: 12 :: 13 :: 14 :: 15 :: 16 :: []) = A at *
            have e15 : A.tmps[15]? = some (x 0) := by rw [← hA]; exact putsA_in (i := 0) 15 (by rfl) (by show (15 : Nat) < 33; decide) _ (by decide +kernel) (by decide)
            obtain ⟨_, _, _, f0, _⟩ := hd 0 (by decide)
            replace f0 : x 0 = .agg (cgC X) := f0
            rw [f0] at e15
            clear hA hd
            refine wpOp_step rfl (fun K' hK' => ?_)
            go_simp
            refine (HM.out W hs.2).mono ?_
            rintro e w6 ⟨rfl, hb6⟩
            exact hK' _ _ (hK _ _ ⟨0, 0, 0, rfl, al0⟩ hb6 no_al)
          · generalize hA : putsA _ _ x (0 :: 1 :: 2 :: 3 :: 4 :: 5 :: 6 :: 7 :: 8 :: 9 :: 10 :: 11 :: 12 :: 13 :: 14 :: 15 :: 16 :: []) = A at *
            have e16 : A.tmps[16]? = some (x 1) := by rw [← hA]; exact putsA_in (i := 1) 16 (by rfl) (by show (16 : Nat) < 33; decide) _ (by decide +kernel) (by decide)
            obtain ⟨_, _, _, f1, _⟩ := hd 1 (by decide)
            replace f1 : x 1 = .bool false := f1
            rw [f1] at e16
            clear hA hd
            refine wpOp_step rfl (fun K' hK' => ?_)
            go_simp
            exact hK' _ _ (hK _ _ ⟨0, 0, 0, rfl, al0⟩ (Below.refl _ _) no_al)
          · generalize hA : putsA _ _ x (0 :: 1 :: 2 :: 3 :: 4 :: 5 :: 6 :: 7 :: 8 :: 9 :: 10 :: 11 :: 12 :: 13 :: 14 :: 15 :: 16 :: []) = A at *
            have e17 : A.tmps[17]? = some (x 2) := by rw [← hA]; exact putsA_in (i := 2) 17 (by rfl) (by show (17 : Nat) < 33; decide) _ (by decide +kernel) (by decide)
            obtain ⟨_, _, _, f2, _⟩ := hd 2 (by decide)
            replace f2 : x 2 = .bool true := f2
            rw [f2] at e17
            clear hA hd
            refine wpOp_step rfl (fun K' hK' => ?_)
            go_simp
            exact hK' _ _ (hK _ _ ⟨0, 0, 0, rfl, al0⟩ (Below.refl _ _) no_al)
          · generalize hA : putsA _ _ x (0 :: 1 :: 2 :: 3 :: 4 :: 5 :: 6 :: 7 :: 8 :: 9 :: 10 :: 11 :: 12 :: 13 :: 14 :: 15 :: 16 :: []) = A at *
            have e3 : A.tmps[3]? = some (.int .i64 (j : Int)) := by rw [← hA]; exact putsA_at 3 _ (by decide +kernel)
            have e18 : A.tmps[18]? = some (x 3) := by rw [← hA]; exact putsA_in (i := 3) 18 (by rfl) (by show (18 : Nat) < 33; decide) _ (by decide +kernel) (by decide)
            obtain ⟨_, _, _, f3, _⟩ := hd 3 (by decide)
            replace f3 : x 3 = .bool true := f3
            rw [f3] at e18
            clear hA hd
            refine wpOp_step rfl (fun K' hK' => ?_)
            go_simp
            exact hK' _ _ (hK _ _ ⟨0, 0, 0, rfl, al0⟩ (Below.refl _ _) no_al)
          · generalize hA : putsA _ _ x (0 :: 1 :: 2 :: 3 :: 4 :: 5 :: 6 :: 7 :: 8 :: 9 :: 10 :: 11 :: 12 :: 13 :: 14 :: 15 :: 16 :: []) = A at *
            have e18 : A.tmps[18]? = some (x 3) := by rw [← hA]; exact putsA_in (i := 3) 18 (by rfl) (by show (18 : Nat) < 33; decide) _ (by decide +kernel) (by decide)
            obtain ⟨_, _, _, f3, _⟩ := hd 3 (by decide)
            replace f3 : x 3 = .bool true := f3
            rw [f3] at e18
            have e19 : A.tmps[19]? = some (x 4) := by rw [← hA]; exact putsA_in (i := 4) 19 (by rfl) (by show (19 : Nat) < 33; decide) _ (by decide +kernel) (by decide)
            obtain ⟨_, _, _, f4, _⟩ := hd 4 (by decide)
            replace f4 : x 4 = undef := f4
            rw [f4] at e19
            clear hA hd
            refine wpOp_step rfl (fun K' hK' => ?_)
            go_simp
            exact hK' _ _ (hK _ _ ⟨0, 0, 0, rfl, al0⟩ (Below.refl _ _) no_al)
          · generalize hA : putsA _ _ x (0 :: 1 :: 2 :: 3 :: 4 :: 5 :: 6 :: 7 :: 8 :: 9 :: 10 :: 11 :: 12 :: 13 :: 14 :: 15 :: 16 :: []) = A at *
            have e18 : A.tmps[18]? = some (x 3) := by rw [← hA]; exact putsA_in (i := 3) 18 (by rfl) (by show (18 : Nat) < 33; decide) _ (by decide +kernel) (by decide)
            obtain ⟨_, _, _, f3, _⟩ := hd 3 (by decide)
            replace f3 : x 3 = .bool true := f3
            rw [f3] at e18
            have e20 : A.tmps[20]? = some (x 5) := by rw [← hA]; exact putsA_in (i := 5) 20 (by rfl) (by show (20 : Nat) < 33; decide) _ (by decide +kernel) (by decide)
            obtain ⟨_, _, _, f5, _⟩ := hd 5 (by decide)
            replace f5 : x 5 = undef := f5
            rw [f5] at e20
            clear hA hd
            refine wpOp_step rfl (fun K' hK' => ?_)
            go_simp
            exact hK' _ _ (hK _ _ ⟨0, 0, 0, rfl, al0⟩ (Below.refl _ _) no_al)
          · generalize hA : putsA _ _ x (0 :: 1 :: 2 :: 3 :: 4 :: 5 :: 6 :: 7 :: 8 :: 9 :: 10 :: 11 :: 12 :: 13 :: 14 :: 15 :: 16 :: []) = A at *
            have e0 : A.tmps[0]? = some (.slice (some ⟨b, o, none⟩) n c) := by rw [← hA]; exact putsA_at 0 _ (by decide +kernel)
            have e21 : A.tmps[21]? = some (x 6) := by rw [← hA]; exact putsA_in (i := 6) 21 (by rfl) (by show (21 : Nat) < 33; decide) _ (by decide +kernel) (by decide)
            obtain ⟨_, _, _, f6, _⟩ := hd 6 (by decide)
            replace f6 : x 6 = undef := f6
            rw [f6] at e21
            clear hA hd
            refine wpOp_step rfl (fun K' hK' => ?_)
            go_simp
            exact hK' _ _ (hK _ _ ⟨0, 0, 0, rfl, al0⟩ (Below.refl _ _) no_al)
          · generalize hA : putsA _ _ x (0 :: 1 :: 2 :: 3 :: 4 :: 5 :: 6 :: 7 :: 8 :: 9 :: 10 :: 11 :: 12 :: 13 :: 14 :: 15 :: 16 :: []) = A at *
            have e3 : A.tmps[3]? = some (.int .i64 (j : Int)) := by rw [← hA]; exact putsA_at 3 _ (by decide +kernel)
            have e21 : A.tmps[21]? = some (x 6) := by rw [← hA]; exact putsA_in (i := 6) 21 (by rfl) (by show (21 : Nat) < 33; decide) _ (by decide +kernel) (by decide)
            obtain ⟨_, _, _, f6, _⟩ := hd 6 (by decide)
            replace f6 : x 6 = undef := f6
            rw [f6] at e21
            clear hA hd
            refine wpOp_step rfl (fun K' hK' => ?_)
            go_simp
            exact hK' _ _ (hK _ _ ⟨0, 0, 0, rfl, al0⟩ (Below.refl _ _) no_al)
          · generalize hA : putsA _ _ x (0 :: 1 :: 2 :: 3 :: 4 :: 5 :: 6 :: 7 :: 8 :: 9 :: 10 :: 11 :: 12 :: 13 :: 14 :: 15 :: 16 :: []) = A at *
            have e21 : A.tmps[21]? = some (x 6) := by rw [← hA]; exact putsA_in (i := 6) 21 (by rfl) (by show (21 : Nat) < 33; decide) _ (by decide +kernel) (by decide)
            obtain ⟨_, _, _, f6, _⟩ := hd 6 (by decide)
            replace f6 : x 6 = undef := f6
            rw [f6] at e21
            have e23 : A.tmps[23]? = some (x 8) := by rw [← hA]; exact putsA_in (i := 8) 23 (by rfl) (by show (23 : Nat) < 33; decide) _ (by decide +kernel) (by decide)
            obtain ⟨_, _, _, f8, _⟩ := hd 8 (by decide)
            replace f8 : x 8 = undef := f8
            rw [f8] at e23
            clear hA hd
            refine wpOp_step rfl (fun K' hK' => ?_)
            go_simp
            exact hK' _ _ (hK _ _ ⟨0, 0, 0, rfl, al0⟩ (Below.refl _ _) no_al)
          · generalize hA : putsA _ _ x (0 :: 1 :: 2 :: 3 :: 4 :: 5 :: 6 :: 7 :: 8 :: 9 :: 10 :: 11 :: 12 :: 13 :: 14 :: 15 :: 16 :: []) = A at *
            have e21 : A.tmps[21]? = some (x 6) := by rw [← hA]; exact putsA_in (i := 6) 21 (by rfl) (by show (21 : Nat) < 33; decide) _ (by decide +kernel) (by decide)
            obtain ⟨_, _, _, f6, _⟩ := hd 6 (by decide)
            replace f6 : x 6 = undef := f6
            rw [f6] at e21
            have e22 : A.tmps[22]? = some (x 7) := by rw [← hA]; exact putsA_in (i := 7) 22 (by rfl) (by show (22 : Nat) < 33; decide) _ (by decide +kernel) (by decide)
            obtain ⟨_, _, _, f7, _⟩ := hd 7 (by decide)
            replace f7 : x 7 = undef := f7
            rw [f7] at e22
            have e24 : A.tmps[24]? = some (x 9) := by rw [← hA]; exact putsA_in (i := 9) 24 (by rfl) (by show (24 : Nat) < 33; decide) _ (by decide +kernel) (by decide)
            obtain ⟨_, _, _, f9, _⟩ := hd 9 (by decide)
            replace f9 : x 9 = undef := f9
            rw [f9] at e24
            clear hA hd
            refine wpOp_step rfl (fun K' hK' => ?_)
            go_simp
            exact hK' _ _ (hK _ _ ⟨0, 0, 0, rfl, al0⟩ (Below.refl _ _) no_al)
          · generalize hA : putsA _ _ x (0 :: 1 :: 2 :: 3 :: 4 :: 5 :: 6 :: 7 :: 8 :: 9 :: 10 :: 11 :: 12 :: 13 :: 14 :: 15 :: 16 :: []) = A at *
            have e21 : A.tmps[21]? = some (x 6) := by rw [← hA]; exact putsA_in (i := 6) 21 (by rfl) (by show (21 : Nat) < 33; decide) _ (by decide +kernel) (by decide)
            obtain ⟨_, _, _, f6, _⟩ := hd 6 (by decide)
            replace f6 : x 6 = undef := f6
            rw [f6] at e21
            have e25 : A.tmps[25]? = some (x 10) := by rw [← hA]; exact putsA_in (i := 10) 25 (by rfl) (by show (25 : Nat) < 33; decide) _ (by decide +kernel) (by decide)
            obtain ⟨_, _, _, f10, _⟩ := hd 10 (by decide)
            replace f10 : x 10 = undef := f10
            rw [f10] at e25
            clear hA hd
            refine wpOp_step rfl (fun K' hK' => ?_)
            go_simp
            exact hK' _ _ (hK _ _ ⟨0, 0, 0, rfl, al0⟩ (Below.refl _ _) no_al)
          · generalize hA : putsA _ _ x (0 :: 1 :: 2 :: 3 :: 4 :: 5 :: 6 :: 7 :: 8 :: 9 :: 10 :: 11 :: 12 :: 13 :: 14 :: 15 :: 16 :: []) = A at *
            have e4 : A.tmps[4]? = some (.pointer (some ⟨wr.heap.size, 0, none⟩)) := by rw [← hA]; exact putsA_at 4 _ (by decide +kernel)
            have e21 : A.tmps[21]? = some (x 6) := by rw [← hA]; exact putsA_in (i := 6) 21 (by rfl) (by show (21 : Nat) < 33; decide) _ (by decide +kernel) (by decide)
            obtain ⟨_, _, _, f6, _⟩ := hd 6 (by decide)
            replace f6 : x 6 = undef := f6
            rw [f6] at e21
            clear hA hd
            refine wpOp_step rfl (fun K' hK' => ?_)
            go_simp
            exact hK' _ _ (hK _ _ ⟨0, 0, 0, rfl, al0⟩ (Below.refl _ _) no_al)
          · generalize hA : putsA _ _ x (0 :: 1 :: 2 :: 3 :: 4 :: 5 :: 6 :: 7 :: 8 :: 9 :: 10 :: 11 :: 12 :: 13 :: 14 :: 15 :: 16 :: []) = A at *
            have e21 : A.tmps[21]? = some (x 6) := by rw [← hA]; exact putsA_in (i := 6) 21 (by rfl) (by show (21 : Nat) < 33; decide) _ (by decide +kernel) (by decide)
            obtain ⟨_, _, _, f6, _⟩ := hd 6 (by decide)
            replace f6 : x 6 = undef := f6
            rw [f6] at e21
            have e26 : A.tmps[26]? = some (x 11) := by rw [← hA]; exact putsA_in (i := 11) 26 (by rfl) (by show (26 : Nat) < 33; decide) _ (by decide +kernel) (by decide)
            obtain ⟨_, _, _, f11, _⟩ := hd 11 (by decide)
            replace f11 : x 11 = undef := f11
            rw [f11] at e26
            have e27 : A.tmps[27]? = some (x 12) := by rw [← hA]; exact putsA_in (i := 12) 27 (by rfl) (by show (27 : Nat) < 33; decide) _ (by decide +kernel) (by decide)
            obtain ⟨_, _, _, f12, _⟩ := hd 12 (by decide)
            replace f12 : x 12 = undef := f12
            rw [f12] at e27
            clear hA hd
            refine wpOp_step rfl (fun K' hK' => ?_)
            go_simp
            exact hK' _ _ (hK _ _ ⟨0, 0, 0, rfl, al0⟩ (Below.refl _ _) no_al)
          · generalize hA : putsA _ _ x (0 :: 1 :: 2 :: 3 :: 4 :: 5 :: 6 :: 7 :: 8 :: 9 :: 10 :: 11 :: 12 :: 13 :: 14 :: 15 :: 16 :: []) = A at *
            have e21 : A.tmps[21]? = some (x 6) := by rw [← hA]; exact putsA_in (i := 6) 21 (by rfl) (by show (21 : Nat) < 33; decide) _ (by decide +kernel) (by decide)
            obtain ⟨_, _, _, f6, _⟩ := hd 6 (by decide)
            replace f6 : x 6 = undef := f6
            rw [f6] at e21
            have e28 : A.tmps[28]? = some (x 13) := by rw [← hA]; exact putsA_in (i := 13) 28 (by rfl) (by show (28 : Nat) < 33; decide) _ (by decide +kernel) (by decide)
            obtain ⟨_, _, _, f13, _⟩ := hd 13 (by decide)
            replace f13 : x 13 = undef := f13
            rw [f13] at e28
            clear hA hd
            refine wpOp_step rfl (fun K' hK' => ?_)
            go_simp
            exact hK' _ _ (hK _ _ ⟨0, 0, 0, rfl, al0⟩ (Below.refl _ _) no_al)
          · generalize hA : putsA _ _ x (0 :: 1 :: 2 :: 3 :: 4 :: 5 :: 6 :: 7 :: 8 :: 9 :: 10 :: 11 :: 12 :: 13 :: 14 :: 15 :: 16 :: []) = A at *
            have e18 : A.tmps[18]? = some (x 3) := by rw [← hA]; exact putsA_in (i := 3) 18 (by rfl) (by show (18 : Nat) < 33; decide) _ (by decide +kernel) (by decide)
            obtain ⟨_, _, _, f3, _⟩ := hd 3 (by decide)
            replace f3 : x 3 = .bool true := f3
            rw [f3] at e18
            have e21 : A.tmps[21]? = some (x 6) := by rw [← hA]; exact putsA_in (i := 6) 21 (by rfl) (by show (21 : Nat) < 33; decide) _ (by decide +kernel) (by decide)
            obtain ⟨_, _, _, f6, _⟩ := hd 6 (by decide)
            replace f6 : x 6 = undef := f6
            rw [f6] at e21
            have e29 : A.tmps[29]? = some (x 14) := by rw [← hA]; exact putsA_in (i := 14) 29 (by rfl) (by show (29 : Nat) < 33; decide) _ (by decide +kernel) (by decide)
            obtain ⟨_, _, _, f14, _⟩ := hd 14 (by decide)
            replace f14 : x 14 = undef := f14
            rw [f14] at e29
            clear hA hd
            refine wpOp_step rfl (fun K' hK' => ?_)
            go_simp
            exact hK' _ _ (hK _ _ ⟨0, 0, 0, rfl, al0⟩ (Below.refl _ _) no_al)
          · generalize hA : putsA _ _ x (0 :: 1 :: 2 :: 3 :: 4 :: 5 :: 6 :: 7 :: 8 :: 9 :: 10 :: 11 :: 12 :: 13 :: 14 :: 15 :: 16 :: []) = A at *
            have e18 : A.tmps[18]? = some (x 3) := by rw [← hA]; exact putsA_in (i := 3) 18 (by rfl) (by show (18 : Nat) < 33; decide) _ (by decide +kernel) (by decide)
            obtain ⟨_, _, _, f3, _⟩ := hd 3 (by decide)
            replace f3 : x 3 = .bool true := f3
            rw [f3] at e18
            have e30 : A.tmps[30]? = some (x 15) := by rw [← hA]; exact putsA_in (i := 15) 30 (by rfl) (by show (30 : Nat) < 33; decide) _ (by decide +kernel) (by decide)
            obtain ⟨_, _, _, f15, _⟩ := hd 15 (by decide)
            replace f15 : x 15 = undef := f15
            rw [f15] at e30
            clear hA hd
            refine wpOp_step rfl (fun K' hK' => ?_)
            go_simp
            exact hK' _ _ (hK _ _ ⟨0, 0, 0, rfl, al0⟩ (Below.refl _ _) no_al)
        case hend =>
          intro x W hf hg hb
          have HSE := Lib.hid (ck_step HS.out hb).2
          have hl16 : x 16 = .bool true := by
            obtain ⟨_, _, _, h, _⟩ := hf 16 (by decide)
            exact h
          rw [putsA_lit _ _ (0 :: 1 :: 2 :: 3 :: 4 :: 5 :: 6 :: 7 :: 8 :: 9 :: 10 :: 11 :: 12 :: 13 :: 14 :: 15 :: 16 :: []) ((15, 0) :: (16, 1) :: (17, 2) :: (18, 3) :: (19, 4) :: (20, 5) :: (21, 6) :: (22, 7) :: (23, 8) :: (24, 9) :: (25, 10) :: (26, 11) :: (27, 12) :: (28, 13) :: (29, 14) :: (30, 15) :: (31, 16) :: []) (by kernel_rfl)]
          simp only [setAll, ↓reduceIte, Nat.reduceAdd, Nat.reduceEqDiff]
          rw [hl16]
          clear hf hg hb hl16
          refine wpAny_done (by kernel_rfl) ?_ _
          refine NoPanic.normal ?_
          clear HS HM
          go_wp2
          go_ret
          exact ⟨rint HR.out.symm, HSE.out⟩
      · have HMX := Lib.hid hmx
        rw [hmx] at HM
        clear hmx
        by_cases hj0 : j = 0
        · have HR : Hid (OkUp l (j + 1)) := Lib.hid (okUp_succ HOK.out ⟨X, HLJ.out, HMX.out, fun i y h => by omega⟩)
          have hjd : decide (0 < j) = false := decide_eq_false (by omega)
          have hjd' : decide ((0 : Int) < (j : Int)) = false := decide_eq_false (by omega)
          clear hj0 HMX
          refine wp_region_noPanic ?_
          refine wp_region_any (by kernel_rfl) ?_
          refine facts_start (0 :: 1 :: 2 :: 3 :: 4 :: 5 :: 6 :: 7 :: 8 :: 9 :: 10 :: 11 :: 12 :: 13 :: 14 :: 15 :: 16 :: []) [] dCk2 (Ft (mkCk2 wr.heap.size b o n c j X Y cc bge) (fun _ _ _ _ => [])) _ _ _ 0 _ #[true, true, true, true, true, true, true, true, true, true, true, true, true, true, true, true, true] (by kernel_rfl) (by rfl) ft_step no_al' ?hstep ?hend
          case hstep =>
            intro i hi x W hd hb K hK
            have hs := ck_step HS.out hb
            obtain ⟨p0, p1, p2, p3⟩ := ck_cells hs
            simp only [List.mem_cons, List.not_mem_nil, or_false] at hi
            rcases hi with rfl | rfl | rfl | rfl | rfl | rfl | rfl | rfl | rfl | rfl | rfl | rfl | rfl | rfl | rfl | rfl | rfl
            · generalize hA : putsA _ _ x (0 :: 1 :: 2 :: 3 :: 4 :: 5 :: 6 :: 7 :: 8 :: 9 :: 10 :: 11 :: 12 :: 13 :: 14 :: 15 :: 16 :: []) = A at *
              have e4 : A.tmps[4]? = some (.pointer (some ⟨wr.heap.size, 0, none⟩)) := by rw [← hA]; exact putsA_at 4 _ (by decide +kernel)
              clear hA hd
              refine wpOp_step rfl (fun K' hK' => ?_)
              go_simp
              exact hK' _ _ (hK _ _ ⟨0, 0, 0, rfl, al0⟩ (Below.refl _ _) no_al)
            · generalize hA : putsA _ _ x (0 :: 1 :: 2 :: 3 :: 4 :: 5 :: 6 :: 7 :: 8 :: 9 :: 10 :: 11 :: 12 :: 13 :: 14 :: 15 :: 16 :: []) = A at *
              have e15 : A.tmps[15]? = some (x 0) := by rw [← hA]; exact putsA_in (i := 0) 15 (by rfl) (by show (15 : Nat) < 33; decide) _ (by decide +kernel) (by decide)
              obtain ⟨_, _, _, f0, _⟩ := hd 0 (by decide)
              replace f0 : x 0 = .agg (cgC X) := f0
              rw [f0] at e15
              clear hA hd
              refine wpOp_step rfl (fun K' hK' => ?_)
              go_simp
              refine (HM.out W hs.2).mono ?_
              rintro e w6 ⟨rfl, hb6⟩
              exact hK' _ _ (hK _ _ ⟨0, 0, 0, rfl, al0⟩ hb6 no_al)
            · generalize hA : putsA _ _ x (0 :: 1 :: 2 :: 3 :: 4 :: 5 :: 6 :: 7 :: 8 :: 9 :: 10 :: 11 :: 12 :: 13 :: 14 :: 15 :: 16 :: []) = A at *
              have e16 : A.tmps[16]? = some (x 1) := by rw [← hA]; exact putsA_in (i := 1) 16 (by rfl) (by show (16 : Nat) < 33; decide) _ (by decide +kernel) (by decide)
              obtain ⟨_, _, _, f1, _⟩ := hd 1 (by decide)
              replace f1 : x 1 = .bool true := f1
              rw [f1] at e16
              clear hA hd
              refine wpOp_step rfl (fun K' hK' => ?_)
              go_simp
              exact hK' _ _ (hK _ _ ⟨0, 0, 0, rfl, al0⟩ (Below.refl _ _) no_al)
            · generalize hA : putsA _ _ x (0 :: 1 :: 2 :: 3 :: 4 :: 5 :: 6 :: 7 :: 8 :: 9 :: 10 :: 11 :: 12 :: 13 :: 14 :: 15 :: 16 :: []) = A at *
              have e17 : A.tmps[17]? = some (x 2) := by rw [← hA]; exact putsA_in (i := 2) 17 (by rfl) (by show (17 : Nat) < 33; decide) _ (by decide +kernel) (by decide)
              obtain ⟨_, _, _, f2, _⟩ := hd 2 (by decide)
              replace f2 : x 2 = .bool false := f2
              rw [f2] at e17
              clear hA hd
              refine wpOp_step rfl (fun K' hK' => ?_)
              go_simp
              exact hK' _ _ (hK _ _ ⟨0, 0, 0, rfl, al0⟩ (Below.refl _ _) no_al)
            · generalize hA : putsA _ _ x (0 :: 1 :: 2 :: 3 :: 4 :: 5 :: 6 :: 7 :: 8 :: 9 :: 10 :: 11 :: 12 :: 13 :: 14 :: 15 :: 16 :: []) = A at *
              have e3 : A.tmps[3]? = some (.int .i64 (j : Int)) := by rw [← hA]; exact putsA_at 3 _ (by decide +kernel)
              have e18 : A.tmps[18]? = some (x 3) := by rw [← hA]; exact putsA_in (i := 3) 18 (by rfl) (by show (18 : Nat) < 33; decide) _ (by decide +kernel) (by decide)
              obtain ⟨_, _, _, f3, _⟩ := hd 3 (by decide)
              replace f3 : x 3 = .bool false := f3
              rw [f3] at e18
              clear hA hd
              refine wpOp_step rfl (fun K' hK' => ?_)
              go_simp
              exact hK' _ _ (hK _ _ ⟨0, 0, 0, rfl, al0⟩ (Below.refl _ _) no_al)
            · generalize hA : putsA _ _ x (0 :: 1 :: 2 :: 3 :: 4 :: 5 :: 6 :: 7 :: 8 :: 9 :: 10 :: 11 :: 12 :: 13 :: 14 :: 15 :: 16 :: []) = A at *
              have e18 : A.tmps[18]? = some (x 3) := by rw [← hA]; exact putsA_in (i := 3) 18 (by rfl) (by show (18 : Nat) < 33; decide) _ (by decide +kernel) (by decide)
              obtain ⟨_, _, _, f3, _⟩ := hd 3 (by decide)
              replace f3 : x 3 = .bool false := f3
              rw [f3] at e18
              have e19 : A.tmps[19]? = some (x 4) := by rw [← hA]; exact putsA_in (i := 4) 19 (by rfl) (by show (19 : Nat) < 33; decide) _ (by decide +kernel) (by decide)
              obtain ⟨_, _, _, f4, _⟩ := hd 4 (by decide)
              replace f4 : x 4 = .int .i64 (j : Int) := f4
              rw [f4] at e19
              clear hA hd
              refine wpOp_step rfl (fun K' hK' => ?_)
              go_simp
              exact hK' _ _ (hK _ _ ⟨0, 0, 0, rfl, al0⟩ (Below.refl _ _) no_al)
            · generalize hA : putsA _ _ x (0 :: 1 :: 2 :: 3 :: 4 :: 5 :: 6 :: 7 :: 8 :: 9 :: 10 :: 11 :: 12 :: 13 :: 14 :: 15 :: 16 :: []) = A at *
              have e18 : A.tmps[18]? = some (x 3) := by rw [← hA]; exact putsA_in (i := 3) 18 (by rfl) (by show (18 : Nat) < 33; decide) _ (by decide +kernel) (by decide)
              obtain ⟨_, _, _, f3, _⟩ := hd 3 (by decide)
              replace f3 : x 3 = .bool false := f3
              rw [f3] at e18
              have e20 : A.tmps[20]? = some (x 5) := by rw [← hA]; exact putsA_in (i := 5) 20 (by rfl) (by show (20 : Nat) < 33; decide) _ (by decide +kernel) (by decide)
              obtain ⟨_, _, _, f5, _⟩ := hd 5 (by decide)
              replace f5 : x 5 = .bool false := f5
              rw [f5] at e20
              clear hA hd
              refine wpOp_step rfl (fun K' hK' => ?_)
              go_simp
              exact hK' _ _ (hK _ _ ⟨0, 0, 0, rfl, al0⟩ (Below.refl _ _) no_al)
            · generalize hA : putsA _ _ x (0 :: 1 :: 2 :: 3 :: 4 :: 5 :: 6 :: 7 :: 8 :: 9 :: 10 :: 11 :: 12 :: 13 :: 14 :: 15 :: 16 :: []) = A at *
              have e0 : A.tmps[0]? = some (.slice (some ⟨b, o, none⟩) n c) := by rw [← hA]; exact putsA_at 0 _ (by decide +kernel)
              have e21 : A.tmps[21]? = some (x 6) := by rw [← hA]; exact putsA_in (i := 6) 21 (by rfl) (by show (21 : Nat) < 33; decide) _ (by decide +kernel) (by decide)
              obtain ⟨_, _, _, f6, _⟩ := hd 6 (by decide)
              replace f6 : x 6 = .bool false := f6
              rw [f6] at e21
              clear hA hd
              refine wpOp_step rfl (fun K' hK' => ?_)
              go_simp
              exact hK' _ _ (hK _ _ ⟨0, 0, 0, rfl, al0⟩ (Below.refl _ _) no_al)
            · generalize hA : putsA _ _ x (0 :: 1 :: 2 :: 3 :: 4 :: 5 :: 6 :: 7 :: 8 :: 9 :: 10 :: 11 :: 12 :: 13 :: 14 :: 15 :: 16 :: []) = A at *
              have e3 : A.tmps[3]? = some (.int .i64 (j : Int)) := by rw [← hA]; exact putsA_at 3 _ (by decide +kernel)
              have e21 : A.tmps[21]? = some (x 6) := by rw [← hA]; exact putsA_in (i := 6) 21 (by rfl) (by show (21 : Nat) < 33; decide) _ (by decide +kernel) (by decide)
              obtain ⟨_, _, _, f6, _⟩ := hd 6 (by decide)
              replace f6 : x 6 = .bool false := f6
              rw [f6] at e21
              clear hA hd
              refine wpOp_step rfl (fun K' hK' => ?_)
              go_simp
              exact hK' _ _ (hK _ _ ⟨0, 0, 0, rfl, al0⟩ (Below.refl _ _) no_al)
            · generalize hA : putsA _ _ x (0 :: 1 :: 2 :: 3 :: 4 :: 5 :: 6 :: 7 :: 8 :: 9 :: 10 :: 11 :: 12 :: 13 :: 14 :: 15 :: 16 :: []) = A at *
              have e21 : A.tmps[21]? = some (x 6) := by rw [← hA]; exact putsA_in (i := 6) 21 (by rfl) (by show (21 : Nat) < 33; decide) _ (by decide +kernel) (by decide)
              obtain ⟨_, _, _, f6, _⟩ := hd 6 (by decide)
              replace f6 : x 6 = .bool false := f6
              rw [f6] at e21
              have e23 : A.tmps[23]? = some (x 8) := by rw [← hA]; exact putsA_in (i := 8) 23 (by rfl) (by show (23 : Nat) < 33; decide) _ (by decide +kernel) (by decide)
              obtain ⟨_, _, _, f8, _⟩ := hd 8 (by decide)
              replace f8 : x 8 = undef := f8
              rw [f8] at e23
              clear hA hd
              refine wpOp_step rfl (fun K' hK' => ?_)
              go_simp
              exact hK' _ _ (hK _ _ ⟨0, 0, 0, rfl, al0⟩ (Below.refl _ _) no_al)
            · generalize hA : putsA _ _ x (0 :: 1 :: 2 :: 3 :: 4 :: 5 :: 6 :: 7 :: 8 :: 9 :: 10 :: 11 :: 12 :: 13 :: 14 :: 15 :: 16 :: []) = A at *
              have e21 : A.tmps[21]? = some (x 6) := by rw [← hA]; exact putsA_in (i := 6) 21 (by rfl) (by show (21 : Nat) < 33; decide) _ (by decide +kernel) (by decide)
              obtain ⟨_, _, _, f6, _⟩ := hd 6 (by decide)
              replace f6 : x 6 = .bool false := f6
              rw [f6] at e21
              have e22 : A.tmps[22]? = some (x 7) := by rw [← hA]; exact putsA_in (i := 7) 22 (by rfl) (by show (22 : Nat) < 33; decide) _ (by decide +kernel) (by decide)
              obtain ⟨_, _, _, f7, _⟩ := hd 7 (by decide)
              replace f7 : x 7 = undef := f7
              rw [f7] at e22
              have e24 : A.tmps[24]? = some (x 9) := by rw [← hA]; exact putsA_in (i := 9) 24 (by rfl) (by show (24 : Nat) < 33; decide) _ (by decide +kernel) (by decide)
              obtain ⟨_, _, _, f9, _⟩ := hd 9 (by decide)
              replace f9 : x 9 = undef := f9
              rw [f9] at e24
              clear hA hd
              refine wpOp_step rfl (fun K' hK' => ?_)
              go_simp
              exact hK' _ _ (hK _ _ ⟨0, 0, 0, rfl, al0⟩ (Below.refl _ _) no_al)
            · generalize hA : putsA _ _ x (0 :: 1 :: 2 :: 3 :: 4 :: 5 :: 6 :: 7 :: 8 :: 9 :: 10 :: 11 :: 12 :: 13 :: 14 :: 15 :: 16 :: []) = A at *
              have e21 : A.tmps[21]? = some (x 6) := by rw [← hA]; exact putsA_in (i := 6) 21 (by rfl) (by show (21 : Nat) < 33; decide) _ (by decide +kernel) (by decide)
              obtain ⟨_, _, _, f6, _⟩ := hd 6 (by decide)
              replace f6 : x 6 = .bool false := f6
              rw [f6] at e21
              have e25 : A.tmps[25]? = some (x 10) := by rw [← hA]; exact putsA_in (i := 10) 25 (by rfl) (by show (25 : Nat) < 33; decide) _ (by decide +kernel) (by decide)
              obtain ⟨_, _, _, f10, _⟩ := hd 10 (by decide)
              replace f10 : x 10 = undef := f10
              rw [f10] at e25
              clear hA hd
              refine wpOp_step rfl (fun K' hK' => ?_)
              go_simp
              exact hK' _ _ (hK _ _ ⟨0, 0, 0, rfl, al0⟩ (Below.refl _ _) no_al)
            · generalize hA : putsA _ _ x (0 :: 1 :: 2 :: 3 :: 4 :: 5 :: 6 :: 7 :: 8 :: 9 :: 10 :: 11 :: 12 :: 13 :: 14 :: 15 :: 16 :: []) = A at *
              have e4 : A.tmps[4]? = some (.pointer (some ⟨wr.heap.size, 0, none⟩)) := by rw [← hA]; exact putsA_at 4 _ (by decide +kernel)
              have e21 : A.tmps[21]? = some (x 6) := by rw [← hA]; exact putsA_in (i := 6) 21 (by rfl) (by show (21 : Nat) < 33; decide) _ (by decide +kernel) (by decide)
              obtain ⟨_, _, _, f6, _⟩ := hd 6 (by decide)
              replace f6 : x 6 = .bool false := f6
              rw [f6] at e21
              clear hA hd
              refine wpOp_step rfl (fun K' hK' => ?_)
              go_simp
              exact hK' _ _ (hK _ _ ⟨0, 0, 0, rfl, al0⟩ (Below.refl _ _) no_al)
            · generalize hA : putsA _ _ x (0 :: 1 :: 2 :: 3 :: 4 :: 5 :: 6 :: 7 :: 8 :: 9 :: 10 :: 11 :: 12 :: 13 :: 14 :: 15 :: 16 :: []) = A at *
              have e21 : A.tmps[21]? = some (x 6) := by rw [← hA]; exact putsA_in (i := 6) 21 (by rfl) (by show (21 : Nat) < 33; decide) _ (by decide +kernel) (by decide)
              obtain ⟨_, _, _, f6, _⟩ := hd 6 (by decide)
              replace f6 : x 6 = .bool false := f6
              rw [f6] at e21
              have e26 : A.tmps[26]? = some (x 11) := by rw [← hA]; exact putsA_in (i := 11) 26 (by rfl) (by show (26 : Nat) < 33; decide) _ (by decide +kernel) (by decide)
              obtain ⟨_, _, _, f11, _⟩ := hd 11 (by decide)
              replace f11 : x 11 = undef := f11
              rw [f11] at e26
              have e27 : A.tmps[27]? = some (x 12) := by rw [← hA]; exact putsA_in (i := 12) 27 (by rfl) (by show (27 : Nat) < 33; decide) _ (by decide +kernel) (by decide)
              obtain ⟨_, _, _, f12, _⟩ := hd 12 (by decide)
              replace f12 : x 12 = undef := f12
              rw [f12] at e27
              clear hA hd
              refine wpOp_step rfl (fun K' hK' => ?_)
              go_simp
              exact hK' _ _ (hK _ _ ⟨0, 0, 0, rfl, al0⟩ (Below.refl _ _) no_al)
            · generalize hA : putsA _ _ x (0 :: 1 :: 2 :: 3 :: 4 :: 5 :: 6 :: 7 :: 8 :: 9 :: 10 :: 11 :: 12 :: 13 :: 14 :: 15 :: 16 :: []) = A at *
              have e21 : A.tmps[21]? = some (x 6) := by rw [← hA]; exact putsA_in (i := 6) 21 (by rfl) (by show (21 : Nat) < 33; decide) _ (by decide +kernel) (by decide)
              obtain ⟨_, _, _, f6, _⟩ := hd 6 (by decide)
              replace f6 : x 6 = .bool false := f6
              rw [f6] at e21
              have e28 : A.tmps[28]? = some (x 13) := by rw [← hA]; exact putsA_in (i := 13) 28 (by rfl) (by show (28 : Nat) < 33; decide) _ (by decide +kernel) (by decide)
              obtain ⟨_, _, _, f13, _⟩ := hd 13 (by decide)
              replace f13 : x 13 = undef := f13
              rw [f13] at e28
              clear hA hd
              refine wpOp_step rfl (fun K' hK' => ?_)
              go_simp
              exact hK' _ _ (hK _ _ ⟨0, 0, 0, rfl, al0⟩ (Below.refl _ _) no_al)
            · generalize hA : putsA _ _ x (0 :: 1 :: 2 :: 3 :: 4 :: 5 :: 6 :: 7 :: 8 :: 9 :: 10 :: 11 :: 12 :: 13 :: 14 :: 15 :: 16 :: []) = A at *
              have e18 : A.tmps[18]? = some (x 3) := by rw [← hA]; exact putsA_in (i := 3) 18 (by rfl) (by show (18 : Nat) < 33; decide) _ (by decide +kernel) (by decide)
              obtain ⟨_, _, _, f3, _⟩ := hd 3 (by decide)
              replace f3 : x 3 = .bool false := f3
              rw [f3] at e18
              have e21 : A.tmps[21]? = some (x 6) := by rw [← hA]; exact putsA_in (i := 6) 21 (by rfl) (by show (21 : Nat) < 33; decide) _ (by decide +kernel) (by decide)
              obtain ⟨_, _, _, f6, _⟩ := hd 6 (by decide)
              replace f6 : x 6 = .bool false := f6
              rw [f6] at e21
              have e29 : A.tmps[29]? = some (x 14) := by rw [← hA]; exact putsA_in (i := 14) 29 (by rfl) (by show (29 : Nat) < 33; decide) _ (by decide +kernel) (by decide)
              obtain ⟨_, _, _, f14, _⟩ := hd 14 (by decide)
              replace f14 : x 14 = undef := f14
              rw [f14] at e29
              clear hA hd
              refine wpOp_step rfl (fun K' hK' => ?_)
              go_simp
              exact hK' _ _ (hK _ _ ⟨0, 0, 0, rfl, al0⟩ (Below.refl _ _) no_al)
            · generalize hA : putsA _ _ x (0 :: 1 :: 2 :: 3 :: 4 :: 5 :: 6 :: 7 :: 8 :: 9 :: 10 :: 11 :: 12 :: 13 :: 14 :: 15 :: 16 :: []) = A at *
              have e18 : A.tmps[18]? = some (x 3) := by rw [← hA]; exact putsA_in (i := 3) 18 (by rfl) (by show (18 : Nat) < 33; decide) _ (by decide +kernel) (by decide)
              obtain ⟨_, _, _, f3, _⟩ := hd 3 (by decide)
              replace f3 : x 3 = .bool false := f3
              rw [f3] at e18
              have e30 : A.tmps[30]? = some (x 15) := by rw [← hA]; exact putsA_in (i := 15) 30 (by rfl) (by show (30 : Nat) < 33; decide) _ (by decide +kernel) (by decide)
              obtain ⟨_, _, _, f15, _⟩ := hd 15 (by decide)
              replace f15 : x 15 = .bool false := f15
              rw [f15] at e30
              clear hA hd
              refine wpOp_step rfl (fun K' hK' => ?_)
              go_simp
              exact hK' _ _ (hK _ _ ⟨0, 0, 0, rfl, al0⟩ (Below.refl _ _) no_al)
          case hend =>
            intro x W hf hg hb
            have HSE := Lib.hid (ck_step HS.out hb).2
            have hl16 : x 16 = .bool false := by
              obtain ⟨_, _, _, h, _⟩ := hf 16 (by decide)
              exact h
            rw [putsA_lit _ _ (0 :: 1 :: 2 :: 3 :: 4 :: 5 :: 6 :: 7 :: 8 :: 9 :: 10 :: 11 :: 12 :: 13 :: 14 :: 15 :: 16 :: []) ((15, 0) :: (16, 1) :: (17, 2) :: (18, 3) :: (19, 4) :: (20, 5) :: (21, 6) :: (22, 7) :: (23, 8) :: (24, 9) :: (25, 10) :: (26, 11) :: (27, 12) :: (28, 13) :: (29, 14) :: (30, 15) :: (31, 16) :: []) (by kernel_rfl)]
            simp only [setAll, ↓reduceIte, Nat.reduceAdd, Nat.reduceEqDiff]
            rw [hl16]
            clear hf hg hb hl16
            refine wpAny_done (by kernel_rfl) ?_ _
            refine NoPanic.normal ?_
            clear HS HM
            go_wp2
            go_roundw
            case rel => exact ⟨j + 1, by omega, by go_num, HR.out, HSE.out⟩
            case measure => simp [intOf]; omega
        clear Y cc bge
        obtain ⟨Y, hy, hmy, _⟩ := HOK.out (j - 1) (by omega)
        obtain ⟨hcp, hiy⟩ := HCS.out (j - 1) Y hy
        have HCP := Lib.hid hcp
        have HCM := Lib.hid (show ∀ W, Below w.heap.size w W → Calls Try.prog 34 #[.agg (cgC Y), .agg (cgC X)] W fun e w' => e = .returned (.int .i64 (cgCmp Y X)) ∧ Below W.heap.size W w' from fun W hb =>
          cgcompare_any Y X W (vals_mono (vals_below hiy.1 hb) hb.size) (vals_mono (vals_below HIN.out.1 hb) hb.size) (by have := may_len hmy; omega) (by have := may_len HMX.out; omega))
        have HRF := Lib.hid (show ¬ (0 ≤ cgCmp Y X) → OkUp l (j + 1) from fun h => okUp_succ HOK.out ⟨X, HLJ.out, HMX.out, fun i z hi hz => by
          obtain rfl : j - 1 = i := by omega
          rw [hy] at hz
          cases hz
          omega⟩)
        have HRT := Lib.hid (show (0 ≤ cgCmp Y X) → chkG l = 2 from fun h => chkG_no (fun hC => by
          obtain ⟨x', h1, _, h3⟩ := hC.2 j (by have := HN.out; omega)
          rw [HLJ.out] at h1
          cases h1
          have := h3 (j - 1) Y (by omega) hy
          omega))
        clear hy hmy hcp hiy
        generalize cgCmp Y X = cc at *
        obtain ⟨bge, hge⟩ : ∃ bge, decide ((0 : Int) ≤ cc) = bge := ⟨_, rfl⟩
        have HRF := Lib.hid (show bge = false → OkUp l (j + 1) from fun e => HRF.out (by rw [e] at hge; exact of_decide_eq_false hge))
        have HRT := Lib.hid (show bge = true → chkG l = 2 from fun e => HRT.out (by rw [e] at hge; exact of_decide_eq_true hge))
        have hjd : decide (0 < j) = true := decide_eq_true (by omega)
        have hjd' : decide ((0 : Int) < (j : Int)) = true := decide_eq_true (by omega)
        have hj1 : IntKind.i64.wrap ((j : Int) - 1) = (j : Int) - 1 := by rw [IntKind.wrap_i64]; omega
        have hj2 : (0 : Int) ≤ (j : Int) - 1 := by omega
        have hj5 : (1 : Int) ≤ (j : Int) := by omega
        have hj3 : (j : Int) - 1 < n := by omega
        have hj4 : ((j : Int) - 1).toNat = j - 1 := by omega
        clear hj0
        refine wp_region_noPanic ?_
        refine wp_region_any (by kernel_rfl) ?_
        refine facts_start (0 :: 1 :: 2 :: 3 :: 4 :: 5 :: 6 :: 7 :: 8 :: 9 :: 10 :: 11 :: 12 :: 13 :: 14 :: 15 :: 16 :: []) [] dCk3 (Ft (mkCk3 wr.heap.size b o n c j X Y cc bge) (fun _ _ _ _ => [])) _ _ _ 0 _ #[true, true, true, true, true, true, true, true, true, true, true, true, true, true, true, true, true] (by kernel_rfl) (by rfl) ft_step no_al' ?hstep ?hend
        case hstep =>
          intro i hi x W hd hb K hK
          have hs := ck_step HS.out hb
          obtain ⟨p0, p1, p2, p3⟩ := ck_cells hs
          simp only [List.mem_cons, List.not_mem_nil, or_false] at hi
          rcases hi with rfl | rfl | rfl | rfl | rfl | rfl | rfl | rfl | rfl | rfl | rfl | rfl | rfl | rfl | rfl | rfl | rfl
          · generalize hA : putsA _ _ x (0 :: 1 :: 2 :: 3 :: 4 :: 5 :: 6 :: 7 :: 8 :: 9 :: 10 :: 11 :: 12 :: 13 :: 14 :: 15 :: 16 :: []) = A at *
            have e4 : A.tmps[4]? = some (.pointer (some ⟨wr.heap.size, 0, none⟩)) := by rw [← hA]; exact putsA_at 4 _ (by decide +kernel)
            clear hA hd
            refine wpOp_step rfl (fun K' hK' => ?_)
            go_simp
            exact hK' _ _ (hK _ _ ⟨0, 0, 0, rfl, al0⟩ (Below.refl _ _) no_al)
          · generalize hA : putsA _ _ x (0 :: 1 :: 2 :: 3 :: 4 :: 5 :: 6 :: 7 :: 8 :: 9 :: 10 :: 11 :: 12 :: 13 :: 14 :: 15 :: 16 :: []) = A at *
            have e15 : A.tmps[15]? = some (x 0) := by rw [← hA]; exact putsA_in (i := 0) 15 (by rfl) (by show (15 : Nat) < 33; decide) _ (by decide +kernel) (by decide)
            obtain ⟨_, _, _, f0, _⟩ := hd 0 (by decide)
            replace f0 : x 0 = .agg (cgC X) := f0
            rw [f0] at e15
            clear hA hd
            refine wpOp_step rfl (fun K' hK' => ?_)
            go_simp
            refine (HM.out W hs.2).mono ?_
            rintro e w6 ⟨rfl, hb6⟩
            exact hK' _ _ (hK _ _ ⟨0, 0, 0, rfl, al0⟩ hb6 no_al)
          · generalize hA : putsA _ _ x (0 :: 1 :: 2 :: 3 :: 4 :: 5 :: 6 :: 7 :: 8 :: 9 :: 10 :: 11 :: 12 :: 13 :: 14 :: 15 :: 16 :: []) = A at *
            have e16 : A.tmps[16]? = some (x 1) := by rw [← hA]; exact putsA_in (i := 1) 16 (by rfl) (by show (16 : Nat) < 33; decide) _ (by decide +kernel) (by decide)
            obtain ⟨_, _, _, f1, _⟩ := hd 1 (by decide)
            replace f1 : x 1 = .bool true := f1
            rw [f1] at e16
            clear hA hd
            refine wpOp_step rfl (fun K' hK' => ?_)
            go_simp
            exact hK' _ _ (hK _ _ ⟨0, 0, 0, rfl, al0⟩ (Below.refl _ _) no_al)
          · generalize hA : putsA _ _ x (0 :: 1 :: 2 :: 3 :: 4 :: 5 :: 6 :: 7 :: 8 :: 9 :: 10 :: 11 :: 12 :: 13 :: 14 :: 15 :: 16 :: []) = A at *
            have e17 : A.tmps[17]? = some (x 2) := by rw [← hA]; exact putsA_in (i := 2) 17 (by rfl) (by show (17 : Nat) < 33; decide) _ (by decide +kernel) (by decide)
            obtain ⟨_, _, _, f2, _⟩ := hd 2 (by decide)
            replace f2 : x 2 = .bool false := f2
            rw [f2] at e17
            clear hA hd
            refine wpOp_step rfl (fun K' hK' => ?_)
            go_simp
            exact hK' _ _ (hK _ _ ⟨0, 0, 0, rfl, al0⟩ (Below.refl _ _) no_al)
          · generalize hA : putsA _ _ x (0 :: 1 :: 2 :: 3 :: 4 :: 5 :: 6 :: 7 :: 8 :: 9 :: 10 :: 11 :: 12 :: 13 :: 14 :: 15 :: 16 :: []) = A at *
            have e3 : A.tmps[3]? = some (.int .i64 (j : Int)) := by rw [← hA]; exact putsA_at 3 _ (by decide +kernel)
            have e18 : A.tmps[18]? = some (x 3) := by rw [← hA]; exact putsA_in (i := 3) 18 (by rfl) (by show (18 : Nat) < 33; decide) _ (by decide +kernel) (by decide)
            obtain ⟨_, _, _, f3, _⟩ := hd 3 (by decide)
            replace f3 : x 3 = .bool false := f3
            rw [f3] at e18
            clear hA hd
            refine wpOp_step rfl (fun K' hK' => ?_)
            go_simp
            exact hK' _ _ (hK _ _ ⟨0, 0, 0, rfl, al0⟩ (Below.refl _ _) no_al)
          · generalize hA : putsA _ _ x (0 :: 1 :: 2 :: 3 :: 4 :: 5 :: 6 :: 7 :: 8 :: 9 :: 10 :: 11 :: 12 :: 13 :: 14 :: 15 :: 16 :: []) = A at *
            have e18 : A.tmps[18]? = some (x 3) := by rw [← hA]; exact putsA_in (i := 3) 18 (by rfl) (by show (18 : Nat) < 33; decide) _ (by decide +kernel) (by decide)
            obtain ⟨_, _, _, f3, _⟩ := hd 3 (by decide)
            replace f3 : x 3 = .bool false := f3
            rw [f3] at e18
            have e19 : A.tmps[19]? = some (x 4) := by rw [← hA]; exact putsA_in (i := 4) 19 (by rfl) (by show (19 : Nat) < 33; decide) _ (by decide +kernel) (by decide)
            obtain ⟨_, _, _, f4, _⟩ := hd 4 (by decide)
            replace f4 : x 4 = .int .i64 (j : Int) := f4
            rw [f4] at e19
            clear hA hd
            refine wpOp_step rfl (fun K' hK' => ?_)
            go_simp
            exact hK' _ _ (hK _ _ ⟨0, 0, 0, rfl, al0⟩ (Below.refl _ _) no_al)
          · generalize hA : putsA _ _ x (0 :: 1 :: 2 :: 3 :: 4 :: 5 :: 6 :: 7 :: 8 :: 9 :: 10 :: 11 :: 12 :: 13 :: 14 :: 15 :: 16 :: []) = A at *
            have e18 : A.tmps[18]? = some (x 3) := by rw [← hA]; exact putsA_in (i := 3) 18 (by rfl) (by show (18 : Nat) < 33; decide) _ (by decide +kernel) (by decide)
            obtain ⟨_, _, _, f3, _⟩ := hd 3 (by decide)
            replace f3 : x 3 = .bool false := f3
            rw [f3] at e18
            have e20 : A.tmps[20]? = some (x 5) := by rw [← hA]; exact putsA_in (i := 5) 20 (by rfl) (by show (20 : Nat) < 33; decide) _ (by decide +kernel) (by decide)
            obtain ⟨_, _, _, f5, _⟩ := hd 5 (by decide)
            replace f5 : x 5 = .bool true := f5
            rw [f5] at e20
            clear hA hd
            refine wpOp_step rfl (fun K' hK' => ?_)
            go_simp
            exact hK' _ _ (hK _ _ ⟨0, 0, 0, rfl, al0⟩ (Below.refl _ _) no_al)
          · generalize hA : putsA _ _ x (0 :: 1 :: 2 :: 3 :: 4 :: 5 :: 6 :: 7 :: 8 :: 9 :: 10 :: 11 :: 12 :: 13 :: 14 :: 15 :: 16 :: []) = A at *
            have e0 : A.tmps[0]? = some (.slice (some ⟨b, o, none⟩) n c) := by rw [← hA]; exact putsA_at 0 _ (by decide +kernel)
            have e21 : A.tmps[21]? = some (x 6) := by rw [← hA]; exact putsA_in (i := 6) 21 (by rfl) (by show (21 : Nat) < 33; decide) _ (by decide +kernel) (by decide)
            obtain ⟨_, _, _, f6, _⟩ := hd 6 (by decide)
            replace f6 : x 6 = .bool true := f6
            rw [f6] at e21
            clear hA hd
            refine wpOp_step rfl (fun K' hK' => ?_)
            go_simp
            exact hK' _ _ (hK _ _ ⟨0, 0, 0, rfl, al0⟩ (Below.refl _ _) no_al)
          · generalize hA : putsA _ _ x (0 :: 1 :: 2 :: 3 :: 4 :: 5 :: 6 :: 7 :: 8 :: 9 :: 10 :: 11 :: 12 :: 13 :: 14 :: 15 :: 16 :: []) = A at *
            have e3 : A.tmps[3]? = some (.int .i64 (j : Int)) := by rw [← hA]; exact putsA_at 3 _ (by decide +kernel)
            have e21 : A.tmps[21]? = some (x 6) := by rw [← hA]; exact putsA_in (i := 6) 21 (by rfl) (by show (21 : Nat) < 33; decide) _ (by decide +kernel) (by decide)
            obtain ⟨_, _, _, f6, _⟩ := hd 6 (by decide)
            replace f6 : x 6 = .bool true := f6
            rw [f6] at e21
            clear hA hd
            refine wpOp_step rfl (fun K' hK' => ?_)
            go_simp
            exact hK' _ _ (hK _ _ ⟨0, 0, 0, rfl, al0⟩ (Below.refl _ _) no_al)
          · generalize hA : putsA _ _ x (0 :: 1 :: 2 :: 3 :: 4 :: 5 :: 6 :: 7 :: 8 :: 9 :: 10 :: 11 :: 12 :: 13 :: 14 :: 15 :: 16 :: []) = A at *
            have e21 : A.tmps[21]? = some (x 6) := by rw [← hA]; exact putsA_in (i := 6) 21 (by rfl) (by show (21 : Nat) < 33; decide) _ (by decide +kernel) (by decide)
            obtain ⟨_, _, _, f6, _⟩ := hd 6 (by decide)
            replace f6 : x 6 = .bool true := f6
            rw [f6] at e21
            have e23 : A.tmps[23]? = some (x 8) := by rw [← hA]; exact putsA_in (i := 8) 23 (by rfl) (by show (23 : Nat) < 33; decide) _ (by decide +kernel) (by decide)
            obtain ⟨_, _, _, f8, _⟩ := hd 8 (by decide)
            replace f8 : x 8 = .int .i64 (j : Int) := f8
            rw [f8] at e23
            clear hA hd
            refine wpOp_step rfl (fun K' hK' => ?_)
            go_simp
            exact hK' _ _ (hK _ _ ⟨0, 0, 0, rfl, al0⟩ (Below.refl _ _) no_al)
          · generalize hA : putsA _ _ x (0 :: 1 :: 2 :: 3 :: 4 :: 5 :: 6 :: 7 :: 8 :: 9 :: 10 :: 11 :: 12 :: 13 :: 14 :: 15 :: 16 :: []) = A at *
            have e21 : A.tmps[21]? = some (x 6) := by rw [← hA]; exact putsA_in (i := 6) 21 (by rfl) (by show (21 : Nat) < 33; decide) _ (by decide +kernel) (by decide)
            obtain ⟨_, _, _, f6, _⟩ := hd 6 (by decide)
            replace f6 : x 6 = .bool true := f6
            rw [f6] at e21
            have e22 : A.tmps[22]? = some (x 7) := by rw [← hA]; exact putsA_in (i := 7) 22 (by rfl) (by show (22 : Nat) < 33; decide) _ (by decide +kernel) (by decide)
            obtain ⟨_, _, _, f7, _⟩ := hd 7 (by decide)
            replace f7 : x 7 = .slice (some ⟨b, o, none⟩) n c := f7
            rw [f7] at e22
            have e24 : A.tmps[24]? = some (x 9) := by rw [← hA]; exact putsA_in (i := 9) 24 (by rfl) (by show (24 : Nat) < 33; decide) _ (by decide +kernel) (by decide)
            obtain ⟨_, _, _, f9, _⟩ := hd 9 (by decide)
            replace f9 : x 9 = .int .i64 ((j : Int) - 1) := f9
            rw [f9] at e24
            clear hA hd
            refine wpOp_step rfl (fun K' hK' => ?_)
            go_simp
            exact hK' _ _ (hK _ _ ⟨0, 0, 0, rfl, al0⟩ (Below.refl _ _) no_al)
          · generalize hA : putsA _ _ x (0 :: 1 :: 2 :: 3 :: 4 :: 5 :: 6 :: 7 :: 8 :: 9 :: 10 :: 11 :: 12 :: 13 :: 14 :: 15 :: 16 :: []) = A at *
            have e21 : A.tmps[21]? = some (x 6) := by rw [← hA]; exact putsA_in (i := 6) 21 (by rfl) (by show (21 : Nat) < 33; decide) _ (by decide +kernel) (by decide)
            obtain ⟨_, _, _, f6, _⟩ := hd 6 (by decide)
            replace f6 : x 6 = .bool true := f6
            rw [f6] at e21
            have e25 : A.tmps[25]? = some (x 10) := by rw [← hA]; exact putsA_in (i := 10) 25 (by rfl) (by show (25 : Nat) < 33; decide) _ (by decide +kernel) (by decide)
            obtain ⟨_, _, _, f10, _⟩ := hd 10 (by decide)
            replace f10 : x 10 = .pointer (some ⟨b, o + (j - 1) * 4, none⟩) := f10
            rw [f10] at e25
            clear hA hd
            obtain ⟨q0, q1, q2, q3⟩ := cgAt_below HCP.out hs.2 HG.out
            refine wpOp_step rfl (fun K' hK' => ?_)
            go_simp
            exact hK' _ _ (hK _ _ ⟨0, 0, 0, rfl, al0⟩ (Below.refl _ _) no_al)
          · generalize hA : putsA _ _ x (0 :: 1 :: 2 :: 3 :: 4 :: 5 :: 6 :: 7 :: 8 :: 9 :: 10 :: 11 :: 12 :: 13 :: 14 :: 15 :: 16 :: []) = A at *
            have e4 : A.tmps[4]? = some (.pointer (some ⟨wr.heap.size, 0, none⟩)) := by rw [← hA]; exact putsA_at 4 _ (by decide +kernel)
            have e21 : A.tmps[21]? = some (x 6) := by rw [← hA]; exact putsA_in (i := 6) 21 (by rfl) (by show (21 : Nat) < 33; decide) _ (by decide +kernel) (by decide)
            obtain ⟨_, _, _, f6, _⟩ := hd 6 (by decide)
            replace f6 : x 6 = .bool true := f6
            rw [f6] at e21
            clear hA hd
            refine wpOp_step rfl (fun K' hK' => ?_)
            go_simp
            exact hK' _ _ (hK _ _ ⟨0, 0, 0, rfl, al0⟩ (Below.refl _ _) no_al)
          · generalize hA : putsA _ _ x (0 :: 1 :: 2 :: 3 :: 4 :: 5 :: 6 :: 7 :: 8 :: 9 :: 10 :: 11 :: 12 :: 13 :: 14 :: 15 :: 16 :: []) = A at *
            have e21 : A.tmps[21]? = some (x 6) := by rw [← hA]; exact putsA_in (i := 6) 21 (by rfl) (by show (21 : Nat) < 33; decide) _ (by decide +kernel) (by decide)
            obtain ⟨_, _, _, f6, _⟩ := hd 6 (by decide)
            replace f6 : x 6 = .bool true := f6
            rw [f6] at e21
            have e26 : A.tmps[26]? = some (x 11) := by rw [← hA]; exact putsA_in (i := 11) 26 (by rfl) (by show (26 : Nat) < 33; decide) _ (by decide +kernel) (by decide)
            obtain ⟨_, _, _, f11, _⟩ := hd 11 (by decide)
            replace f11 : x 11 = .agg (cgC Y) := f11
            rw [f11] at e26
            have e27 : A.tmps[27]? = some (x 12) := by rw [← hA]; exact putsA_in (i := 12) 27 (by rfl) (by show (27 : Nat) < 33; decide) _ (by decide +kernel) (by decide)
            obtain ⟨_, _, _, f12, _⟩ := hd 12 (by decide)
            replace f12 : x 12 = .agg (cgC X) := f12
            rw [f12] at e27
            clear hA hd
            refine wpOp_step rfl (fun K' hK' => ?_)
            go_simp
            refine (HCM.out W hs.2).mono ?_
            rintro e w6 ⟨rfl, hb6⟩
            exact hK' _ _ (hK _ _ ⟨0, 0, 0, rfl, al0⟩ hb6 no_al)
          · generalize hA : putsA _ _ x (0 :: 1 :: 2 :: 3 :: 4 :: 5 :: 6 :: 7 :: 8 :: 9 :: 10 :: 11 :: 12 :: 13 :: 14 :: 15 :: 16 :: []) = A at *
            have e21 : A.tmps[21]? = some (x 6) := by rw [← hA]; exact putsA_in (i := 6) 21 (by rfl) (by show (21 : Nat) < 33; decide) _ (by decide +kernel) (by decide)
            obtain ⟨_, _, _, f6, _⟩ := hd 6 (by decide)
            replace f6 : x 6 = .bool true := f6
            rw [f6] at e21
            have e28 : A.tmps[28]? = some (x 13) := by rw [← hA]; exact putsA_in (i := 13) 28 (by rfl) (by show (28 : Nat) < 33; decide) _ (by decide +kernel) (by decide)
            obtain ⟨_, _, _, f13, _⟩ := hd 13 (by decide)
            replace f13 : x 13 = .int .i64 cc := f13
            rw [f13] at e28
            clear hA hd
            refine wpOp_step rfl (fun K' hK' => ?_)
            go_simp
            exact hK' _ _ (hK _ _ ⟨0, 0, 0, rfl, al0⟩ (Below.refl _ _) no_al)
          · generalize hA : putsA _ _ x (0 :: 1 :: 2 :: 3 :: 4 :: 5 :: 6 :: 7 :: 8 :: 9 :: 10 :: 11 :: 12 :: 13 :: 14 :: 15 :: 16 :: []) = A at *
            have e18 : A.tmps[18]? = some (x 3) := by rw [← hA]; exact putsA_in (i := 3) 18 (by rfl) (by show (18 : Nat) < 33; decide) _ (by decide +kernel) (by decide)
            obtain ⟨_, _, _, f3, _⟩ := hd 3 (by decide)
            replace f3 : x 3 = .bool false := f3
            rw [f3] at e18
            have e21 : A.tmps[21]? = some (x 6) := by rw [← hA]; exact putsA_in (i := 6) 21 (by rfl) (by show (21 : Nat) < 33; decide) _ (by decide +kernel) (by decide)
            obtain ⟨_, _, _, f6, _⟩ := hd 6 (by decide)
            replace f6 : x 6 = .bool true := f6
            rw [f6] at e21
            have e29 : A.tmps[29]? = some (x 14) := by rw [← hA]; exact putsA_in (i := 14) 29 (by rfl) (by show (29 : Nat) < 33; decide) _ (by decide +kernel) (by decide)
            obtain ⟨_, _, _, f14, _⟩ := hd 14 (by decide)
            replace f14 : x 14 = .bool bge := f14
            rw [f14] at e29
            clear hA hd
            refine wpOp_step rfl (fun K' hK' => ?_)
            go_simp
            exact hK' _ _ (hK _ _ ⟨0, 0, 0, rfl, al0⟩ (Below.refl _ _) no_al)
          · generalize hA : putsA _ _ x (0 :: 1 :: 2 :: 3 :: 4 :: 5 :: 6 :: 7 :: 8 :: 9 :: 10 :: 11 :: 12 :: 13 :: 14 :: 15 :: 16 :: []) = A at *
            have e18 : A.tmps[18]? = some (x 3) := by rw [← hA]; exact putsA_in (i := 3) 18 (by rfl) (by show (18 : Nat) < 33; decide) _ (by decide +kernel) (by decide)
            obtain ⟨_, _, _, f3, _⟩ := hd 3 (by decide)
            replace f3 : x 3 = .bool false := f3
            rw [f3] at e18
            have e30 : A.tmps[30]? = some (x 15) := by rw [← hA]; exact putsA_in (i := 15) 30 (by rfl) (by show (30 : Nat) < 33; decide) _ (by decide +kernel) (by decide)
            obtain ⟨_, _, _, f15, _⟩ := hd 15 (by decide)
            replace f15 : x 15 = .bool bge := f15
            rw [f15] at e30
            clear hA hd
            refine wpOp_step rfl (fun K' hK' => ?_)
            go_simp
            exact hK' _ _ (hK _ _ ⟨0, 0, 0, rfl, al0⟩ (Below.refl _ _) no_al)
        case hend =>
          intro x W hf hg hb
          have HSE := Lib.hid (ck_step HS.out hb).2
          have hl16 : x 16 = .bool bge := by
            obtain ⟨_, _, _, h, _⟩ := hf 16 (by decide)
            exact h
          rw [putsA_lit _ _ (0 :: 1 :: 2 :: 3 :: 4 :: 5 :: 6 :: 7 :: 8 :: 9 :: 10 :: 11 :: 12 :: 13 :: 14 :: 15 :: 16 :: []) ((15, 0) :: (16, 1) :: (17, 2) :: (18, 3) :: (19, 4) :: (20, 5) :: (21, 6) :: (22, 7) :: (23, 8) :: (24, 9) :: (25, 10) :: (26, 11) :: (27, 12) :: (28, 13) :: (29, 14) :: (30, 15) :: (31, 16) :: []) (by kernel_rfl)]
          simp only [setAll, ↓reduceIte, Nat.reduceAdd, Nat.reduceEqDiff]
          rw [hl16]
          clear hf hg hb hl16
          refine wpAny_done (by kernel_rfl) ?_ _
          refine NoPanic.normal ?_
          clear HS HM HCM HCP
          cases bge
          · have HR := Lib.hid (HRF.out rfl)
            go_wp2
            go_roundw
            case rel => exact ⟨j + 1, by omega, by go_num, HR.out, HSE.out⟩
            case measure => simp [intOf]; omega
          · have HR := Lib.hid (HRT.out rfl)
            go_wp2
            go_ret
            exact ⟨rint HR.out.symm, HSE.out⟩
    · obtain rfl : j = n := by omega
      have HR : Hid (chkG l = 0) := Lib.hid (chkG_ok ⟨by have := HN.out; have := HBIG.out; omega, by rw [← HN.out]; exact hok⟩)
      clear hok
      go_wp2
      go_ret
      exact ⟨rint HR.out.symm, hbr⟩
end Go.Proofs.Ytocbdehcjcggeaa
