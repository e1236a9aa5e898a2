/- node.innerCell, node.cells. Conditions: those of each lemma. -/
import Derived.Test.YticpenbebokjdaaDoorNd1
import Derived.Test.YticpenbebokjdaaDoorBs
import Derived.Test.YticpenbebokjdaaDoorFacts
import Derived.Deep.CutBlock
namespace Go.Proofs.YticpenbebokjdaaDoor
open Go.RowKit Go
set_option linter.unusedVariables false
set_option linter.unusedSimpArgs false
/-- a slice of cells -/
def Cells4 (W : World) (b o : Nat) (c : Cl) : Prop := W.cell? ⟨b, o, none⟩ = some (.string c.key) ∧ W.cell? ⟨b, o + 1, none⟩ = some (.int .i64 c.size) ∧ W.cell? ⟨b, o + 2, none⟩ = some (.string c.loc) ∧ W.cell? ⟨b, o + 3, none⟩ = some (.int .i64 c.page)
theorem cells4_below {w W : World} {B b o : Nat} {c : Cl} (h : Cells4 w b o c) (hb : Below B w W) (hlt : b < B) : Cells4 W b o c :=
  ⟨(hb.cell (p := ⟨b, o, none⟩) hlt).trans h.1, (hb.cell (p := ⟨b, o + 1, none⟩) hlt).trans h.2.1, (hb.cell (p := ⟨b, o + 2, none⟩) hlt).trans h.2.2.1, (hb.cell (p := ⟨b, o + 3, none⟩) hlt).trans h.2.2.2⟩
def Cls (w : World) (B : Nat) (A : Option Addr) (l : List Cl) : Prop :=
  l = [] ∨ ∃ b o, A = some ⟨b, o, none⟩ ∧ b < B ∧ ∀ (j : Nat) c, l[j]? = some c → Cells4 w b (o + j * 4) c
theorem cls_get {w : World} {B : Nat} {A : Option Addr} {l : List Cl} (h : Cls w B A l) (hl : l ≠ []) : ∃ b o, A = some ⟨b, o, none⟩ ∧ b < B ∧ ∀ (j : Nat) c, l[j]? = some c → Cells4 w b (o + j * 4) c := by
  rcases h with h | h
  · exact absurd h hl
  · exact h
theorem cls_step {w w' : World} {A : Option Addr} {l : List Cl} (h : Cls w w.heap.size A l) (hb : Below w.heap.size w w') : Cls w' w'.heap.size A l := by
  rcases h with h | ⟨b, o, hA, hlt, hc⟩
  · exact .inl h
  · exact .inr ⟨b, o, hA, Nat.lt_of_lt_of_le hlt hb.size, fun j x hx => cells4_below (hc j x hx) hb hlt⟩
set_option maxRecDepth 100000 in
set_option maxHeartbeats 8000000 in
theorem innerCell_any (c : Cl) (w : World) : Calls Tryd.prog 55 #[clV c] w fun e w' => e = .returned (.bool (innerB c)) ∧ Below w.heap.size w w' := by
  obtain ⟨k, z, l, p⟩ := c
  have HP := Lib.hid (fun W => page_any p 1 W)
  unfold innerB
  simp only
  generalize pageB p 1 = b at *
  cases b
  · go_enter Tryd.func55, Tryd.ntmps55
    go_wp2_with fail
    refine (HP.out _).mono ?_
    rintro e w2 ⟨rfl, rfl⟩
    go_wp2
    go_ret
    exact ⟨by simp, one_alloc⟩
  · go_enter Tryd.func55, Tryd.ntmps55
    go_wp2_with fail
    refine (HP.out _).mono ?_
    rintro e w2 ⟨rfl, rfl⟩
    go_wp2
    all_goals
      go_ret
      exact ⟨by simp_all, one_alloc⟩
theorem bs_single {w W : World} {g : Nat} {t : TypeId} {cs : Array Value} (h1 : Blk W g t cs) (hb : Below w.heap.size w W) : Bs w [(g, t, cs)] [] W := by
  refine ⟨fun x hx => ?_, fun x hx => ?_, hb⟩
  · rcases List.mem_cons.1 hx with rfl | hx
    · exact h1
    · cases hx
  · cases hx
def lessS (a b : ByteArray) : Bool := Op.bytesLess a.toList b.toList
/-- whether each of these may be, and their keys rise, from one on -/
def okL (f : Cl → Bool) : Option ByteArray → List Cl → Bool
  | _, [] => true
  | p, c :: l => decide ((c.key.size : Int) ≤ 100) && f c && (match p with
    | none => true
    | some k => lessS k c.key) && okL f (some c.key) l
def prevK (l : List Cl) (j : Nat) : Option ByteArray := match j with
  | 0 => none
  | j + 1 => (l[j]?).map (·.key)
theorem okL_step (f : Cl → Bool) (p : Option ByteArray) (c : Cl) (l : List Cl) : okL f p (c :: l) = (decide ((c.key.size : Int) ≤ 100) && f c && (match p with
    | none => true
    | some k => lessS k c.key) && okL f (some c.key) l) := rfl
theorem prevK_succ (l : List Cl) (j : Nat) (h : j < l.length) : prevK l (j + 1) = some (l[j].key) := by
  simp only [prevK]
  rw [List.getElem?_eq_getElem h]
  rfl
def mkccells_leaf1 (g b o n c j : Nat) (k kp : ByteArray) (z : Int) (lo : ByteArray) (p : Int) : Nat → Nat → Nat → Nat → Value
  | 0, _, _, _ => .pointer (some ⟨g, 0, none⟩)
  | 1, _, _, _ => .string k
  | 2, _, _, _ => .int .i64 (k.size : Int)
  | 3, _, _, _ => .bool true
  | 4, _, _, _ => .bool true
  | 5, _, _, _ => undef
  | 6, _, _, _ => undef
  | 7, _, _, _ => undef
  | 8, _, _, _ => undef
  | 9, _, _, _ => .bool true
  | 10, _, _, _ => .bool true
  | 11, _, _, _ => undef
  | 12, _, _, _ => undef
  | 13, _, _, _ => undef
  | 14, _, _, _ => undef
  | 15, _, _, _ => undef
  | 16, _, _, _ => undef
  | 17, _, _, _ => undef
  | 18, _, _, _ => undef
  | 19, _, _, _ => undef
  | 20, _, _, _ => undef
  | 21, _, _, _ => undef
  | 22, _, _, _ => undef
  | 23, _, _, _ => undef
  | 24, _, _, _ => .bool true
  | _, _, _, _ => .bool false
def D4 : Nat → List Nat
  | 1 => [0]
  | 2 => [1]
  | 3 => [2]
  | 4 => [3]
  | 5 => [4]
  | 6 => [4]
  | 7 => [4, 5, 6]
  | 8 => [4, 7]
  | 9 => [4, 8]
  | 10 => [9]
  | 11 => [10]
  | 12 => [10, 11]
  | 13 => [10, 12]
  | 14 => [13]
  | 15 => [13]
  | 16 => [13, 15]
  | 17 => [13, 14, 16]
  | 18 => [13, 17]
  | 19 => [13, 18]
  | 20 => [13]
  | 21 => [13, 20]
  | 22 => [13, 19, 21]
  | 23 => [10, 13, 22]
  | 24 => [10, 23]
  | _ => []
def mkccells_leaf2 (g b o n c j : Nat) (k kp : ByteArray) (z : Int) (lo : ByteArray) (p : Int) : Nat → Nat → Nat → Nat → Value
  | 0, _, _, _ => .pointer (some ⟨g, 0, none⟩)
  | 1, _, _, _ => .string k
  | 2, _, _, _ => .int .i64 (k.size : Int)
  | 3, _, _, _ => .bool false
  | 4, _, _, _ => .bool false
  | 5, _, _, _ => .func (.func 53) #[] #[]
  | 6, _, _, _ => .agg #[.string k, .int .i64 z, .string lo, .int .i64 p]
  | 7, _, _, _ => .bool false
  | 8, _, _, _ => .bool true
  | 9, _, _, _ => .bool true
  | 10, _, _, _ => .bool true
  | 11, _, _, _ => undef
  | 12, _, _, _ => undef
  | 13, _, _, _ => undef
  | 14, _, _, _ => undef
  | 15, _, _, _ => undef
  | 16, _, _, _ => undef
  | 17, _, _, _ => undef
  | 18, _, _, _ => undef
  | 19, _, _, _ => undef
  | 20, _, _, _ => undef
  | 21, _, _, _ => undef
  | 22, _, _, _ => undef
  | 23, _, _, _ => undef
  | 24, _, _, _ => .bool true
  | _, _, _, _ => .bool false
def mkccells_leaf3 (g b o n c j : Nat) (k kp : ByteArray) (z : Int) (lo : ByteArray) (p : Int) : Nat → Nat → Nat → Nat → Value
  | 0, _, _, _ => .pointer (some ⟨g, 0, none⟩)
  | 1, _, _, _ => .string k
  | 2, _, _, _ => .int .i64 (k.size : Int)
  | 3, _, _, _ => .bool false
  | 4, _, _, _ => .bool false
  | 5, _, _, _ => .func (.func 53) #[] #[]
  | 6, _, _, _ => .agg #[.string k, .int .i64 z, .string lo, .int .i64 p]
  | 7, _, _, _ => .bool true
  | 8, _, _, _ => .bool false
  | 9, _, _, _ => .bool false
  | 10, _, _, _ => .bool false
  | 11, _, _, _ => .int .i64 (j : Int)
  | 12, _, _, _ => .bool false
  | 13, _, _, _ => .bool false
  | 14, _, _, _ => undef
  | 15, _, _, _ => undef
  | 16, _, _, _ => undef
  | 17, _, _, _ => undef
  | 18, _, _, _ => undef
  | 19, _, _, _ => undef
  | 20, _, _, _ => undef
  | 21, _, _, _ => undef
  | 22, _, _, _ => undef
  | 23, _, _, _ => .bool false
  | 24, _, _, _ => .bool false
  | _, _, _, _ => .bool false
def mkccells_leaf4 (g b o n c j : Nat) (k kp : ByteArray) (z : Int) (lo : ByteArray) (p : Int) : Nat → Nat → Nat → Nat → Value
  | 0, _, _, _ => .pointer (some ⟨g, 0, none⟩)
  | 1, _, _, _ => .string k
  | 2, _, _, _ => .int .i64 (k.size : Int)
  | 3, _, _, _ => .bool false
  | 4, _, _, _ => .bool false
  | 5, _, _, _ => .func (.func 53) #[] #[]
  | 6, _, _, _ => .agg #[.string k, .int .i64 z, .string lo, .int .i64 p]
  | 7, _, _, _ => .bool true
  | 8, _, _, _ => .bool false
  | 9, _, _, _ => .bool false
  | 10, _, _, _ => .bool false
  | 11, _, _, _ => .int .i64 (j : Int)
  | 12, _, _, _ => .bool true
  | 13, _, _, _ => .bool true
  | 14, _, _, _ => .slice (some ⟨b, o, none⟩) n c
  | 15, _, _, _ => .int .i64 (j : Int)
  | 16, _, _, _ => .int .i64 ((j : Int) - 1)
  | 17, _, _, _ => .pointer (some ⟨b, o + (j - 1) * 4, none⟩)
  | 18, _, _, _ => .pointer (some ⟨b, o + (j - 1) * 4, none⟩)
  | 19, _, _, _ => .string kp
  | 20, _, _, _ => .pointer (some ⟨g, 0, none⟩)
  | 21, _, _, _ => .string k
  | 22, _, _, _ => .bool (!lessS kp k)
  | 23, _, _, _ => .bool (!lessS kp k)
  | 24, _, _, _ => .bool (!lessS kp k)
  | _, _, _, _ => .bool false
set_option maxRecDepth 100000 in
set_option maxHeartbeats 8000000 in
theorem cells_leaf (A : Option Addr) (l : List Cl) (n c : Nat) (w : World) (hC : Cls w w.heap.size A l) (hn : n = l.length) (hm : n ≤ 1000000) :
    Calls Tryd.prog 52 #[.slice A n c, .func (.func 53) #[] #[]] w fun e w' => e = .returned (.bool (okL leafB none l)) ∧ Below w.heap.size w w' := by
  have HN := Lib.hid hn
  have hmI : (n : Int) ≤ 1000000 := by omega
  clear hn
  go_enter Tryd.func52, Tryd.ntmps52
  go_wp2
  go_loopw [9] (fun i wr => ∃ j : Nat, j ≤ n ∧ i = .int .i64 j ∧ okL leafB none l = okL leafB (prevK l j) (l.drop j) ∧ Below w.heap.size w wr) (fun i _ => n - (intOf i).toNat)
  case atStart => exact ⟨0, by omega, rfl, rfl, Below.refl _ _⟩
  case round =>
    obtain ⟨j, hj, rfl, heq, hbr⟩ := hrel
    by_cases hjn : j < n
    · have hlt : j < l.length := by have := HN.out; omega
      obtain ⟨b, o, rfl, hbl, hcs⟩ := cls_get hC (fun e => by rw [e] at hlt; simp at hlt)
      obtain ⟨a0, a1, a2, a3⟩ := cells4_below (hcs j l[j] (List.getElem?_eq_getElem hlt)) hbr hbl
      have hd : l.drop j = l[j] :: l.drop (j + 1) := List.drop_eq_getElem_cons hlt
      have hps := prevK_succ l j hlt
      obtain ⟨x, hx⟩ : ∃ x, l[j] = x := ⟨_, rfl⟩
      rw [hx] at a0 a1 a2 a3 hd hps
      rw [hd, okL_step] at heq
      have HPP : Hid (∀ i, j = i + 1 → ∃ y, prevK l j = some y.key ∧ Cells4 w b (o + i * 4) y) := Lib.hid (fun i e => by
        have hi : i < l.length := by omega
        exact ⟨l[i], by rw [e]; exact prevK_succ l i hi, hcs i l[i] (List.getElem?_eq_getElem hi)⟩)
      obtain ⟨k, z, lo, p⟩ := x
      simp only at a0 a1 a2 a3 heq hps
      have HQ := Lib.hid heq
      have HPS := Lib.hid hps
      have HBR := Lib.hid hbr
      have hjI : (j : Int) < n := by omega
      clear hcs hx hd heq hps hbr hlt
      go_upto_region 4 with fail
      have HS := Lib.hid (show Bs w [(wr.heap.size, 30, clC ⟨k, z, lo, p⟩)] [] ((wr.alloc (.cells #[.string k, .int .i64 z, .string lo, .int .i64 p] 30)).drew) from bs_drew (bs_single (Blk.new _ _ _) (bj HBR.out bs_one)))
      have HFC := Lib.hid (fun W => leafCell_any ⟨k, z, lo, p⟩ W)
      have HG := Lib.hid (show b < w.heap.size from hbl)
      clear a0 a1 a2 a3 HBR hbl hC
      by_cases hk : 100 < (k.size : Int)
      · have HR : Hid (okL leafB none l = false) := Lib.hid (by rw [HQ.out, decide_eq_false (by omega)]; simp)
        clear HQ
        obtain ⟨kp, hkp⟩ : ∃ kp : ByteArray, kp = k := ⟨_, rfl⟩
        clear hkp
        refine wp_region_noPanic ?_
        refine wp_region_any (by kernel_rfl) ?_
        refine facts_start (0 :: 1 :: 2 :: 3 :: 4 :: 5 :: 6 :: 7 :: 8 :: 9 :: 10 :: 11 :: 12 :: 13 :: 14 :: 15 :: 16 :: 17 :: 18 :: 19 :: 20 :: 21 :: 22 :: 23 :: 24 :: []) [] D4 (Ft (mkccells_leaf1 wr.heap.size b o n c j k kp z lo p) (fun _ _ _ _ => [])) _ _ _ 0 _ #[true, true, true, true, true, true, true, true, true, true, true, true, true, true, true, true, true, true, true, true, true, true, true, true, true] (by kernel_rfl) (by rfl) ft_step no_al' ?hstep ?hend
        case hstep =>
          intro i hi x W hd hb K hK
          have hs := bs_below HS.out hb
          simp only [List.mem_cons, List.not_mem_nil, or_false] at hi
          rcases hi with rfl | rfl | rfl | rfl | rfl | rfl | rfl | rfl | rfl | rfl | rfl | rfl | rfl | rfl | rfl | rfl | rfl | rfl | rfl | rfl | rfl | rfl | rfl | rfl | rfl
          · generalize hA : putsA _ _ x (0 :: 1 :: 2 :: 3 :: 4 :: 5 :: 6 :: 7 :: 8 :: 9 :: 10 :: 11 :: 12 :: 13 :: 14 :: 15 :: 16 :: 17 :: 18 :: 19 :: 20 :: 21 :: 22 :: 23 :: 24 :: []) = A at *
            have e6 : A.tmps[6]? = some (.pointer (some ⟨wr.heap.size, 0, none⟩)) := by rw [← hA]; exact putsA_at 6 _ (by decide +kernel)
            clear hA hd
            refine wpOp_step rfl (fun K' hK' => ?_)
            go_simp
            exact hK' _ _ (hK _ _ ⟨0, 0, 0, rfl, al0⟩ (Below.refl _ _) no_al)
          · generalize hA : putsA _ _ x (0 :: 1 :: 2 :: 3 :: 4 :: 5 :: 6 :: 7 :: 8 :: 9 :: 10 :: 11 :: 12 :: 13 :: 14 :: 15 :: 16 :: 17 :: 18 :: 19 :: 20 :: 21 :: 22 :: 23 :: 24 :: []) = A at *
            have e14 : A.tmps[14]? = some (x 0) := by rw [← hA]; exact putsA_in (i := 0) 14 (by rfl) (by show (14 : Nat) < 40; decide) _ (by decide +kernel) (by decide)
            obtain ⟨_, _, _, f0, _⟩ := hd 0 (by decide)
            replace f0 : x 0 = .pointer (some ⟨wr.heap.size, 0, none⟩) := f0
            rw [f0] at e14
            clear hA hd
            obtain ⟨c0, c1, c2, c3⟩ := cell4 (hs.1 _ (.head _))
            refine wpOp_step rfl (fun K' hK' => ?_)
            go_simp
            exact hK' _ _ (hK _ _ ⟨0, 0, 0, rfl, al0⟩ (Below.refl _ _) no_al)
          · generalize hA : putsA _ _ x (0 :: 1 :: 2 :: 3 :: 4 :: 5 :: 6 :: 7 :: 8 :: 9 :: 10 :: 11 :: 12 :: 13 :: 14 :: 15 :: 16 :: 17 :: 18 :: 19 :: 20 :: 21 :: 22 :: 23 :: 24 :: []) = A at *
            have e15 : A.tmps[15]? = some (x 1) := by rw [← hA]; exact putsA_in (i := 1) 15 (by rfl) (by show (15 : Nat) < 40; decide) _ (by decide +kernel) (by decide)
            obtain ⟨_, _, _, f1, _⟩ := hd 1 (by decide)
            replace f1 : x 1 = .string k := f1
            rw [f1] at e15
            clear hA hd
            refine wpOp_step rfl (fun K' hK' => ?_)
            go_simp
            exact hK' _ _ (hK _ _ ⟨0, 0, 0, rfl, al0⟩ (Below.refl _ _) no_al)
          · generalize hA : putsA _ _ x (0 :: 1 :: 2 :: 3 :: 4 :: 5 :: 6 :: 7 :: 8 :: 9 :: 10 :: 11 :: 12 :: 13 :: 14 :: 15 :: 16 :: 17 :: 18 :: 19 :: 20 :: 21 :: 22 :: 23 :: 24 :: []) = A at *
            have e16 : A.tmps[16]? = some (x 2) := by rw [← hA]; exact putsA_in (i := 2) 16 (by rfl) (by show (16 : Nat) < 40; decide) _ (by decide +kernel) (by decide)
            obtain ⟨_, _, _, f2, _⟩ := hd 2 (by decide)
            replace f2 : x 2 = .int .i64 (k.size : Int) := f2
            rw [f2] at e16
            clear hA hd
            refine wpOp_step rfl (fun K' hK' => ?_)
            go_simp
            exact hK' _ _ (hK _ _ ⟨0, 0, 0, rfl, al0⟩ (Below.refl _ _) no_al)
          · generalize hA : putsA _ _ x (0 :: 1 :: 2 :: 3 :: 4 :: 5 :: 6 :: 7 :: 8 :: 9 :: 10 :: 11 :: 12 :: 13 :: 14 :: 15 :: 16 :: 17 :: 18 :: 19 :: 20 :: 21 :: 22 :: 23 :: 24 :: []) = A at *
            have e17 : A.tmps[17]? = some (x 3) := by rw [← hA]; exact putsA_in (i := 3) 17 (by rfl) (by show (17 : Nat) < 40; decide) _ (by decide +kernel) (by decide)
            obtain ⟨_, _, _, f3, _⟩ := hd 3 (by decide)
            replace f3 : x 3 = .bool true := f3
            rw [f3] at e17
            clear hA hd
            refine wpOp_step rfl (fun K' hK' => ?_)
            go_simp
            exact hK' _ _ (hK _ _ ⟨0, 0, 0, rfl, al0⟩ (Below.refl _ _) no_al)
          · generalize hA : putsA _ _ x (0 :: 1 :: 2 :: 3 :: 4 :: 5 :: 6 :: 7 :: 8 :: 9 :: 10 :: 11 :: 12 :: 13 :: 14 :: 15 :: 16 :: 17 :: 18 :: 19 :: 20 :: 21 :: 22 :: 23 :: 24 :: []) = A at *
            have e1 : A.tmps[1]? = some (.func (.func 53) #[] #[]) := by rw [← hA]; exact putsA_at 1 _ (by decide +kernel)
            have e18 : A.tmps[18]? = some (x 4) := by rw [← hA]; exact putsA_in (i := 4) 18 (by rfl) (by show (18 : Nat) < 40; decide) _ (by decide +kernel) (by decide)
            obtain ⟨_, _, _, f4, _⟩ := hd 4 (by decide)
            replace f4 : x 4 = .bool true := f4
            rw [f4] at e18
            clear hA hd
            refine wpOp_step rfl (fun K' hK' => ?_)
            go_simp
            exact hK' _ _ (hK _ _ ⟨0, 0, 0, rfl, al0⟩ (Below.refl _ _) no_al)
          · generalize hA : putsA _ _ x (0 :: 1 :: 2 :: 3 :: 4 :: 5 :: 6 :: 7 :: 8 :: 9 :: 10 :: 11 :: 12 :: 13 :: 14 :: 15 :: 16 :: 17 :: 18 :: 19 :: 20 :: 21 :: 22 :: 23 :: 24 :: []) = A at *
            have e6 : A.tmps[6]? = some (.pointer (some ⟨wr.heap.size, 0, none⟩)) := by rw [← hA]; exact putsA_at 6 _ (by decide +kernel)
            have e18 : A.tmps[18]? = some (x 4) := by rw [← hA]; exact putsA_in (i := 4) 18 (by rfl) (by show (18 : Nat) < 40; decide) _ (by decide +kernel) (by decide)
            obtain ⟨_, _, _, f4, _⟩ := hd 4 (by decide)
            replace f4 : x 4 = .bool true := f4
            rw [f4] at e18
            clear hA hd
            obtain ⟨c0, c1, c2, c3⟩ := cell4 (hs.1 _ (.head _))
            refine wpOp_step rfl (fun K' hK' => ?_)
            go_simp
            exact hK' _ _ (hK _ _ ⟨0, 0, 0, rfl, al0⟩ (Below.refl _ _) no_al)
          · generalize hA : putsA _ _ x (0 :: 1 :: 2 :: 3 :: 4 :: 5 :: 6 :: 7 :: 8 :: 9 :: 10 :: 11 :: 12 :: 13 :: 14 :: 15 :: 16 :: 17 :: 18 :: 19 :: 20 :: 21 :: 22 :: 23 :: 24 :: []) = A at *
            have e18 : A.tmps[18]? = some (x 4) := by rw [← hA]; exact putsA_in (i := 4) 18 (by rfl) (by show (18 : Nat) < 40; decide) _ (by decide +kernel) (by decide)
            obtain ⟨_, _, _, f4, _⟩ := hd 4 (by decide)
            replace f4 : x 4 = .bool true := f4
            rw [f4] at e18
            have e19 : A.tmps[19]? = some (x 5) := by rw [← hA]; exact putsA_in (i := 5) 19 (by rfl) (by show (19 : Nat) < 40; decide) _ (by decide +kernel) (by decide)
            obtain ⟨_, _, _, f5, _⟩ := hd 5 (by decide)
            replace f5 : x 5 = undef := f5
            rw [f5] at e19
            have e20 : A.tmps[20]? = some (x 6) := by rw [← hA]; exact putsA_in (i := 6) 20 (by rfl) (by show (20 : Nat) < 40; decide) _ (by decide +kernel) (by decide)
            obtain ⟨_, _, _, f6, _⟩ := hd 6 (by decide)
            replace f6 : x 6 = undef := f6
            rw [f6] at e20
            clear hA hd
            refine wpOp_step rfl (fun K' hK' => ?_)
            go_simp
            exact hK' _ _ (hK _ _ ⟨0, 0, 0, rfl, al0⟩ (Below.refl _ _) no_al)
          · generalize hA : putsA _ _ x (0 :: 1 :: 2 :: 3 :: 4 :: 5 :: 6 :: 7 :: 8 :: 9 :: 10 :: 11 :: 12 :: 13 :: 14 :: 15 :: 16 :: 17 :: 18 :: 19 :: 20 :: 21 :: 22 :: 23 :: 24 :: []) = A at *
            have e18 : A.tmps[18]? = some (x 4) := by rw [← hA]; exact putsA_in (i := 4) 18 (by rfl) (by show (18 : Nat) < 40; decide) _ (by decide +kernel) (by decide)
            obtain ⟨_, _, _, f4, _⟩ := hd 4 (by decide)
            replace f4 : x 4 = .bool true := f4
            rw [f4] at e18
            have e21 : A.tmps[21]? = some (x 7) := by rw [← hA]; exact putsA_in (i := 7) 21 (by rfl) (by show (21 : Nat) < 40; decide) _ (by decide +kernel) (by decide)
            obtain ⟨_, _, _, f7, _⟩ := hd 7 (by decide)
            replace f7 : x 7 = undef := f7
            rw [f7] at e21
            clear hA hd
            refine wpOp_step rfl (fun K' hK' => ?_)
            go_simp
            exact hK' _ _ (hK _ _ ⟨0, 0, 0, rfl, al0⟩ (Below.refl _ _) no_al)
          · generalize hA : putsA _ _ x (0 :: 1 :: 2 :: 3 :: 4 :: 5 :: 6 :: 7 :: 8 :: 9 :: 10 :: 11 :: 12 :: 13 :: 14 :: 15 :: 16 :: 17 :: 18 :: 19 :: 20 :: 21 :: 22 :: 23 :: 24 :: []) = A at *
            have e18 : A.tmps[18]? = some (x 4) := by rw [← hA]; exact putsA_in (i := 4) 18 (by rfl) (by show (18 : Nat) < 40; decide) _ (by decide +kernel) (by decide)
            obtain ⟨_, _, _, f4, _⟩ := hd 4 (by decide)
            replace f4 : x 4 = .bool true := f4
            rw [f4] at e18
            have e22 : A.tmps[22]? = some (x 8) := by rw [← hA]; exact putsA_in (i := 8) 22 (by rfl) (by show (22 : Nat) < 40; decide) _ (by decide +kernel) (by decide)
            obtain ⟨_, _, _, f8, _⟩ := hd 8 (by decide)
            replace f8 : x 8 = undef := f8
            rw [f8] at e22
            clear hA hd
            refine wpOp_step rfl (fun K' hK' => ?_)
            go_simp
            exact hK' _ _ (hK _ _ ⟨0, 0, 0, rfl, al0⟩ (Below.refl _ _) no_al)
          · generalize hA : putsA _ _ x (0 :: 1 :: 2 :: 3 :: 4 :: 5 :: 6 :: 7 :: 8 :: 9 :: 10 :: 11 :: 12 :: 13 :: 14 :: 15 :: 16 :: 17 :: 18 :: 19 :: 20 :: 21 :: 22 :: 23 :: 24 :: []) = A at *
            have e23 : A.tmps[23]? = some (x 9) := by rw [← hA]; exact putsA_in (i := 9) 23 (by rfl) (by show (23 : Nat) < 40; decide) _ (by decide +kernel) (by decide)
            obtain ⟨_, _, _, f9, _⟩ := hd 9 (by decide)
            replace f9 : x 9 = .bool true := f9
            rw [f9] at e23
            clear hA hd
            refine wpOp_step rfl (fun K' hK' => ?_)
            go_simp
            exact hK' _ _ (hK _ _ ⟨0, 0, 0, rfl, al0⟩ (Below.refl _ _) no_al)
          · generalize hA : putsA _ _ x (0 :: 1 :: 2 :: 3 :: 4 :: 5 :: 6 :: 7 :: 8 :: 9 :: 10 :: 11 :: 12 :: 13 :: 14 :: 15 :: 16 :: 17 :: 18 :: 19 :: 20 :: 21 :: 22 :: 23 :: 24 :: []) = A at *
            have e5 : A.tmps[5]? = some (.int .i64 (j : Int)) := by rw [← hA]; exact putsA_at 5 _ (by decide +kernel)
            have e24 : A.tmps[24]? = some (x 10) := by rw [← hA]; exact putsA_in (i := 10) 24 (by rfl) (by show (24 : Nat) < 40; decide) _ (by decide +kernel) (by decide)
            obtain ⟨_, _, _, f10, _⟩ := hd 10 (by decide)
            replace f10 : x 10 = .bool true := f10
            rw [f10] at e24
            clear hA hd
            refine wpOp_step rfl (fun K' hK' => ?_)
            go_simp
            exact hK' _ _ (hK _ _ ⟨0, 0, 0, rfl, al0⟩ (Below.refl _ _) no_al)
          · generalize hA : putsA _ _ x (0 :: 1 :: 2 :: 3 :: 4 :: 5 :: 6 :: 7 :: 8 :: 9 :: 10 :: 11 :: 12 :: 13 :: 14 :: 15 :: 16 :: 17 :: 18 :: 19 :: 20 :: 21 :: 22 :: 23 :: 24 :: []) = A at *
            have e24 : A.tmps[24]? = some (x 10) := by rw [← hA]; exact putsA_in (i := 10) 24 (by rfl) (by show (24 : Nat) < 40; decide) _ (by decide +kernel) (by decide)
            obtain ⟨_, _, _, f10, _⟩ := hd 10 (by decide)
            replace f10 : x 10 = .bool true := f10
            rw [f10] at e24
            have e25 : A.tmps[25]? = some (x 11) := by rw [← hA]; exact putsA_in (i := 11) 25 (by rfl) (by show (25 : Nat) < 40; decide) _ (by decide +kernel) (by decide)
            obtain ⟨_, _, _, f11, _⟩ := hd 11 (by decide)
            replace f11 : x 11 = undef := f11
            rw [f11] at e25
            clear hA hd
            refine wpOp_step rfl (fun K' hK' => ?_)
            go_simp
            exact hK' _ _ (hK _ _ ⟨0, 0, 0, rfl, al0⟩ (Below.refl _ _) no_al)
          · generalize hA : putsA _ _ x (0 :: 1 :: 2 :: 3 :: 4 :: 5 :: 6 :: 7 :: 8 :: 9 :: 10 :: 11 :: 12 :: 13 :: 14 :: 15 :: 16 :: 17 :: 18 :: 19 :: 20 :: 21 :: 22 :: 23 :: 24 :: []) = A at *
            have e24 : A.tmps[24]? = some (x 10) := by rw [← hA]; exact putsA_in (i := 10) 24 (by rfl) (by show (24 : Nat) < 40; decide) _ (by decide +kernel) (by decide)
            obtain ⟨_, _, _, f10, _⟩ := hd 10 (by decide)
            replace f10 : x 10 = .bool true := f10
            rw [f10] at e24
            have e26 : A.tmps[26]? = some (x 12) := by rw [← hA]; exact putsA_in (i := 12) 26 (by rfl) (by show (26 : Nat) < 40; decide) _ (by decide +kernel) (by decide)
            obtain ⟨_, _, _, f12, _⟩ := hd 12 (by decide)
            replace f12 : x 12 = undef := f12
            rw [f12] at e26
            clear hA hd
            refine wpOp_step rfl (fun K' hK' => ?_)
            go_simp
            exact hK' _ _ (hK _ _ ⟨0, 0, 0, rfl, al0⟩ (Below.refl _ _) no_al)
          · generalize hA : putsA _ _ x (0 :: 1 :: 2 :: 3 :: 4 :: 5 :: 6 :: 7 :: 8 :: 9 :: 10 :: 11 :: 12 :: 13 :: 14 :: 15 :: 16 :: 17 :: 18 :: 19 :: 20 :: 21 :: 22 :: 23 :: 24 :: []) = A at *
            have e0 : A.tmps[0]? = some (.slice (some ⟨b, o, none⟩) n c) := by rw [← hA]; exact putsA_at 0 _ (by decide +kernel)
            have e27 : A.tmps[27]? = some (x 13) := by rw [← hA]; exact putsA_in (i := 13) 27 (by rfl) (by show (27 : Nat) < 40; decide) _ (by decide +kernel) (by decide)
            obtain ⟨_, _, _, f13, _⟩ := hd 13 (by decide)
            replace f13 : x 13 = undef := f13
            rw [f13] at e27
            clear hA hd
            refine wpOp_step rfl (fun K' hK' => ?_)
            go_simp
            exact hK' _ _ (hK _ _ ⟨0, 0, 0, rfl, al0⟩ (Below.refl _ _) no_al)
          · generalize hA : putsA _ _ x (0 :: 1 :: 2 :: 3 :: 4 :: 5 :: 6 :: 7 :: 8 :: 9 :: 10 :: 11 :: 12 :: 13 :: 14 :: 15 :: 16 :: 17 :: 18 :: 19 :: 20 :: 21 :: 22 :: 23 :: 24 :: []) = A at *
            have e5 : A.tmps[5]? = some (.int .i64 (j : Int)) := by rw [← hA]; exact putsA_at 5 _ (by decide +kernel)
            have e27 : A.tmps[27]? = some (x 13) := by rw [← hA]; exact putsA_in (i := 13) 27 (by rfl) (by show (27 : Nat) < 40; decide) _ (by decide +kernel) (by decide)
            obtain ⟨_, _, _, f13, _⟩ := hd 13 (by decide)
            replace f13 : x 13 = undef := f13
            rw [f13] at e27
            clear hA hd
            refine wpOp_step rfl (fun K' hK' => ?_)
            go_simp
            exact hK' _ _ (hK _ _ ⟨0, 0, 0, rfl, al0⟩ (Below.refl _ _) no_al)
          · generalize hA : putsA _ _ x (0 :: 1 :: 2 :: 3 :: 4 :: 5 :: 6 :: 7 :: 8 :: 9 :: 10 :: 11 :: 12 :: 13 :: 14 :: 15 :: 16 :: 17 :: 18 :: 19 :: 20 :: 21 :: 22 :: 23 :: 24 :: []) = A at *
            have e27 : A.tmps[27]? = some (x 13) := by rw [← hA]; exact putsA_in (i := 13) 27 (by rfl) (by show (27 : Nat) < 40; decide) _ (by decide +kernel) (by decide)
            obtain ⟨_, _, _, f13, _⟩ := hd 13 (by decide)
            replace f13 : x 13 = undef := f13
            rw [f13] at e27
            have e29 : A.tmps[29]? = some (x 15) := by rw [← hA]; exact putsA_in (i := 15) 29 (by rfl) (by show (29 : Nat) < 40; decide) _ (by decide +kernel) (by decide)
            obtain ⟨_, _, _, f15, _⟩ := hd 15 (by decide)
            replace f15 : x 15 = undef := f15
            rw [f15] at e29
            clear hA hd
            refine wpOp_step rfl (fun K' hK' => ?_)
            go_simp
            exact hK' _ _ (hK _ _ ⟨0, 0, 0, rfl, al0⟩ (Below.refl _ _) no_al)
          · generalize hA : putsA _ _ x (0 :: 1 :: 2 :: 3 :: 4 :: 5 :: 6 :: 7 :: 8 :: 9 :: 10 :: 11 :: 12 :: 13 :: 14 :: 15 :: 16 :: 17 :: 18 :: 19 :: 20 :: 21 :: 22 :: 23 :: 24 :: []) = A at *
            have e27 : A.tmps[27]? = some (x 13) := by rw [← hA]; exact putsA_in (i := 13) 27 (by rfl) (by show (27 : Nat) < 40; decide) _ (by decide +kernel) (by decide)
            obtain ⟨_, _, _, f13, _⟩ := hd 13 (by decide)
            replace f13 : x 13 = undef := f13
            rw [f13] at e27
            have e28 : A.tmps[28]? = some (x 14) := by rw [← hA]; exact putsA_in (i := 14) 28 (by rfl) (by show (28 : Nat) < 40; decide) _ (by decide +kernel) (by decide)
            obtain ⟨_, _, _, f14, _⟩ := hd 14 (by decide)
            replace f14 : x 14 = undef := f14
            rw [f14] at e28
            have e30 : A.tmps[30]? = some (x 16) := by rw [← hA]; exact putsA_in (i := 16) 30 (by rfl) (by show (30 : Nat) < 40; decide) _ (by decide +kernel) (by decide)
            obtain ⟨_, _, _, f16, _⟩ := hd 16 (by decide)
            replace f16 : x 16 = undef := f16
            rw [f16] at e30
            clear hA hd
            refine wpOp_step rfl (fun K' hK' => ?_)
            go_simp
            exact hK' _ _ (hK _ _ ⟨0, 0, 0, rfl, al0⟩ (Below.refl _ _) no_al)
          · generalize hA : putsA _ _ x (0 :: 1 :: 2 :: 3 :: 4 :: 5 :: 6 :: 7 :: 8 :: 9 :: 10 :: 11 :: 12 :: 13 :: 14 :: 15 :: 16 :: 17 :: 18 :: 19 :: 20 :: 21 :: 22 :: 23 :: 24 :: []) = A at *
            have e27 : A.tmps[27]? = some (x 13) := by rw [← hA]; exact putsA_in (i := 13) 27 (by rfl) (by show (27 : Nat) < 40; decide) _ (by decide +kernel) (by decide)
            obtain ⟨_, _, _, f13, _⟩ := hd 13 (by decide)
            replace f13 : x 13 = undef := f13
            rw [f13] at e27
            have e31 : A.tmps[31]? = some (x 17) := by rw [← hA]; exact putsA_in (i := 17) 31 (by rfl) (by show (31 : Nat) < 40; decide) _ (by decide +kernel) (by decide)
            obtain ⟨_, _, _, f17, _⟩ := hd 17 (by decide)
            replace f17 : x 17 = undef := f17
            rw [f17] at e31
            clear hA hd
            refine wpOp_step rfl (fun K' hK' => ?_)
            go_simp
            exact hK' _ _ (hK _ _ ⟨0, 0, 0, rfl, al0⟩ (Below.refl _ _) no_al)
          · generalize hA : putsA _ _ x (0 :: 1 :: 2 :: 3 :: 4 :: 5 :: 6 :: 7 :: 8 :: 9 :: 10 :: 11 :: 12 :: 13 :: 14 :: 15 :: 16 :: 17 :: 18 :: 19 :: 20 :: 21 :: 22 :: 23 :: 24 :: []) = A at *
            have e27 : A.tmps[27]? = some (x 13) := by rw [← hA]; exact putsA_in (i := 13) 27 (by rfl) (by show (27 : Nat) < 40; decide) _ (by decide +kernel) (by decide)
            obtain ⟨_, _, _, f13, _⟩ := hd 13 (by decide)
            replace f13 : x 13 = undef := f13
            rw [f13] at e27
            have e32 : A.tmps[32]? = some (x 18) := by rw [← hA]; exact putsA_in (i := 18) 32 (by rfl) (by show (32 : Nat) < 40; decide) _ (by decide +kernel) (by decide)
            obtain ⟨_, _, _, f18, _⟩ := hd 18 (by decide)
            replace f18 : x 18 = undef := f18
            rw [f18] at e32
            clear hA hd
            refine wpOp_step rfl (fun K' hK' => ?_)
            go_simp
            exact hK' _ _ (hK _ _ ⟨0, 0, 0, rfl, al0⟩ (Below.refl _ _) no_al)
          · generalize hA : putsA _ _ x (0 :: 1 :: 2 :: 3 :: 4 :: 5 :: 6 :: 7 :: 8 :: 9 :: 10 :: 11 :: 12 :: 13 :: 14 :: 15 :: 16 :: 17 :: 18 :: 19 :: 20 :: 21 :: 22 :: 23 :: 24 :: []) = A at *
            have e6 : A.tmps[6]? = some (.pointer (some ⟨wr.heap.size, 0, none⟩)) := by rw [← hA]; exact putsA_at 6 _ (by decide +kernel)
            have e27 : A.tmps[27]? = some (x 13) := by rw [← hA]; exact putsA_in (i := 13) 27 (by rfl) (by show (27 : Nat) < 40; decide) _ (by decide +kernel) (by decide)
            obtain ⟨_, _, _, f13, _⟩ := hd 13 (by decide)
            replace f13 : x 13 = undef := f13
            rw [f13] at e27
            clear hA hd
            refine wpOp_step rfl (fun K' hK' => ?_)
            go_simp
            exact hK' _ _ (hK _ _ ⟨0, 0, 0, rfl, al0⟩ (Below.refl _ _) no_al)
          · generalize hA : putsA _ _ x (0 :: 1 :: 2 :: 3 :: 4 :: 5 :: 6 :: 7 :: 8 :: 9 :: 10 :: 11 :: 12 :: 13 :: 14 :: 15 :: 16 :: 17 :: 18 :: 19 :: 20 :: 21 :: 22 :: 23 :: 24 :: []) = A at *
            have e27 : A.tmps[27]? = some (x 13) := by rw [← hA]; exact putsA_in (i := 13) 27 (by rfl) (by show (27 : Nat) < 40; decide) _ (by decide +kernel) (by decide)
            obtain ⟨_, _, _, f13, _⟩ := hd 13 (by decide)
            replace f13 : x 13 = undef := f13
            rw [f13] at e27
            have e34 : A.tmps[34]? = some (x 20) := by rw [← hA]; exact putsA_in (i := 20) 34 (by rfl) (by show (34 : Nat) < 40; decide) _ (by decide +kernel) (by decide)
            obtain ⟨_, _, _, f20, _⟩ := hd 20 (by decide)
            replace f20 : x 20 = undef := f20
            rw [f20] at e34
            clear hA hd
            obtain ⟨c0, c1, c2, c3⟩ := cell4 (hs.1 _ (.head _))
            refine wpOp_step rfl (fun K' hK' => ?_)
            go_simp
            exact hK' _ _ (hK _ _ ⟨0, 0, 0, rfl, al0⟩ (Below.refl _ _) no_al)
          · generalize hA : putsA _ _ x (0 :: 1 :: 2 :: 3 :: 4 :: 5 :: 6 :: 7 :: 8 :: 9 :: 10 :: 11 :: 12 :: 13 :: 14 :: 15 :: 16 :: 17 :: 18 :: 19 :: 20 :: 21 :: 22 :: 23 :: 24 :: []) = A at *
            have e27 : A.tmps[27]? = some (x 13) := by rw [← hA]; exact putsA_in (i := 13) 27 (by rfl) (by show (27 : Nat) < 40; decide) _ (by decide +kernel) (by decide)
            obtain ⟨_, _, _, f13, _⟩ := hd 13 (by decide)
            replace f13 : x 13 = undef := f13
            rw [f13] at e27
            have e33 : A.tmps[33]? = some (x 19) := by rw [← hA]; exact putsA_in (i := 19) 33 (by rfl) (by show (33 : Nat) < 40; decide) _ (by decide +kernel) (by decide)
            obtain ⟨_, _, _, f19, _⟩ := hd 19 (by decide)
            replace f19 : x 19 = undef := f19
            rw [f19] at e33
            have e35 : A.tmps[35]? = some (x 21) := by rw [← hA]; exact putsA_in (i := 21) 35 (by rfl) (by show (35 : Nat) < 40; decide) _ (by decide +kernel) (by decide)
            obtain ⟨_, _, _, f21, _⟩ := hd 21 (by decide)
            replace f21 : x 21 = undef := f21
            rw [f21] at e35
            clear hA hd
            refine wpOp_step rfl (fun K' hK' => ?_)
            go_simp
            exact hK' _ _ (hK _ _ ⟨0, 0, 0, rfl, al0⟩ (Below.refl _ _) no_al)
          · generalize hA : putsA _ _ x (0 :: 1 :: 2 :: 3 :: 4 :: 5 :: 6 :: 7 :: 8 :: 9 :: 10 :: 11 :: 12 :: 13 :: 14 :: 15 :: 16 :: 17 :: 18 :: 19 :: 20 :: 21 :: 22 :: 23 :: 24 :: []) = A at *
            have e24 : A.tmps[24]? = some (x 10) := by rw [← hA]; exact putsA_in (i := 10) 24 (by rfl) (by show (24 : Nat) < 40; decide) _ (by decide +kernel) (by decide)
            obtain ⟨_, _, _, f10, _⟩ := hd 10 (by decide)
            replace f10 : x 10 = .bool true := f10
            rw [f10] at e24
            have e27 : A.tmps[27]? = some (x 13) := by rw [← hA]; exact putsA_in (i := 13) 27 (by rfl) (by show (27 : Nat) < 40; decide) _ (by decide +kernel) (by decide)
            obtain ⟨_, _, _, f13, _⟩ := hd 13 (by decide)
            replace f13 : x 13 = undef := f13
            rw [f13] at e27
            have e36 : A.tmps[36]? = some (x 22) := by rw [← hA]; exact putsA_in (i := 22) 36 (by rfl) (by show (36 : Nat) < 40; decide) _ (by decide +kernel) (by decide)
            obtain ⟨_, _, _, f22, _⟩ := hd 22 (by decide)
            replace f22 : x 22 = undef := f22
            rw [f22] at e36
            clear hA hd
            refine wpOp_step rfl (fun K' hK' => ?_)
            go_simp
            exact hK' _ _ (hK _ _ ⟨0, 0, 0, rfl, al0⟩ (Below.refl _ _) no_al)
          · generalize hA : putsA _ _ x (0 :: 1 :: 2 :: 3 :: 4 :: 5 :: 6 :: 7 :: 8 :: 9 :: 10 :: 11 :: 12 :: 13 :: 14 :: 15 :: 16 :: 17 :: 18 :: 19 :: 20 :: 21 :: 22 :: 23 :: 24 :: []) = A at *
            have e24 : A.tmps[24]? = some (x 10) := by rw [← hA]; exact putsA_in (i := 10) 24 (by rfl) (by show (24 : Nat) < 40; decide) _ (by decide +kernel) (by decide)
            obtain ⟨_, _, _, f10, _⟩ := hd 10 (by decide)
            replace f10 : x 10 = .bool true := f10
            rw [f10] at e24
            have e37 : A.tmps[37]? = some (x 23) := by rw [← hA]; exact putsA_in (i := 23) 37 (by rfl) (by show (37 : Nat) < 40; decide) _ (by decide +kernel) (by decide)
            obtain ⟨_, _, _, f23, _⟩ := hd 23 (by decide)
            replace f23 : x 23 = undef := f23
            rw [f23] at e37
            clear hA hd
            refine wpOp_step rfl (fun K' hK' => ?_)
            go_simp
            exact hK' _ _ (hK _ _ ⟨0, 0, 0, rfl, al0⟩ (Below.refl _ _) no_al)
        case hend =>
          intro x W hf hg hb
          have HSE := Lib.hid (bs_below HS.out hb).2.2
          have hl : x 24 = .bool true := by
            obtain ⟨_, _, _, h, _⟩ := hf 24 (by decide)
            exact h
          rw [putsA_lit _ _ (0 :: 1 :: 2 :: 3 :: 4 :: 5 :: 6 :: 7 :: 8 :: 9 :: 10 :: 11 :: 12 :: 13 :: 14 :: 15 :: 16 :: 17 :: 18 :: 19 :: 20 :: 21 :: 22 :: 23 :: 24 :: []) ((14, 0) :: (15, 1) :: (16, 2) :: (17, 3) :: (18, 4) :: (19, 5) :: (20, 6) :: (21, 7) :: (22, 8) :: (23, 9) :: (24, 10) :: (25, 11) :: (26, 12) :: (27, 13) :: (28, 14) :: (29, 15) :: (30, 16) :: (31, 17) :: (32, 18) :: (33, 19) :: (34, 20) :: (35, 21) :: (36, 22) :: (37, 23) :: (38, 24) :: []) (by kernel_rfl)]
          simp only [setAll, ↓reduceIte, Nat.reduceAdd, Nat.reduceEqDiff]
          rw [hl]
          clear hf hl hg hb HS HFC HPP
          refine wpAny_done (by kernel_rfl) ?_ _
          refine NoPanic.normal ?_
          go_wp2
          go_ret
          exact ⟨rbool HR.out.symm, HSE.out⟩

      have hkd : decide (100 < (k.size : Int)) = false := decide_eq_false hk
      have HK := Lib.hid (show (k.size : Int) ≤ 100 by omega)
      clear hk
      obtain ⟨fv, hfv⟩ : ∃ fv, leafB ⟨k, z, lo, p⟩ = fv := ⟨_, rfl⟩
      have HFV := Lib.hid hfv
      clear hfv
      cases fv
      · have HR : Hid (okL leafB none l = false) := Lib.hid (by rw [HQ.out, HFV.out]; simp)
        clear HQ
        obtain ⟨kp, hkp⟩ : ∃ kp : ByteArray, kp = k := ⟨_, rfl⟩
        clear hkp
        refine wp_region_noPanic ?_
        refine wp_region_any (by kernel_rfl) ?_
        refine facts_start (0 :: 1 :: 2 :: 3 :: 4 :: 5 :: 6 :: 7 :: 8 :: 9 :: 10 :: 11 :: 12 :: 13 :: 14 :: 15 :: 16 :: 17 :: 18 :: 19 :: 20 :: 21 :: 22 :: 23 :: 24 :: []) [] D4 (Ft (mkccells_leaf2 wr.heap.size b o n c j k kp z lo p) (fun _ _ _ _ => [])) _ _ _ 0 _ #[true, true, true, true, true, true, true, true, true, true, true, true, true, true, true, true, true, true, true, true, true, true, true, true, true] (by kernel_rfl) (by rfl) ft_step no_al' ?hstep ?hend
        case hstep =>
          intro i hi x W hd hb K hK
          have hs := bs_below HS.out hb
          simp only [List.mem_cons, List.not_mem_nil, or_false] at hi
          rcases hi with rfl | rfl | rfl | rfl | rfl | rfl | rfl | rfl | rfl | rfl | rfl | rfl | rfl | rfl | rfl | rfl | rfl | rfl | rfl | rfl | rfl | rfl | rfl | rfl | rfl
          · generalize hA : putsA _ _ x (0 :: 1 :: 2 :: 3 :: 4 :: 5 :: 6 :: 7 :: 8 :: 9 :: 10 :: 11 :: 12 :: 13 :: 14 :: 15 :: 16 :: 17 :: 18 :: 19 :: 20 :: 21 :: 22 :: 23 :: 24 :: []) = A at *
            have e6 : A.tmps[6]? = some (.pointer (some ⟨wr.heap.size, 0, none⟩)) := by rw [← hA]; exact putsA_at 6 _ (by decide +kernel)
            clear hA hd
            refine wpOp_step rfl (fun K' hK' => ?_)
            go_simp
            exact hK' _ _ (hK _ _ ⟨0, 0, 0, rfl, al0⟩ (Below.refl _ _) no_al)
          · generalize hA : putsA _ _ x (0 :: 1 :: 2 :: 3 :: 4 :: 5 :: 6 :: 7 :: 8 :: 9 :: 10 :: 11 :: 12 :: 13 :: 14 :: 15 :: 16 :: 17 :: 18 :: 19 :: 20 :: 21 :: 22 :: 23 :: 24 :: []) = A at *
            have e14 : A.tmps[14]? = some (x 0) := by rw [← hA]; exact putsA_in (i := 0) 14 (by rfl) (by show (14 : Nat) < 40; decide) _ (by decide +kernel) (by decide)
            obtain ⟨_, _, _, f0, _⟩ := hd 0 (by decide)
            replace f0 : x 0 = .pointer (some ⟨wr.heap.size, 0, none⟩) := f0
            rw [f0] at e14
            clear hA hd
            obtain ⟨c0, c1, c2, c3⟩ := cell4 (hs.1 _ (.head _))
            refine wpOp_step rfl (fun K' hK' => ?_)
            go_simp
            exact hK' _ _ (hK _ _ ⟨0, 0, 0, rfl, al0⟩ (Below.refl _ _) no_al)
          · generalize hA : putsA _ _ x (0 :: 1 :: 2 :: 3 :: 4 :: 5 :: 6 :: 7 :: 8 :: 9 :: 10 :: 11 :: 12 :: 13 :: 14 :: 15 :: 16 :: 17 :: 18 :: 19 :: 20 :: 21 :: 22 :: 23 :: 24 :: []) = A at *
            have e15 : A.tmps[15]? = some (x 1) := by rw [← hA]; exact putsA_in (i := 1) 15 (by rfl) (by show (15 : Nat) < 40; decide) _ (by decide +kernel) (by decide)
            obtain ⟨_, _, _, f1, _⟩ := hd 1 (by decide)
            replace f1 : x 1 = .string k := f1
            rw [f1] at e15
            clear hA hd
            refine wpOp_step rfl (fun K' hK' => ?_)
            go_simp
            exact hK' _ _ (hK _ _ ⟨0, 0, 0, rfl, al0⟩ (Below.refl _ _) no_al)
          · generalize hA : putsA _ _ x (0 :: 1 :: 2 :: 3 :: 4 :: 5 :: 6 :: 7 :: 8 :: 9 :: 10 :: 11 :: 12 :: 13 :: 14 :: 15 :: 16 :: 17 :: 18 :: 19 :: 20 :: 21 :: 22 :: 23 :: 24 :: []) = A at *
            have e16 : A.tmps[16]? = some (x 2) := by rw [← hA]; exact putsA_in (i := 2) 16 (by rfl) (by show (16 : Nat) < 40; decide) _ (by decide +kernel) (by decide)
            obtain ⟨_, _, _, f2, _⟩ := hd 2 (by decide)
            replace f2 : x 2 = .int .i64 (k.size : Int) := f2
            rw [f2] at e16
            clear hA hd
            refine wpOp_step rfl (fun K' hK' => ?_)
            go_simp
            exact hK' _ _ (hK _ _ ⟨0, 0, 0, rfl, al0⟩ (Below.refl _ _) no_al)
          · generalize hA : putsA _ _ x (0 :: 1 :: 2 :: 3 :: 4 :: 5 :: 6 :: 7 :: 8 :: 9 :: 10 :: 11 :: 12 :: 13 :: 14 :: 15 :: 16 :: 17 :: 18 :: 19 :: 20 :: 21 :: 22 :: 23 :: 24 :: []) = A at *
            have e17 : A.tmps[17]? = some (x 3) := by rw [← hA]; exact putsA_in (i := 3) 17 (by rfl) (by show (17 : Nat) < 40; decide) _ (by decide +kernel) (by decide)
            obtain ⟨_, _, _, f3, _⟩ := hd 3 (by decide)
            replace f3 : x 3 = .bool false := f3
            rw [f3] at e17
            clear hA hd
            refine wpOp_step rfl (fun K' hK' => ?_)
            go_simp
            exact hK' _ _ (hK _ _ ⟨0, 0, 0, rfl, al0⟩ (Below.refl _ _) no_al)
          · generalize hA : putsA _ _ x (0 :: 1 :: 2 :: 3 :: 4 :: 5 :: 6 :: 7 :: 8 :: 9 :: 10 :: 11 :: 12 :: 13 :: 14 :: 15 :: 16 :: 17 :: 18 :: 19 :: 20 :: 21 :: 22 :: 23 :: 24 :: []) = A at *
            have e1 : A.tmps[1]? = some (.func (.func 53) #[] #[]) := by rw [← hA]; exact putsA_at 1 _ (by decide +kernel)
            have e18 : A.tmps[18]? = some (x 4) := by rw [← hA]; exact putsA_in (i := 4) 18 (by rfl) (by show (18 : Nat) < 40; decide) _ (by decide +kernel) (by decide)
            obtain ⟨_, _, _, f4, _⟩ := hd 4 (by decide)
            replace f4 : x 4 = .bool false := f4
            rw [f4] at e18
            clear hA hd
            refine wpOp_step rfl (fun K' hK' => ?_)
            go_simp
            exact hK' _ _ (hK _ _ ⟨0, 0, 0, rfl, al0⟩ (Below.refl _ _) no_al)
          · generalize hA : putsA _ _ x (0 :: 1 :: 2 :: 3 :: 4 :: 5 :: 6 :: 7 :: 8 :: 9 :: 10 :: 11 :: 12 :: 13 :: 14 :: 15 :: 16 :: 17 :: 18 :: 19 :: 20 :: 21 :: 22 :: 23 :: 24 :: []) = A at *
            have e6 : A.tmps[6]? = some (.pointer (some ⟨wr.heap.size, 0, none⟩)) := by rw [← hA]; exact putsA_at 6 _ (by decide +kernel)
            have e18 : A.tmps[18]? = some (x 4) := by rw [← hA]; exact putsA_in (i := 4) 18 (by rfl) (by show (18 : Nat) < 40; decide) _ (by decide +kernel) (by decide)
            obtain ⟨_, _, _, f4, _⟩ := hd 4 (by decide)
            replace f4 : x 4 = .bool false := f4
            rw [f4] at e18
            clear hA hd
            obtain ⟨c0, c1, c2, c3⟩ := cell4 (hs.1 _ (.head _))
            refine wpOp_step rfl (fun K' hK' => ?_)
            go_simp
            exact hK' _ _ (hK _ _ ⟨0, 0, 0, rfl, al0⟩ (Below.refl _ _) no_al)
          · generalize hA : putsA _ _ x (0 :: 1 :: 2 :: 3 :: 4 :: 5 :: 6 :: 7 :: 8 :: 9 :: 10 :: 11 :: 12 :: 13 :: 14 :: 15 :: 16 :: 17 :: 18 :: 19 :: 20 :: 21 :: 22 :: 23 :: 24 :: []) = A at *
            have e18 : A.tmps[18]? = some (x 4) := by rw [← hA]; exact putsA_in (i := 4) 18 (by rfl) (by show (18 : Nat) < 40; decide) _ (by decide +kernel) (by decide)
            obtain ⟨_, _, _, f4, _⟩ := hd 4 (by decide)
            replace f4 : x 4 = .bool false := f4
            rw [f4] at e18
            have e19 : A.tmps[19]? = some (x 5) := by rw [← hA]; exact putsA_in (i := 5) 19 (by rfl) (by show (19 : Nat) < 40; decide) _ (by decide +kernel) (by decide)
            obtain ⟨_, _, _, f5, _⟩ := hd 5 (by decide)
            replace f5 : x 5 = .func (.func 53) #[] #[] := f5
            rw [f5] at e19
            have e20 : A.tmps[20]? = some (x 6) := by rw [← hA]; exact putsA_in (i := 6) 20 (by rfl) (by show (20 : Nat) < 40; decide) _ (by decide +kernel) (by decide)
            obtain ⟨_, _, _, f6, _⟩ := hd 6 (by decide)
            replace f6 : x 6 = .agg #[.string k, .int .i64 z, .string lo, .int .i64 p] := f6
            rw [f6] at e20
            clear hA hd
            refine wpOp_step rfl (fun K' hK' => ?_)
            go_simp
            refine (HFC.out W).mono ?_
            rw [HFV]
            rintro e w6 ⟨rfl, hb6⟩
            exact hK' _ _ (hK _ _ ⟨0, 0, 0, rfl, al0⟩ hb6 no_al)
          · generalize hA : putsA _ _ x (0 :: 1 :: 2 :: 3 :: 4 :: 5 :: 6 :: 7 :: 8 :: 9 :: 10 :: 11 :: 12 :: 13 :: 14 :: 15 :: 16 :: 17 :: 18 :: 19 :: 20 :: 21 :: 22 :: 23 :: 24 :: []) = A at *
            have e18 : A.tmps[18]? = some (x 4) := by rw [← hA]; exact putsA_in (i := 4) 18 (by rfl) (by show (18 : Nat) < 40; decide) _ (by decide +kernel) (by decide)
            obtain ⟨_, _, _, f4, _⟩ := hd 4 (by decide)
            replace f4 : x 4 = .bool false := f4
            rw [f4] at e18
            have e21 : A.tmps[21]? = some (x 7) := by rw [← hA]; exact putsA_in (i := 7) 21 (by rfl) (by show (21 : Nat) < 40; decide) _ (by decide +kernel) (by decide)
            obtain ⟨_, _, _, f7, _⟩ := hd 7 (by decide)
            replace f7 : x 7 = .bool false := f7
            rw [f7] at e21
            clear hA hd
            refine wpOp_step rfl (fun K' hK' => ?_)
            go_simp
            exact hK' _ _ (hK _ _ ⟨0, 0, 0, rfl, al0⟩ (Below.refl _ _) no_al)
          · generalize hA : putsA _ _ x (0 :: 1 :: 2 :: 3 :: 4 :: 5 :: 6 :: 7 :: 8 :: 9 :: 10 :: 11 :: 12 :: 13 :: 14 :: 15 :: 16 :: 17 :: 18 :: 19 :: 20 :: 21 :: 22 :: 23 :: 24 :: []) = A at *
            have e18 : A.tmps[18]? = some (x 4) := by rw [← hA]; exact putsA_in (i := 4) 18 (by rfl) (by show (18 : Nat) < 40; decide) _ (by decide +kernel) (by decide)
            obtain ⟨_, _, _, f4, _⟩ := hd 4 (by decide)
            replace f4 : x 4 = .bool false := f4
            rw [f4] at e18
            have e22 : A.tmps[22]? = some (x 8) := by rw [← hA]; exact putsA_in (i := 8) 22 (by rfl) (by show (22 : Nat) < 40; decide) _ (by decide +kernel) (by decide)
            obtain ⟨_, _, _, f8, _⟩ := hd 8 (by decide)
            replace f8 : x 8 = .bool true := f8
            rw [f8] at e22
            clear hA hd
            refine wpOp_step rfl (fun K' hK' => ?_)
            go_simp
            exact hK' _ _ (hK _ _ ⟨0, 0, 0, rfl, al0⟩ (Below.refl _ _) no_al)
          · generalize hA : putsA _ _ x (0 :: 1 :: 2 :: 3 :: 4 :: 5 :: 6 :: 7 :: 8 :: 9 :: 10 :: 11 :: 12 :: 13 :: 14 :: 15 :: 16 :: 17 :: 18 :: 19 :: 20 :: 21 :: 22 :: 23 :: 24 :: []) = A at *
            have e23 : A.tmps[23]? = some (x 9) := by rw [← hA]; exact putsA_in (i := 9) 23 (by rfl) (by show (23 : Nat) < 40; decide) _ (by decide +kernel) (by decide)
            obtain ⟨_, _, _, f9, _⟩ := hd 9 (by decide)
            replace f9 : x 9 = .bool true := f9
            rw [f9] at e23
            clear hA hd
            refine wpOp_step rfl (fun K' hK' => ?_)
            go_simp
            exact hK' _ _ (hK _ _ ⟨0, 0, 0, rfl, al0⟩ (Below.refl _ _) no_al)
          · generalize hA : putsA _ _ x (0 :: 1 :: 2 :: 3 :: 4 :: 5 :: 6 :: 7 :: 8 :: 9 :: 10 :: 11 :: 12 :: 13 :: 14 :: 15 :: 16 :: 17 :: 18 :: 19 :: 20 :: 21 :: 22 :: 23 :: 24 :: []) = A at *
            have e5 : A.tmps[5]? = some (.int .i64 (j : Int)) := by rw [← hA]; exact putsA_at 5 _ (by decide +kernel)
            have e24 : A.tmps[24]? = some (x 10) := by rw [← hA]; exact putsA_in (i := 10) 24 (by rfl) (by show (24 : Nat) < 40; decide) _ (by decide +kernel) (by decide)
            obtain ⟨_, _, _, f10, _⟩ := hd 10 (by decide)
            replace f10 : x 10 = .bool true := f10
            rw [f10] at e24
            clear hA hd
            refine wpOp_step rfl (fun K' hK' => ?_)
            go_simp
            exact hK' _ _ (hK _ _ ⟨0, 0, 0, rfl, al0⟩ (Below.refl _ _) no_al)
          · generalize hA : putsA _ _ x (0 :: 1 :: 2 :: 3 :: 4 :: 5 :: 6 :: 7 :: 8 :: 9 :: 10 :: 11 :: 12 :: 13 :: 14 :: 15 :: 16 :: 17 :: 18 :: 19 :: 20 :: 21 :: 22 :: 23 :: 24 :: []) = A at *
            have e24 : A.tmps[24]? = some (x 10) := by rw [← hA]; exact putsA_in (i := 10) 24 (by rfl) (by show (24 : Nat) < 40; decide) _ (by decide +kernel) (by decide)
            obtain ⟨_, _, _, f10, _⟩ := hd 10 (by decide)
            replace f10 : x 10 = .bool true := f10
            rw [f10] at e24
            have e25 : A.tmps[25]? = some (x 11) := by rw [← hA]; exact putsA_in (i := 11) 25 (by rfl) (by show (25 : Nat) < 40; decide) _ (by decide +kernel) (by decide)
            obtain ⟨_, _, _, f11, _⟩ := hd 11 (by decide)
            replace f11 : x 11 = undef := f11
            rw [f11] at e25
            clear hA hd
            refine wpOp_step rfl (fun K' hK' => ?_)
            go_simp
            exact hK' _ _ (hK _ _ ⟨0, 0, 0, rfl, al0⟩ (Below.refl _ _) no_al)
          · generalize hA : putsA _ _ x (0 :: 1 :: 2 :: 3 :: 4 :: 5 :: 6 :: 7 :: 8 :: 9 :: 10 :: 11 :: 12 :: 13 :: 14 :: 15 :: 16 :: 17 :: 18 :: 19 :: 20 :: 21 :: 22 :: 23 :: 24 :: []) = A at *
            have e24 : A.tmps[24]? = some (x 10) := by rw [← hA]; exact putsA_in (i := 10) 24 (by rfl) (by show (24 : Nat) < 40; decide) _ (by decide +kernel) (by decide)
            obtain ⟨_, _, _, f10, _⟩ := hd 10 (by decide)
            replace f10 : x 10 = .bool true := f10
            rw [f10] at e24
            have e26 : A.tmps[26]? = some (x 12) := by rw [← hA]; exact putsA_in (i := 12) 26 (by rfl) (by show (26 : Nat) < 40; decide) _ (by decide +kernel) (by decide)
            obtain ⟨_, _, _, f12, _⟩ := hd 12 (by decide)
            replace f12 : x 12 = undef := f12
            rw [f12] at e26
            clear hA hd
            refine wpOp_step rfl (fun K' hK' => ?_)
            go_simp
            exact hK' _ _ (hK _ _ ⟨0, 0, 0, rfl, al0⟩ (Below.refl _ _) no_al)
          · generalize hA : putsA _ _ x (0 :: 1 :: 2 :: 3 :: 4 :: 5 :: 6 :: 7 :: 8 :: 9 :: 10 :: 11 :: 12 :: 13 :: 14 :: 15 :: 16 :: 17 :: 18 :: 19 :: 20 :: 21 :: 22 :: 23 :: 24 :: []) = A at *
            have e0 : A.tmps[0]? = some (.slice (some ⟨b, o, none⟩) n c) := by rw [← hA]; exact putsA_at 0 _ (by decide +kernel)
            have e27 : A.tmps[27]? = some (x 13) := by rw [← hA]; exact putsA_in (i := 13) 27 (by rfl) (by show (27 : Nat) < 40; decide) _ (by decide +kernel) (by decide)
            obtain ⟨_, _, _, f13, _⟩ := hd 13 (by decide)
            replace f13 : x 13 = undef := f13
            rw [f13] at e27
            clear hA hd
            refine wpOp_step rfl (fun K' hK' => ?_)
            go_simp
            exact hK' _ _ (hK _ _ ⟨0, 0, 0, rfl, al0⟩ (Below.refl _ _) no_al)
          · generalize hA : putsA _ _ x (0 :: 1 :: 2 :: 3 :: 4 :: 5 :: 6 :: 7 :: 8 :: 9 :: 10 :: 11 :: 12 :: 13 :: 14 :: 15 :: 16 :: 17 :: 18 :: 19 :: 20 :: 21 :: 22 :: 23 :: 24 :: []) = A at *
            have e5 : A.tmps[5]? = some (.int .i64 (j : Int)) := by rw [← hA]; exact putsA_at 5 _ (by decide +kernel)
            have e27 : A.tmps[27]? = some (x 13) := by rw [← hA]; exact putsA_in (i := 13) 27 (by rfl) (by show (27 : Nat) < 40; decide) _ (by decide +kernel) (by decide)
            obtain ⟨_, _, _, f13, _⟩ := hd 13 (by decide)
            replace f13 : x 13 = undef := f13
            rw [f13] at e27
            clear hA hd
            refine wpOp_step rfl (fun K' hK' => ?_)
            go_simp
            exact hK' _ _ (hK _ _ ⟨0, 0, 0, rfl, al0⟩ (Below.refl _ _) no_al)
          · generalize hA : putsA _ _ x (0 :: 1 :: 2 :: 3 :: 4 :: 5 :: 6 :: 7 :: 8 :: 9 :: 10 :: 11 :: 12 :: 13 :: 14 :: 15 :: 16 :: 17 :: 18 :: 19 :: 20 :: 21 :: 22 :: 23 :: 24 :: []) = A at *
            have e27 : A.tmps[27]? = some (x 13) := by rw [← hA]; exact putsA_in (i := 13) 27 (by rfl) (by show (27 : Nat) < 40; decide) _ (by decide +kernel) (by decide)
            obtain ⟨_, _, _, f13, _⟩ := hd 13 (by decide)
            replace f13 : x 13 = undef := f13
            rw [f13] at e27
            have e29 : A.tmps[29]? = some (x 15) := by rw [← hA]; exact putsA_in (i := 15) 29 (by rfl) (by show (29 : Nat) < 40; decide) _ (by decide +kernel) (by decide)
            obtain ⟨_, _, _, f15, _⟩ := hd 15 (by decide)
            replace f15 : x 15 = undef := f15
            rw [f15] at e29
            clear hA hd
            refine wpOp_step rfl (fun K' hK' => ?_)
            go_simp
            exact hK' _ _ (hK _ _ ⟨0, 0, 0, rfl, al0⟩ (Below.refl _ _) no_al)
          · generalize hA : putsA _ _ x (0 :: 1 :: 2 :: 3 :: 4 :: 5 :: 6 :: 7 :: 8 :: 9 :: 10 :: 11 :: 12 :: 13 :: 14 :: 15 :: 16 :: 17 :: 18 :: 19 :: 20 :: 21 :: 22 :: 23 :: 24 :: []) = A at *
            have e27 : A.tmps[27]? = some (x 13) := by rw [← hA]; exact putsA_in (i := 13) 27 (by rfl) (by show (27 : Nat) < 40; decide) _ (by decide +kernel) (by decide)
            obtain ⟨_, _, _, f13, _⟩ := hd 13 (by decide)
            replace f13 : x 13 = undef := f13
            rw [f13] at e27
            have e28 : A.tmps[28]? = some (x 14) := by rw [← hA]; exact putsA_in (i := 14) 28 (by rfl) (by show (28 : Nat) < 40; decide) _ (by decide +kernel) (by decide)
            obtain ⟨_, _, _, f14, _⟩ := hd 14 (by decide)
            replace f14 : x 14 = undef := f14
            rw [f14] at e28
            have e30 : A.tmps[30]? = some (x 16) := by rw [← hA]; exact putsA_in (i := 16) 30 (by rfl) (by show (30 : Nat) < 40; decide) _ (by decide +kernel) (by decide)
            obtain ⟨_, _, _, f16, _⟩ := hd 16 (by decide)
            replace f16 : x 16 = undef := f16
            rw [f16] at e30
            clear hA hd
            refine wpOp_step rfl (fun K' hK' => ?_)
            go_simp
            exact hK' _ _ (hK _ _ ⟨0, 0, 0, rfl, al0⟩ (Below.refl _ _) no_al)
          · generalize hA : putsA _ _ x (0 :: 1 :: 2 :: 3 :: 4 :: 5 :: 6 :: 7 :: 8 :: 9 :: 10 :: 11 :: 12 :: 13 :: 14 :: 15 :: 16 :: 17 :: 18 :: 19 :: 20 :: 21 :: 22 :: 23 :: 24 :: []) = A at *
            have e27 : A.tmps[27]? = some (x 13) := by rw [← hA]; exact putsA_in (i := 13) 27 (by rfl) (by show (27 : Nat) < 40; decide) _ (by decide +kernel) (by decide)
            obtain ⟨_, _, _, f13, _⟩ := hd 13 (by decide)
            replace f13 : x 13 = undef := f13
            rw [f13] at e27
            have e31 : A.tmps[31]? = some (x 17) := by rw [← hA]; exact putsA_in (i := 17) 31 (by rfl) (by show (31 : Nat) < 40; decide) _ (by decide +kernel) (by decide)
            obtain ⟨_, _, _, f17, _⟩ := hd 17 (by decide)
            replace f17 : x 17 = undef := f17
            rw [f17] at e31
            clear hA hd
            refine wpOp_step rfl (fun K' hK' => ?_)
            go_simp
            exact hK' _ _ (hK _ _ ⟨0, 0, 0, rfl, al0⟩ (Below.refl _ _) no_al)
          · generalize hA : putsA _ _ x (0 :: 1 :: 2 :: 3 :: 4 :: 5 :: 6 :: 7 :: 8 :: 9 :: 10 :: 11 :: 12 :: 13 :: 14 :: 15 :: 16 :: 17 :: 18 :: 19 :: 20 :: 21 :: 22 :: 23 :: 24 :: []) = A at *
            have e27 : A.tmps[27]? = some (x 13) := by rw [← hA]; exact putsA_in (i := 13) 27 (by rfl) (by show (27 : Nat) < 40; decide) _ (by decide +kernel) (by decide)
            obtain ⟨_, _, _, f13, _⟩ := hd 13 (by decide)
            replace f13 : x 13 = undef := f13
            rw [f13] at e27
            have e32 : A.tmps[32]? = some (x 18) := by rw [← hA]; exact putsA_in (i := 18) 32 (by rfl) (by show (32 : Nat) < 40; decide) _ (by decide +kernel) (by decide)
            obtain ⟨_, _, _, f18, _⟩ := hd 18 (by decide)
            replace f18 : x 18 = undef := f18
            rw [f18] at e32
            clear hA hd
            refine wpOp_step rfl (fun K' hK' => ?_)
            go_simp
            exact hK' _ _ (hK _ _ ⟨0, 0, 0, rfl, al0⟩ (Below.refl _ _) no_al)
          · generalize hA : putsA _ _ x (0 :: 1 :: 2 :: 3 :: 4 :: 5 :: 6 :: 7 :: 8 :: 9 :: 10 :: 11 :: 12 :: 13 :: 14 :: 15 :: 16 :: 17 :: 18 :: 19 :: 20 :: 21 :: 22 :: 23 :: 24 :: []) = A at *
            have e6 : A.tmps[6]? = some (.pointer (some ⟨wr.heap.size, 0, none⟩)) := by rw [← hA]; exact putsA_at 6 _ (by decide +kernel)
            have e27 : A.tmps[27]? = some (x 13) := by rw [← hA]; exact putsA_in (i := 13) 27 (by rfl) (by show (27 : Nat) < 40; decide) _ (by decide +kernel) (by decide)
            obtain ⟨_, _, _, f13, _⟩ := hd 13 (by decide)
            replace f13 : x 13 = undef := f13
            rw [f13] at e27
            clear hA hd
            refine wpOp_step rfl (fun K' hK' => ?_)
            go_simp
            exact hK' _ _ (hK _ _ ⟨0, 0, 0, rfl, al0⟩ (Below.refl _ _) no_al)
          · generalize hA : putsA _ _ x (0 :: 1 :: 2 :: 3 :: 4 :: 5 :: 6 :: 7 :: 8 :: 9 :: 10 :: 11 :: 12 :: 13 :: 14 :: 15 :: 16 :: 17 :: 18 :: 19 :: 20 :: 21 :: 22 :: 23 :: 24 :: []) = A at *
            have e27 : A.tmps[27]? = some (x 13) := by rw [← hA]; exact putsA_in (i := 13) 27 (by rfl) (by show (27 : Nat) < 40; decide) _ (by decide +kernel) (by decide)
            obtain ⟨_, _, _, f13, _⟩ := hd 13 (by decide)
            replace f13 : x 13 = undef := f13
            rw [f13] at e27
            have e34 : A.tmps[34]? = some (x 20) := by rw [← hA]; exact putsA_in (i := 20) 34 (by rfl) (by show (34 : Nat) < 40; decide) _ (by decide +kernel) (by decide)
            obtain ⟨_, _, _, f20, _⟩ := hd 20 (by decide)
            replace f20 : x 20 = undef := f20
            rw [f20] at e34
            clear hA hd
            obtain ⟨c0, c1, c2, c3⟩ := cell4 (hs.1 _ (.head _))
            refine wpOp_step rfl (fun K' hK' => ?_)
            go_simp
            exact hK' _ _ (hK _ _ ⟨0, 0, 0, rfl, al0⟩ (Below.refl _ _) no_al)
          · generalize hA : putsA _ _ x (0 :: 1 :: 2 :: 3 :: 4 :: 5 :: 6 :: 7 :: 8 :: 9 :: 10 :: 11 :: 12 :: 13 :: 14 :: 15 :: 16 :: 17 :: 18 :: 19 :: 20 :: 21 :: 22 :: 23 :: 24 :: []) = A at *
            have e27 : A.tmps[27]? = some (x 13) := by rw [← hA]; exact putsA_in (i := 13) 27 (by rfl) (by show (27 : Nat) < 40; decide) _ (by decide +kernel) (by decide)
            obtain ⟨_, _, _, f13, _⟩ := hd 13 (by decide)
            replace f13 : x 13 = undef := f13
            rw [f13] at e27
            have e33 : A.tmps[33]? = some (x 19) := by rw [← hA]; exact putsA_in (i := 19) 33 (by rfl) (by show (33 : Nat) < 40; decide) _ (by decide +kernel) (by decide)
            obtain ⟨_, _, _, f19, _⟩ := hd 19 (by decide)
            replace f19 : x 19 = undef := f19
            rw [f19] at e33
            have e35 : A.tmps[35]? = some (x 21) := by rw [← hA]; exact putsA_in (i := 21) 35 (by rfl) (by show (35 : Nat) < 40; decide) _ (by decide +kernel) (by decide)
            obtain ⟨_, _, _, f21, _⟩ := hd 21 (by decide)
            replace f21 : x 21 = undef := f21
            rw [f21] at e35
            clear hA hd
            refine wpOp_step rfl (fun K' hK' => ?_)
            go_simp
            exact hK' _ _ (hK _ _ ⟨0, 0, 0, rfl, al0⟩ (Below.refl _ _) no_al)
          · generalize hA : putsA _ _ x (0 :: 1 :: 2 :: 3 :: 4 :: 5 :: 6 :: 7 :: 8 :: 9 :: 10 :: 11 :: 12 :: 13 :: 14 :: 15 :: 16 :: 17 :: 18 :: 19 :: 20 :: 21 :: 22 :: 23 :: 24 :: []) = A at *
            have e24 : A.tmps[24]? = some (x 10) := by rw [← hA]; exact putsA_in (i := 10) 24 (by rfl) (by show (24 : Nat) < 40; decide) _ (by decide +kernel) (by decide)
            obtain ⟨_, _, _, f10, _⟩ := hd 10 (by decide)
            replace f10 : x 10 = .bool true := f10
            rw [f10] at e24
            have e27 : A.tmps[27]? = some (x 13) := by rw [← hA]; exact putsA_in (i := 13) 27 (by rfl) (by show (27 : Nat) < 40; decide) _ (by decide +kernel) (by decide)
            obtain ⟨_, _, _, f13, _⟩ := hd 13 (by decide)
            replace f13 : x 13 = undef := f13
            rw [f13] at e27
            have e36 : A.tmps[36]? = some (x 22) := by rw [← hA]; exact putsA_in (i := 22) 36 (by rfl) (by show (36 : Nat) < 40; decide) _ (by decide +kernel) (by decide)
            obtain ⟨_, _, _, f22, _⟩ := hd 22 (by decide)
            replace f22 : x 22 = undef := f22
            rw [f22] at e36
            clear hA hd
            refine wpOp_step rfl (fun K' hK' => ?_)
            go_simp
            exact hK' _ _ (hK _ _ ⟨0, 0, 0, rfl, al0⟩ (Below.refl _ _) no_al)
          · generalize hA : putsA _ _ x (0 :: 1 :: 2 :: 3 :: 4 :: 5 :: 6 :: 7 :: 8 :: 9 :: 10 :: 11 :: 12 :: 13 :: 14 :: 15 :: 16 :: 17 :: 18 :: 19 :: 20 :: 21 :: 22 :: 23 :: 24 :: []) = A at *
            have e24 : A.tmps[24]? = some (x 10) := by rw [← hA]; exact putsA_in (i := 10) 24 (by rfl) (by show (24 : Nat) < 40; decide) _ (by decide +kernel) (by decide)
            obtain ⟨_, _, _, f10, _⟩ := hd 10 (by decide)
            replace f10 : x 10 = .bool true := f10
            rw [f10] at e24
            have e37 : A.tmps[37]? = some (x 23) := by rw [← hA]; exact putsA_in (i := 23) 37 (by rfl) (by show (37 : Nat) < 40; decide) _ (by decide +kernel) (by decide)
            obtain ⟨_, _, _, f23, _⟩ := hd 23 (by decide)
            replace f23 : x 23 = undef := f23
            rw [f23] at e37
            clear hA hd
            refine wpOp_step rfl (fun K' hK' => ?_)
            go_simp
            exact hK' _ _ (hK _ _ ⟨0, 0, 0, rfl, al0⟩ (Below.refl _ _) no_al)
        case hend =>
          intro x W hf hg hb
          have HSE := Lib.hid (bs_below HS.out hb).2.2
          have hl : x 24 = .bool true := by
            obtain ⟨_, _, _, h, _⟩ := hf 24 (by decide)
            exact h
          rw [putsA_lit _ _ (0 :: 1 :: 2 :: 3 :: 4 :: 5 :: 6 :: 7 :: 8 :: 9 :: 10 :: 11 :: 12 :: 13 :: 14 :: 15 :: 16 :: 17 :: 18 :: 19 :: 20 :: 21 :: 22 :: 23 :: 24 :: []) ((14, 0) :: (15, 1) :: (16, 2) :: (17, 3) :: (18, 4) :: (19, 5) :: (20, 6) :: (21, 7) :: (22, 8) :: (23, 9) :: (24, 10) :: (25, 11) :: (26, 12) :: (27, 13) :: (28, 14) :: (29, 15) :: (30, 16) :: (31, 17) :: (32, 18) :: (33, 19) :: (34, 20) :: (35, 21) :: (36, 22) :: (37, 23) :: (38, 24) :: []) (by kernel_rfl)]
          simp only [setAll, ↓reduceIte, Nat.reduceAdd, Nat.reduceEqDiff]
          rw [hl]
          clear hf hl hg hb HS HFC HPP
          refine wpAny_done (by kernel_rfl) ?_ _
          refine NoPanic.normal ?_
          go_wp2
          go_ret
          exact ⟨rbool HR.out.symm, HSE.out⟩

      by_cases hj0 : j = 0
      · have HR : Hid (okL leafB none l = okL leafB (prevK l (j + 1)) (l.drop (j + 1))) := Lib.hid (by rw [HQ.out, HFV.out, HPS.out, decide_eq_true HK.out, show prevK l j = none by rw [hj0]; rfl]; simp)
        clear HQ
        have hjd : decide (0 < j) = false := decide_eq_false (by omega)
        have hjd' : decide ((0 : Int) < (j : Int)) = false := decide_eq_false (by omega)
        obtain ⟨kp, hkp⟩ : ∃ kp : ByteArray, kp = k := ⟨_, rfl⟩
        clear hkp hj0
        refine wp_region_noPanic ?_
        refine wp_region_any (by kernel_rfl) ?_
        refine facts_start (0 :: 1 :: 2 :: 3 :: 4 :: 5 :: 6 :: 7 :: 8 :: 9 :: 10 :: 11 :: 12 :: 13 :: 14 :: 15 :: 16 :: 17 :: 18 :: 19 :: 20 :: 21 :: 22 :: 23 :: 24 :: []) [] D4 (Ft (mkccells_leaf3 wr.heap.size b o n c j k kp z lo p) (fun _ _ _ _ => [])) _ _ _ 0 _ #[true, true, true, true, true, true, true, true, true, true, true, true, true, true, true, true, true, true, true, true, true, true, true, true, true] (by kernel_rfl) (by rfl) ft_step no_al' ?hstep ?hend
        case hstep =>
          intro i hi x W hd hb K hK
          have hs := bs_below HS.out hb
          simp only [List.mem_cons, List.not_mem_nil, or_false] at hi
          rcases hi with rfl | rfl | rfl | rfl | rfl | rfl | rfl | rfl | rfl | rfl | rfl | rfl | rfl | rfl | rfl | rfl | rfl | rfl | rfl | rfl | rfl | rfl | rfl | rfl | rfl
          · generalize hA : putsA _ _ x (0 :: 1 :: 2 :: 3 :: 4 :: 5 :: 6 :: 7 :: 8 :: 9 :: 10 :: 11 :: 12 :: 13 :: 14 :: 15 :: 16 :: 17 :: 18 :: 19 :: 20 :: 21 :: 22 :: 23 :: 24 :: []) = A at *
            have e6 : A.tmps[6]? = some (.pointer (some ⟨wr.heap.size, 0, none⟩)) := by rw [← hA]; exact putsA_at 6 _ (by decide +kernel)
            clear hA hd
            refine wpOp_step rfl (fun K' hK' => ?_)
            go_simp
            exact hK' _ _ (hK _ _ ⟨0, 0, 0, rfl, al0⟩ (Below.refl _ _) no_al)
          · generalize hA : putsA _ _ x (0 :: 1 :: 2 :: 3 :: 4 :: 5 :: 6 :: 7 :: 8 :: 9 :: 10 :: 11 :: 12 :: 13 :: 14 :: 15 :: 16 :: 17 :: 18 :: 19 :: 20 :: 21 :: 22 :: 23 :: 24 :: []) = A at *
            have e14 : A.tmps[14]? = some (x 0) := by rw [← hA]; exact putsA_in (i := 0) 14 (by rfl) (by show (14 : Nat) < 40; decide) _ (by decide +kernel) (by decide)
            obtain ⟨_, _, _, f0, _⟩ := hd 0 (by decide)
            replace f0 : x 0 = .pointer (some ⟨wr.heap.size, 0, none⟩) := f0
            rw [f0] at e14
            clear hA hd
            obtain ⟨c0, c1, c2, c3⟩ := cell4 (hs.1 _ (.head _))
            refine wpOp_step rfl (fun K' hK' => ?_)
            go_simp
            exact hK' _ _ (hK _ _ ⟨0, 0, 0, rfl, al0⟩ (Below.refl _ _) no_al)
          · generalize hA : putsA _ _ x (0 :: 1 :: 2 :: 3 :: 4 :: 5 :: 6 :: 7 :: 8 :: 9 :: 10 :: 11 :: 12 :: 13 :: 14 :: 15 :: 16 :: 17 :: 18 :: 19 :: 20 :: 21 :: 22 :: 23 :: 24 :: []) = A at *
            have e15 : A.tmps[15]? = some (x 1) := by rw [← hA]; exact putsA_in (i := 1) 15 (by rfl) (by show (15 : Nat) < 40; decide) _ (by decide +kernel) (by decide)
            obtain ⟨_, _, _, f1, _⟩ := hd 1 (by decide)
            replace f1 : x 1 = .string k := f1
            rw [f1] at e15
            clear hA hd
            refine wpOp_step rfl (fun K' hK' => ?_)
            go_simp
            exact hK' _ _ (hK _ _ ⟨0, 0, 0, rfl, al0⟩ (Below.refl _ _) no_al)
          · generalize hA : putsA _ _ x (0 :: 1 :: 2 :: 3 :: 4 :: 5 :: 6 :: 7 :: 8 :: 9 :: 10 :: 11 :: 12 :: 13 :: 14 :: 15 :: 16 :: 17 :: 18 :: 19 :: 20 :: 21 :: 22 :: 23 :: 24 :: []) = A at *
            have e16 : A.tmps[16]? = some (x 2) := by rw [← hA]; exact putsA_in (i := 2) 16 (by rfl) (by show (16 : Nat) < 40; decide) _ (by decide +kernel) (by decide)
            obtain ⟨_, _, _, f2, _⟩ := hd 2 (by decide)
            replace f2 : x 2 = .int .i64 (k.size : Int) := f2
            rw [f2] at e16
            clear hA hd
            refine wpOp_step rfl (fun K' hK' => ?_)
            go_simp
            exact hK' _ _ (hK _ _ ⟨0, 0, 0, rfl, al0⟩ (Below.refl _ _) no_al)
          · generalize hA : putsA _ _ x (0 :: 1 :: 2 :: 3 :: 4 :: 5 :: 6 :: 7 :: 8 :: 9 :: 10 :: 11 :: 12 :: 13 :: 14 :: 15 :: 16 :: 17 :: 18 :: 19 :: 20 :: 21 :: 22 :: 23 :: 24 :: []) = A at *
            have e17 : A.tmps[17]? = some (x 3) := by rw [← hA]; exact putsA_in (i := 3) 17 (by rfl) (by show (17 : Nat) < 40; decide) _ (by decide +kernel) (by decide)
            obtain ⟨_, _, _, f3, _⟩ := hd 3 (by decide)
            replace f3 : x 3 = .bool false := f3
            rw [f3] at e17
            clear hA hd
            refine wpOp_step rfl (fun K' hK' => ?_)
            go_simp
            exact hK' _ _ (hK _ _ ⟨0, 0, 0, rfl, al0⟩ (Below.refl _ _) no_al)
          · generalize hA : putsA _ _ x (0 :: 1 :: 2 :: 3 :: 4 :: 5 :: 6 :: 7 :: 8 :: 9 :: 10 :: 11 :: 12 :: 13 :: 14 :: 15 :: 16 :: 17 :: 18 :: 19 :: 20 :: 21 :: 22 :: 23 :: 24 :: []) = A at *
            have e1 : A.tmps[1]? = some (.func (.func 53) #[] #[]) := by rw [← hA]; exact putsA_at 1 _ (by decide +kernel)
            have e18 : A.tmps[18]? = some (x 4) := by rw [← hA]; exact putsA_in (i := 4) 18 (by rfl) (by show (18 : Nat) < 40; decide) _ (by decide +kernel) (by decide)
            obtain ⟨_, _, _, f4, _⟩ := hd 4 (by decide)
            replace f4 : x 4 = .bool false := f4
            rw [f4] at e18
            clear hA hd
            refine wpOp_step rfl (fun K' hK' => ?_)
            go_simp
            exact hK' _ _ (hK _ _ ⟨0, 0, 0, rfl, al0⟩ (Below.refl _ _) no_al)
          · generalize hA : putsA _ _ x (0 :: 1 :: 2 :: 3 :: 4 :: 5 :: 6 :: 7 :: 8 :: 9 :: 10 :: 11 :: 12 :: 13 :: 14 :: 15 :: 16 :: 17 :: 18 :: 19 :: 20 :: 21 :: 22 :: 23 :: 24 :: []) = A at *
            have e6 : A.tmps[6]? = some (.pointer (some ⟨wr.heap.size, 0, none⟩)) := by rw [← hA]; exact putsA_at 6 _ (by decide +kernel)
            have e18 : A.tmps[18]? = some (x 4) := by rw [← hA]; exact putsA_in (i := 4) 18 (by rfl) (by show (18 : Nat) < 40; decide) _ (by decide +kernel) (by decide)
            obtain ⟨_, _, _, f4, _⟩ := hd 4 (by decide)
            replace f4 : x 4 = .bool false := f4
            rw [f4] at e18
            clear hA hd
            obtain ⟨c0, c1, c2, c3⟩ := cell4 (hs.1 _ (.head _))
            refine wpOp_step rfl (fun K' hK' => ?_)
            go_simp
            exact hK' _ _ (hK _ _ ⟨0, 0, 0, rfl, al0⟩ (Below.refl _ _) no_al)
          · generalize hA : putsA _ _ x (0 :: 1 :: 2 :: 3 :: 4 :: 5 :: 6 :: 7 :: 8 :: 9 :: 10 :: 11 :: 12 :: 13 :: 14 :: 15 :: 16 :: 17 :: 18 :: 19 :: 20 :: 21 :: 22 :: 23 :: 24 :: []) = A at *
            have e18 : A.tmps[18]? = some (x 4) := by rw [← hA]; exact putsA_in (i := 4) 18 (by rfl) (by show (18 : Nat) < 40; decide) _ (by decide +kernel) (by decide)
            obtain ⟨_, _, _, f4, _⟩ := hd 4 (by decide)
            replace f4 : x 4 = .bool false := f4
            rw [f4] at e18
            have e19 : A.tmps[19]? = some (x 5) := by rw [← hA]; exact putsA_in (i := 5) 19 (by rfl) (by show (19 : Nat) < 40; decide) _ (by decide +kernel) (by decide)
            obtain ⟨_, _, _, f5, _⟩ := hd 5 (by decide)
            replace f5 : x 5 = .func (.func 53) #[] #[] := f5
            rw [f5] at e19
            have e20 : A.tmps[20]? = some (x 6) := by rw [← hA]; exact putsA_in (i := 6) 20 (by rfl) (by show (20 : Nat) < 40; decide) _ (by decide +kernel) (by decide)
            obtain ⟨_, _, _, f6, _⟩ := hd 6 (by decide)
            replace f6 : x 6 = .agg #[.string k, .int .i64 z, .string lo, .int .i64 p] := f6
            rw [f6] at e20
            clear hA hd
            refine wpOp_step rfl (fun K' hK' => ?_)
            go_simp
            refine (HFC.out W).mono ?_
            rw [HFV]
            rintro e w6 ⟨rfl, hb6⟩
            exact hK' _ _ (hK _ _ ⟨0, 0, 0, rfl, al0⟩ hb6 no_al)
          · generalize hA : putsA _ _ x (0 :: 1 :: 2 :: 3 :: 4 :: 5 :: 6 :: 7 :: 8 :: 9 :: 10 :: 11 :: 12 :: 13 :: 14 :: 15 :: 16 :: 17 :: 18 :: 19 :: 20 :: 21 :: 22 :: 23 :: 24 :: []) = A at *
            have e18 : A.tmps[18]? = some (x 4) := by rw [← hA]; exact putsA_in (i := 4) 18 (by rfl) (by show (18 : Nat) < 40; decide) _ (by decide +kernel) (by decide)
            obtain ⟨_, _, _, f4, _⟩ := hd 4 (by decide)
            replace f4 : x 4 = .bool false := f4
            rw [f4] at e18
            have e21 : A.tmps[21]? = some (x 7) := by rw [← hA]; exact putsA_in (i := 7) 21 (by rfl) (by show (21 : Nat) < 40; decide) _ (by decide +kernel) (by decide)
            obtain ⟨_, _, _, f7, _⟩ := hd 7 (by decide)
            replace f7 : x 7 = .bool true := f7
            rw [f7] at e21
            clear hA hd
            refine wpOp_step rfl (fun K' hK' => ?_)
            go_simp
            exact hK' _ _ (hK _ _ ⟨0, 0, 0, rfl, al0⟩ (Below.refl _ _) no_al)
          · generalize hA : putsA _ _ x (0 :: 1 :: 2 :: 3 :: 4 :: 5 :: 6 :: 7 :: 8 :: 9 :: 10 :: 11 :: 12 :: 13 :: 14 :: 15 :: 16 :: 17 :: 18 :: 19 :: 20 :: 21 :: 22 :: 23 :: 24 :: []) = A at *
            have e18 : A.tmps[18]? = some (x 4) := by rw [← hA]; exact putsA_in (i := 4) 18 (by rfl) (by show (18 : Nat) < 40; decide) _ (by decide +kernel) (by decide)
            obtain ⟨_, _, _, f4, _⟩ := hd 4 (by decide)
            replace f4 : x 4 = .bool false := f4
            rw [f4] at e18
            have e22 : A.tmps[22]? = some (x 8) := by rw [← hA]; exact putsA_in (i := 8) 22 (by rfl) (by show (22 : Nat) < 40; decide) _ (by decide +kernel) (by decide)
            obtain ⟨_, _, _, f8, _⟩ := hd 8 (by decide)
            replace f8 : x 8 = .bool false := f8
            rw [f8] at e22
            clear hA hd
            refine wpOp_step rfl (fun K' hK' => ?_)
            go_simp
            exact hK' _ _ (hK _ _ ⟨0, 0, 0, rfl, al0⟩ (Below.refl _ _) no_al)
          · generalize hA : putsA _ _ x (0 :: 1 :: 2 :: 3 :: 4 :: 5 :: 6 :: 7 :: 8 :: 9 :: 10 :: 11 :: 12 :: 13 :: 14 :: 15 :: 16 :: 17 :: 18 :: 19 :: 20 :: 21 :: 22 :: 23 :: 24 :: []) = A at *
            have e23 : A.tmps[23]? = some (x 9) := by rw [← hA]; exact putsA_in (i := 9) 23 (by rfl) (by show (23 : Nat) < 40; decide) _ (by decide +kernel) (by decide)
            obtain ⟨_, _, _, f9, _⟩ := hd 9 (by decide)
            replace f9 : x 9 = .bool false := f9
            rw [f9] at e23
            clear hA hd
            refine wpOp_step rfl (fun K' hK' => ?_)
            go_simp
            exact hK' _ _ (hK _ _ ⟨0, 0, 0, rfl, al0⟩ (Below.refl _ _) no_al)
          · generalize hA : putsA _ _ x (0 :: 1 :: 2 :: 3 :: 4 :: 5 :: 6 :: 7 :: 8 :: 9 :: 10 :: 11 :: 12 :: 13 :: 14 :: 15 :: 16 :: 17 :: 18 :: 19 :: 20 :: 21 :: 22 :: 23 :: 24 :: []) = A at *
            have e5 : A.tmps[5]? = some (.int .i64 (j : Int)) := by rw [← hA]; exact putsA_at 5 _ (by decide +kernel)
            have e24 : A.tmps[24]? = some (x 10) := by rw [← hA]; exact putsA_in (i := 10) 24 (by rfl) (by show (24 : Nat) < 40; decide) _ (by decide +kernel) (by decide)
            obtain ⟨_, _, _, f10, _⟩ := hd 10 (by decide)
            replace f10 : x 10 = .bool false := f10
            rw [f10] at e24
            clear hA hd
            refine wpOp_step rfl (fun K' hK' => ?_)
            go_simp
            exact hK' _ _ (hK _ _ ⟨0, 0, 0, rfl, al0⟩ (Below.refl _ _) no_al)
          · generalize hA : putsA _ _ x (0 :: 1 :: 2 :: 3 :: 4 :: 5 :: 6 :: 7 :: 8 :: 9 :: 10 :: 11 :: 12 :: 13 :: 14 :: 15 :: 16 :: 17 :: 18 :: 19 :: 20 :: 21 :: 22 :: 23 :: 24 :: []) = A at *
            have e24 : A.tmps[24]? = some (x 10) := by rw [← hA]; exact putsA_in (i := 10) 24 (by rfl) (by show (24 : Nat) < 40; decide) _ (by decide +kernel) (by decide)
            obtain ⟨_, _, _, f10, _⟩ := hd 10 (by decide)
            replace f10 : x 10 = .bool false := f10
            rw [f10] at e24
            have e25 : A.tmps[25]? = some (x 11) := by rw [← hA]; exact putsA_in (i := 11) 25 (by rfl) (by show (25 : Nat) < 40; decide) _ (by decide +kernel) (by decide)
            obtain ⟨_, _, _, f11, _⟩ := hd 11 (by decide)
            replace f11 : x 11 = .int .i64 (j : Int) := f11
            rw [f11] at e25
            clear hA hd
            refine wpOp_step rfl (fun K' hK' => ?_)
            go_simp
            exact hK' _ _ (hK _ _ ⟨0, 0, 0, rfl, al0⟩ (Below.refl _ _) no_al)
          · generalize hA : putsA _ _ x (0 :: 1 :: 2 :: 3 :: 4 :: 5 :: 6 :: 7 :: 8 :: 9 :: 10 :: 11 :: 12 :: 13 :: 14 :: 15 :: 16 :: 17 :: 18 :: 19 :: 20 :: 21 :: 22 :: 23 :: 24 :: []) = A at *
            have e24 : A.tmps[24]? = some (x 10) := by rw [← hA]; exact putsA_in (i := 10) 24 (by rfl) (by show (24 : Nat) < 40; decide) _ (by decide +kernel) (by decide)
            obtain ⟨_, _, _, f10, _⟩ := hd 10 (by decide)
            replace f10 : x 10 = .bool false := f10
            rw [f10] at e24
            have e26 : A.tmps[26]? = some (x 12) := by rw [← hA]; exact putsA_in (i := 12) 26 (by rfl) (by show (26 : Nat) < 40; decide) _ (by decide +kernel) (by decide)
            obtain ⟨_, _, _, f12, _⟩ := hd 12 (by decide)
            replace f12 : x 12 = .bool false := f12
            rw [f12] at e26
            clear hA hd
            refine wpOp_step rfl (fun K' hK' => ?_)
            go_simp
            exact hK' _ _ (hK _ _ ⟨0, 0, 0, rfl, al0⟩ (Below.refl _ _) no_al)
          · generalize hA : putsA _ _ x (0 :: 1 :: 2 :: 3 :: 4 :: 5 :: 6 :: 7 :: 8 :: 9 :: 10 :: 11 :: 12 :: 13 :: 14 :: 15 :: 16 :: 17 :: 18 :: 19 :: 20 :: 21 :: 22 :: 23 :: 24 :: []) = A at *
            have e0 : A.tmps[0]? = some (.slice (some ⟨b, o, none⟩) n c) := by rw [← hA]; exact putsA_at 0 _ (by decide +kernel)
            have e27 : A.tmps[27]? = some (x 13) := by rw [← hA]; exact putsA_in (i := 13) 27 (by rfl) (by show (27 : Nat) < 40; decide) _ (by decide +kernel) (by decide)
            obtain ⟨_, _, _, f13, _⟩ := hd 13 (by decide)
            replace f13 : x 13 = .bool false := f13
            rw [f13] at e27
            clear hA hd
            refine wpOp_step rfl (fun K' hK' => ?_)
            go_simp
            exact hK' _ _ (hK _ _ ⟨0, 0, 0, rfl, al0⟩ (Below.refl _ _) no_al)
          · generalize hA : putsA _ _ x (0 :: 1 :: 2 :: 3 :: 4 :: 5 :: 6 :: 7 :: 8 :: 9 :: 10 :: 11 :: 12 :: 13 :: 14 :: 15 :: 16 :: 17 :: 18 :: 19 :: 20 :: 21 :: 22 :: 23 :: 24 :: []) = A at *
            have e5 : A.tmps[5]? = some (.int .i64 (j : Int)) := by rw [← hA]; exact putsA_at 5 _ (by decide +kernel)
            have e27 : A.tmps[27]? = some (x 13) := by rw [← hA]; exact putsA_in (i := 13) 27 (by rfl) (by show (27 : Nat) < 40; decide) _ (by decide +kernel) (by decide)
            obtain ⟨_, _, _, f13, _⟩ := hd 13 (by decide)
            replace f13 : x 13 = .bool false := f13
            rw [f13] at e27
            clear hA hd
            refine wpOp_step rfl (fun K' hK' => ?_)
            go_simp
            exact hK' _ _ (hK _ _ ⟨0, 0, 0, rfl, al0⟩ (Below.refl _ _) no_al)
          · generalize hA : putsA _ _ x (0 :: 1 :: 2 :: 3 :: 4 :: 5 :: 6 :: 7 :: 8 :: 9 :: 10 :: 11 :: 12 :: 13 :: 14 :: 15 :: 16 :: 17 :: 18 :: 19 :: 20 :: 21 :: 22 :: 23 :: 24 :: []) = A at *
            have e27 : A.tmps[27]? = some (x 13) := by rw [← hA]; exact putsA_in (i := 13) 27 (by rfl) (by show (27 : Nat) < 40; decide) _ (by decide +kernel) (by decide)
            obtain ⟨_, _, _, f13, _⟩ := hd 13 (by decide)
            replace f13 : x 13 = .bool false := f13
            rw [f13] at e27
            have e29 : A.tmps[29]? = some (x 15) := by rw [← hA]; exact putsA_in (i := 15) 29 (by rfl) (by show (29 : Nat) < 40; decide) _ (by decide +kernel) (by decide)
            obtain ⟨_, _, _, f15, _⟩ := hd 15 (by decide)
            replace f15 : x 15 = undef := f15
            rw [f15] at e29
            clear hA hd
            refine wpOp_step rfl (fun K' hK' => ?_)
            go_simp
            exact hK' _ _ (hK _ _ ⟨0, 0, 0, rfl, al0⟩ (Below.refl _ _) no_al)
          · generalize hA : putsA _ _ x (0 :: 1 :: 2 :: 3 :: 4 :: 5 :: 6 :: 7 :: 8 :: 9 :: 10 :: 11 :: 12 :: 13 :: 14 :: 15 :: 16 :: 17 :: 18 :: 19 :: 20 :: 21 :: 22 :: 23 :: 24 :: []) = A at *
            have e27 : A.tmps[27]? = some (x 13) := by rw [← hA]; exact putsA_in (i := 13) 27 (by rfl) (by show (27 : Nat) < 40; decide) _ (by decide +kernel) (by decide)
            obtain ⟨_, _, _, f13, _⟩ := hd 13 (by decide)
            replace f13 : x 13 = .bool false := f13
            rw [f13] at e27
            have e28 : A.tmps[28]? = some (x 14) := by rw [← hA]; exact putsA_in (i := 14) 28 (by rfl) (by show (28 : Nat) < 40; decide) _ (by decide +kernel) (by decide)
            obtain ⟨_, _, _, f14, _⟩ := hd 14 (by decide)
            replace f14 : x 14 = undef := f14
            rw [f14] at e28
            have e30 : A.tmps[30]? = some (x 16) := by rw [← hA]; exact putsA_in (i := 16) 30 (by rfl) (by show (30 : Nat) < 40; decide) _ (by decide +kernel) (by decide)
            obtain ⟨_, _, _, f16, _⟩ := hd 16 (by decide)
            replace f16 : x 16 = undef := f16
            rw [f16] at e30
            clear hA hd
            refine wpOp_step rfl (fun K' hK' => ?_)
            go_simp
            exact hK' _ _ (hK _ _ ⟨0, 0, 0, rfl, al0⟩ (Below.refl _ _) no_al)
          · generalize hA : putsA _ _ x (0 :: 1 :: 2 :: 3 :: 4 :: 5 :: 6 :: 7 :: 8 :: 9 :: 10 :: 11 :: 12 :: 13 :: 14 :: 15 :: 16 :: 17 :: 18 :: 19 :: 20 :: 21 :: 22 :: 23 :: 24 :: []) = A at *
            have e27 : A.tmps[27]? = some (x 13) := by rw [← hA]; exact putsA_in (i := 13) 27 (by rfl) (by show (27 : Nat) < 40; decide) _ (by decide +kernel) (by decide)
            obtain ⟨_, _, _, f13, _⟩ := hd 13 (by decide)
            replace f13 : x 13 = .bool false := f13
            rw [f13] at e27
            have e31 : A.tmps[31]? = some (x 17) := by rw [← hA]; exact putsA_in (i := 17) 31 (by rfl) (by show (31 : Nat) < 40; decide) _ (by decide +kernel) (by decide)
            obtain ⟨_, _, _, f17, _⟩ := hd 17 (by decide)
            replace f17 : x 17 = undef := f17
            rw [f17] at e31
            clear hA hd
            refine wpOp_step rfl (fun K' hK' => ?_)
            go_simp
            exact hK' _ _ (hK _ _ ⟨0, 0, 0, rfl, al0⟩ (Below.refl _ _) no_al)
          · generalize hA : putsA _ _ x (0 :: 1 :: 2 :: 3 :: 4 :: 5 :: 6 :: 7 :: 8 :: 9 :: 10 :: 11 :: 12 :: 13 :: 14 :: 15 :: 16 :: 17 :: 18 :: 19 :: 20 :: 21 :: 22 :: 23 :: 24 :: []) = A at *
            have e27 : A.tmps[27]? = some (x 13) := by rw [← hA]; exact putsA_in (i := 13) 27 (by rfl) (by show (27 : Nat) < 40; decide) _ (by decide +kernel) (by decide)
            obtain ⟨_, _, _, f13, _⟩ := hd 13 (by decide)
            replace f13 : x 13 = .bool false := f13
            rw [f13] at e27
            have e32 : A.tmps[32]? = some (x 18) := by rw [← hA]; exact putsA_in (i := 18) 32 (by rfl) (by show (32 : Nat) < 40; decide) _ (by decide +kernel) (by decide)
            obtain ⟨_, _, _, f18, _⟩ := hd 18 (by decide)
            replace f18 : x 18 = undef := f18
            rw [f18] at e32
            clear hA hd
            refine wpOp_step rfl (fun K' hK' => ?_)
            go_simp
            exact hK' _ _ (hK _ _ ⟨0, 0, 0, rfl, al0⟩ (Below.refl _ _) no_al)
          · generalize hA : putsA _ _ x (0 :: 1 :: 2 :: 3 :: 4 :: 5 :: 6 :: 7 :: 8 :: 9 :: 10 :: 11 :: 12 :: 13 :: 14 :: 15 :: 16 :: 17 :: 18 :: 19 :: 20 :: 21 :: 22 :: 23 :: 24 :: []) = A at *
            have e6 : A.tmps[6]? = some (.pointer (some ⟨wr.heap.size, 0, none⟩)) := by rw [← hA]; exact putsA_at 6 _ (by decide +kernel)
            have e27 : A.tmps[27]? = some (x 13) := by rw [← hA]; exact putsA_in (i := 13) 27 (by rfl) (by show (27 : Nat) < 40; decide) _ (by decide +kernel) (by decide)
            obtain ⟨_, _, _, f13, _⟩ := hd 13 (by decide)
            replace f13 : x 13 = .bool false := f13
            rw [f13] at e27
            clear hA hd
            refine wpOp_step rfl (fun K' hK' => ?_)
            go_simp
            exact hK' _ _ (hK _ _ ⟨0, 0, 0, rfl, al0⟩ (Below.refl _ _) no_al)
          · generalize hA : putsA _ _ x (0 :: 1 :: 2 :: 3 :: 4 :: 5 :: 6 :: 7 :: 8 :: 9 :: 10 :: 11 :: 12 :: 13 :: 14 :: 15 :: 16 :: 17 :: 18 :: 19 :: 20 :: 21 :: 22 :: 23 :: 24 :: []) = A at *
            have e27 : A.tmps[27]? = some (x 13) := by rw [← hA]; exact putsA_in (i := 13) 27 (by rfl) (by show (27 : Nat) < 40; decide) _ (by decide +kernel) (by decide)
            obtain ⟨_, _, _, f13, _⟩ := hd 13 (by decide)
            replace f13 : x 13 = .bool false := f13
            rw [f13] at e27
            have e34 : A.tmps[34]? = some (x 20) := by rw [← hA]; exact putsA_in (i := 20) 34 (by rfl) (by show (34 : Nat) < 40; decide) _ (by decide +kernel) (by decide)
            obtain ⟨_, _, _, f20, _⟩ := hd 20 (by decide)
            replace f20 : x 20 = undef := f20
            rw [f20] at e34
            clear hA hd
            obtain ⟨c0, c1, c2, c3⟩ := cell4 (hs.1 _ (.head _))
            refine wpOp_step rfl (fun K' hK' => ?_)
            go_simp
            exact hK' _ _ (hK _ _ ⟨0, 0, 0, rfl, al0⟩ (Below.refl _ _) no_al)
          · generalize hA : putsA _ _ x (0 :: 1 :: 2 :: 3 :: 4 :: 5 :: 6 :: 7 :: 8 :: 9 :: 10 :: 11 :: 12 :: 13 :: 14 :: 15 :: 16 :: 17 :: 18 :: 19 :: 20 :: 21 :: 22 :: 23 :: 24 :: []) = A at *
            have e27 : A.tmps[27]? = some (x 13) := by rw [← hA]; exact putsA_in (i := 13) 27 (by rfl) (by show (27 : Nat) < 40; decide) _ (by decide +kernel) (by decide)
            obtain ⟨_, _, _, f13, _⟩ := hd 13 (by decide)
            replace f13 : x 13 = .bool false := f13
            rw [f13] at e27
            have e33 : A.tmps[33]? = some (x 19) := by rw [← hA]; exact putsA_in (i := 19) 33 (by rfl) (by show (33 : Nat) < 40; decide) _ (by decide +kernel) (by decide)
            obtain ⟨_, _, _, f19, _⟩ := hd 19 (by decide)
            replace f19 : x 19 = undef := f19
            rw [f19] at e33
            have e35 : A.tmps[35]? = some (x 21) := by rw [← hA]; exact putsA_in (i := 21) 35 (by rfl) (by show (35 : Nat) < 40; decide) _ (by decide +kernel) (by decide)
            obtain ⟨_, _, _, f21, _⟩ := hd 21 (by decide)
            replace f21 : x 21 = undef := f21
            rw [f21] at e35
            clear hA hd
            refine wpOp_step rfl (fun K' hK' => ?_)
            go_simp
            exact hK' _ _ (hK _ _ ⟨0, 0, 0, rfl, al0⟩ (Below.refl _ _) no_al)
          · generalize hA : putsA _ _ x (0 :: 1 :: 2 :: 3 :: 4 :: 5 :: 6 :: 7 :: 8 :: 9 :: 10 :: 11 :: 12 :: 13 :: 14 :: 15 :: 16 :: 17 :: 18 :: 19 :: 20 :: 21 :: 22 :: 23 :: 24 :: []) = A at *
            have e24 : A.tmps[24]? = some (x 10) := by rw [← hA]; exact putsA_in (i := 10) 24 (by rfl) (by show (24 : Nat) < 40; decide) _ (by decide +kernel) (by decide)
            obtain ⟨_, _, _, f10, _⟩ := hd 10 (by decide)
            replace f10 : x 10 = .bool false := f10
            rw [f10] at e24
            have e27 : A.tmps[27]? = some (x 13) := by rw [← hA]; exact putsA_in (i := 13) 27 (by rfl) (by show (27 : Nat) < 40; decide) _ (by decide +kernel) (by decide)
            obtain ⟨_, _, _, f13, _⟩ := hd 13 (by decide)
            replace f13 : x 13 = .bool false := f13
            rw [f13] at e27
            have e36 : A.tmps[36]? = some (x 22) := by rw [← hA]; exact putsA_in (i := 22) 36 (by rfl) (by show (36 : Nat) < 40; decide) _ (by decide +kernel) (by decide)
            obtain ⟨_, _, _, f22, _⟩ := hd 22 (by decide)
            replace f22 : x 22 = undef := f22
            rw [f22] at e36
            clear hA hd
            refine wpOp_step rfl (fun K' hK' => ?_)
            go_simp
            exact hK' _ _ (hK _ _ ⟨0, 0, 0, rfl, al0⟩ (Below.refl _ _) no_al)
          · generalize hA : putsA _ _ x (0 :: 1 :: 2 :: 3 :: 4 :: 5 :: 6 :: 7 :: 8 :: 9 :: 10 :: 11 :: 12 :: 13 :: 14 :: 15 :: 16 :: 17 :: 18 :: 19 :: 20 :: 21 :: 22 :: 23 :: 24 :: []) = A at *
            have e24 : A.tmps[24]? = some (x 10) := by rw [← hA]; exact putsA_in (i := 10) 24 (by rfl) (by show (24 : Nat) < 40; decide) _ (by decide +kernel) (by decide)
            obtain ⟨_, _, _, f10, _⟩ := hd 10 (by decide)
            replace f10 : x 10 = .bool false := f10
            rw [f10] at e24
            have e37 : A.tmps[37]? = some (x 23) := by rw [← hA]; exact putsA_in (i := 23) 37 (by rfl) (by show (37 : Nat) < 40; decide) _ (by decide +kernel) (by decide)
            obtain ⟨_, _, _, f23, _⟩ := hd 23 (by decide)
            replace f23 : x 23 = .bool false := f23
            rw [f23] at e37
            clear hA hd
            refine wpOp_step rfl (fun K' hK' => ?_)
            go_simp
            exact hK' _ _ (hK _ _ ⟨0, 0, 0, rfl, al0⟩ (Below.refl _ _) no_al)
        case hend =>
          intro x W hf hg hb
          have HSE := Lib.hid (bs_below HS.out hb).2.2
          have hl : x 24 = .bool false := by
            obtain ⟨_, _, _, h, _⟩ := hf 24 (by decide)
            exact h
          rw [putsA_lit _ _ (0 :: 1 :: 2 :: 3 :: 4 :: 5 :: 6 :: 7 :: 8 :: 9 :: 10 :: 11 :: 12 :: 13 :: 14 :: 15 :: 16 :: 17 :: 18 :: 19 :: 20 :: 21 :: 22 :: 23 :: 24 :: []) ((14, 0) :: (15, 1) :: (16, 2) :: (17, 3) :: (18, 4) :: (19, 5) :: (20, 6) :: (21, 7) :: (22, 8) :: (23, 9) :: (24, 10) :: (25, 11) :: (26, 12) :: (27, 13) :: (28, 14) :: (29, 15) :: (30, 16) :: (31, 17) :: (32, 18) :: (33, 19) :: (34, 20) :: (35, 21) :: (36, 22) :: (37, 23) :: (38, 24) :: []) (by kernel_rfl)]
          simp only [setAll, ↓reduceIte, Nat.reduceAdd, Nat.reduceEqDiff]
          rw [hl]
          clear hf hl hg hb HS HFC HPP
          refine wpAny_done (by kernel_rfl) ?_ _
          refine NoPanic.normal ?_
          go_wp2
          go_roundw
          case rel => exact ⟨j + 1, by omega, by go_num, HR.out, HSE.out⟩
          case measure => simp [intOf]; omega

      obtain ⟨⟨kp, zp, lop, pp⟩, hpk, hcp⟩ := HPP.out (j - 1) (by omega)
      simp only at hpk
      have HCP := Lib.hid hcp
      have HPK := Lib.hid hpk
      have hjd : decide (0 < j) = true := decide_eq_true (by omega)
      have hjd' : decide ((0 : Int) < (j : Int)) = true := decide_eq_true (by omega)
      have hj1 : IntKind.i64.wrap ((j : Int) - 1) = (j : Int) - 1 := by rw [IntKind.wrap_i64]; omega
      have hj2 : (0 : Int) ≤ (j : Int) - 1 := by omega
      have hj5 : (1 : Int) ≤ (j : Int) := by omega
      have hj3 : (j : Int) - 1 < n := by omega
      have hj4 : ((j : Int) - 1).toNat = j - 1 := by omega
      clear hpk hcp hj0
      refine wp_region_noPanic ?_
      refine wp_region_any (by kernel_rfl) ?_
      refine facts_start (0 :: 1 :: 2 :: 3 :: 4 :: 5 :: 6 :: 7 :: 8 :: 9 :: 10 :: 11 :: 12 :: 13 :: 14 :: 15 :: 16 :: 17 :: 18 :: 19 :: 20 :: 21 :: 22 :: 23 :: 24 :: []) [] D4 (Ft (mkccells_leaf4 wr.heap.size b o n c j k kp z lo p) (fun _ _ _ _ => [])) _ _ _ 0 _ #[true, true, true, true, true, true, true, true, true, true, true, true, true, true, true, true, true, true, true, true, true, true, true, true, true] (by kernel_rfl) (by rfl) ft_step no_al' ?hstep ?hend
      case hstep =>
        intro i hi x W hd hb K hK
        have hs := bs_below HS.out hb
        simp only [List.mem_cons, List.not_mem_nil, or_false] at hi
        rcases hi with rfl | rfl | rfl | rfl | rfl | rfl | rfl | rfl | rfl | rfl | rfl | rfl | rfl | rfl | rfl | rfl | rfl | rfl | rfl | rfl | rfl | rfl | rfl | rfl | rfl
        · generalize hA : putsA _ _ x (0 :: 1 :: 2 :: 3 :: 4 :: 5 :: 6 :: 7 :: 8 :: 9 :: 10 :: 11 :: 12 :: 13 :: 14 :: 15 :: 16 :: 17 :: 18 :: 19 :: 20 :: 21 :: 22 :: 23 :: 24 :: []) = A at *
          have e6 : A.tmps[6]? = some (.pointer (some ⟨wr.heap.size, 0, none⟩)) := by rw [← hA]; exact putsA_at 6 _ (by decide +kernel)
          clear hA hd
          refine wpOp_step rfl (fun K' hK' => ?_)
          go_simp
          exact hK' _ _ (hK _ _ ⟨0, 0, 0, rfl, al0⟩ (Below.refl _ _) no_al)
        · generalize hA : putsA _ _ x (0 :: 1 :: 2 :: 3 :: 4 :: 5 :: 6 :: 7 :: 8 :: 9 :: 10 :: 11 :: 12 :: 13 :: 14 :: 15 :: 16 :: 17 :: 18 :: 19 :: 20 :: 21 :: 22 :: 23 :: 24 :: []) = A at *
          have e14 : A.tmps[14]? = some (x 0) := by rw [← hA]; exact putsA_in (i := 0) 14 (by rfl) (by show (14 : Nat) < 40; decide) _ (by decide +kernel) (by decide)
          obtain ⟨_, _, _, f0, _⟩ := hd 0 (by decide)
          replace f0 : x 0 = .pointer (some ⟨wr.heap.size, 0, none⟩) := f0
          rw [f0] at e14
          clear hA hd
          obtain ⟨c0, c1, c2, c3⟩ := cell4 (hs.1 _ (.head _))
          refine wpOp_step rfl (fun K' hK' => ?_)
          go_simp
          exact hK' _ _ (hK _ _ ⟨0, 0, 0, rfl, al0⟩ (Below.refl _ _) no_al)
        · generalize hA : putsA _ _ x (0 :: 1 :: 2 :: 3 :: 4 :: 5 :: 6 :: 7 :: 8 :: 9 :: 10 :: 11 :: 12 :: 13 :: 14 :: 15 :: 16 :: 17 :: 18 :: 19 :: 20 :: 21 :: 22 :: 23 :: 24 :: []) = A at *
          have e15 : A.tmps[15]? = some (x 1) := by rw [← hA]; exact putsA_in (i := 1) 15 (by rfl) (by show (15 : Nat) < 40; decide) _ (by decide +kernel) (by decide)
          obtain ⟨_, _, _, f1, _⟩ := hd 1 (by decide)
          replace f1 : x 1 = .string k := f1
          rw [f1] at e15
          clear hA hd
          refine wpOp_step rfl (fun K' hK' => ?_)
          go_simp
          exact hK' _ _ (hK _ _ ⟨0, 0, 0, rfl, al0⟩ (Below.refl _ _) no_al)
        · generalize hA : putsA _ _ x (0 :: 1 :: 2 :: 3 :: 4 :: 5 :: 6 :: 7 :: 8 :: 9 :: 10 :: 11 :: 12 :: 13 :: 14 :: 15 :: 16 :: 17 :: 18 :: 19 :: 20 :: 21 :: 22 :: 23 :: 24 :: []) = A at *
          have e16 : A.tmps[16]? = some (x 2) := by rw [← hA]; exact putsA_in (i := 2) 16 (by rfl) (by show (16 : Nat) < 40; decide) _ (by decide +kernel) (by decide)
          obtain ⟨_, _, _, f2, _⟩ := hd 2 (by decide)
          replace f2 : x 2 = .int .i64 (k.size : Int) := f2
          rw [f2] at e16
          clear hA hd
          refine wpOp_step rfl (fun K' hK' => ?_)
          go_simp
          exact hK' _ _ (hK _ _ ⟨0, 0, 0, rfl, al0⟩ (Below.refl _ _) no_al)
        · generalize hA : putsA _ _ x (0 :: 1 :: 2 :: 3 :: 4 :: 5 :: 6 :: 7 :: 8 :: 9 :: 10 :: 11 :: 12 :: 13 :: 14 :: 15 :: 16 :: 17 :: 18 :: 19 :: 20 :: 21 :: 22 :: 23 :: 24 :: []) = A at *
          have e17 : A.tmps[17]? = some (x 3) := by rw [← hA]; exact putsA_in (i := 3) 17 (by rfl) (by show (17 : Nat) < 40; decide) _ (by decide +kernel) (by decide)
          obtain ⟨_, _, _, f3, _⟩ := hd 3 (by decide)
          replace f3 : x 3 = .bool false := f3
          rw [f3] at e17
          clear hA hd
          refine wpOp_step rfl (fun K' hK' => ?_)
          go_simp
          exact hK' _ _ (hK _ _ ⟨0, 0, 0, rfl, al0⟩ (Below.refl _ _) no_al)
        · generalize hA : putsA _ _ x (0 :: 1 :: 2 :: 3 :: 4 :: 5 :: 6 :: 7 :: 8 :: 9 :: 10 :: 11 :: 12 :: 13 :: 14 :: 15 :: 16 :: 17 :: 18 :: 19 :: 20 :: 21 :: 22 :: 23 :: 24 :: []) = A at *
          have e1 : A.tmps[1]? = some (.func (.func 53) #[] #[]) := by rw [← hA]; exact putsA_at 1 _ (by decide +kernel)
          have e18 : A.tmps[18]? = some (x 4) := by rw [← hA]; exact putsA_in (i := 4) 18 (by rfl) (by show (18 : Nat) < 40; decide) _ (by decide +kernel) (by decide)
          obtain ⟨_, _, _, f4, _⟩ := hd 4 (by decide)
          replace f4 : x 4 = .bool false := f4
          rw [f4] at e18
          clear hA hd
          refine wpOp_step rfl (fun K' hK' => ?_)
          go_simp
          exact hK' _ _ (hK _ _ ⟨0, 0, 0, rfl, al0⟩ (Below.refl _ _) no_al)
        · generalize hA : putsA _ _ x (0 :: 1 :: 2 :: 3 :: 4 :: 5 :: 6 :: 7 :: 8 :: 9 :: 10 :: 11 :: 12 :: 13 :: 14 :: 15 :: 16 :: 17 :: 18 :: 19 :: 20 :: 21 :: 22 :: 23 :: 24 :: []) = A at *
          have e6 : A.tmps[6]? = some (.pointer (some ⟨wr.heap.size, 0, none⟩)) := by rw [← hA]; exact putsA_at 6 _ (by decide +kernel)
          have e18 : A.tmps[18]? = some (x 4) := by rw [← hA]; exact putsA_in (i := 4) 18 (by rfl) (by show (18 : Nat) < 40; decide) _ (by decide +kernel) (by decide)
          obtain ⟨_, _, _, f4, _⟩ := hd 4 (by decide)
          replace f4 : x 4 = .bool false := f4
          rw [f4] at e18
          clear hA hd
          obtain ⟨c0, c1, c2, c3⟩ := cell4 (hs.1 _ (.head _))
          refine wpOp_step rfl (fun K' hK' => ?_)
          go_simp
          exact hK' _ _ (hK _ _ ⟨0, 0, 0, rfl, al0⟩ (Below.refl _ _) no_al)
        · generalize hA : putsA _ _ x (0 :: 1 :: 2 :: 3 :: 4 :: 5 :: 6 :: 7 :: 8 :: 9 :: 10 :: 11 :: 12 :: 13 :: 14 :: 15 :: 16 :: 17 :: 18 :: 19 :: 20 :: 21 :: 22 :: 23 :: 24 :: []) = A at *
          have e18 : A.tmps[18]? = some (x 4) := by rw [← hA]; exact putsA_in (i := 4) 18 (by rfl) (by show (18 : Nat) < 40; decide) _ (by decide +kernel) (by decide)
          obtain ⟨_, _, _, f4, _⟩ := hd 4 (by decide)
          replace f4 : x 4 = .bool false := f4
          rw [f4] at e18
          have e19 : A.tmps[19]? = some (x 5) := by rw [← hA]; exact putsA_in (i := 5) 19 (by rfl) (by show (19 : Nat) < 40; decide) _ (by decide +kernel) (by decide)
          obtain ⟨_, _, _, f5, _⟩ := hd 5 (by decide)
          replace f5 : x 5 = .func (.func 53) #[] #[] := f5
          rw [f5] at e19
          have e20 : A.tmps[20]? = some (x 6) := by rw [← hA]; exact putsA_in (i := 6) 20 (by rfl) (by show (20 : Nat) < 40; decide) _ (by decide +kernel) (by decide)
          obtain ⟨_, _, _, f6, _⟩ := hd 6 (by decide)
          replace f6 : x 6 = .agg #[.string k, .int .i64 z, .string lo, .int .i64 p] := f6
          rw [f6] at e20
          clear hA hd
          refine wpOp_step rfl (fun K' hK' => ?_)
          go_simp
          refine (HFC.out W).mono ?_
          rw [HFV]
          rintro e w6 ⟨rfl, hb6⟩
          exact hK' _ _ (hK _ _ ⟨0, 0, 0, rfl, al0⟩ hb6 no_al)
        · generalize hA : putsA _ _ x (0 :: 1 :: 2 :: 3 :: 4 :: 5 :: 6 :: 7 :: 8 :: 9 :: 10 :: 11 :: 12 :: 13 :: 14 :: 15 :: 16 :: 17 :: 18 :: 19 :: 20 :: 21 :: 22 :: 23 :: 24 :: []) = A at *
          have e18 : A.tmps[18]? = some (x 4) := by rw [← hA]; exact putsA_in (i := 4) 18 (by rfl) (by show (18 : Nat) < 40; decide) _ (by decide +kernel) (by decide)
          obtain ⟨_, _, _, f4, _⟩ := hd 4 (by decide)
          replace f4 : x 4 = .bool false := f4
          rw [f4] at e18
          have e21 : A.tmps[21]? = some (x 7) := by rw [← hA]; exact putsA_in (i := 7) 21 (by rfl) (by show (21 : Nat) < 40; decide) _ (by decide +kernel) (by decide)
          obtain ⟨_, _, _, f7, _⟩ := hd 7 (by decide)
          replace f7 : x 7 = .bool true := f7
          rw [f7] at e21
          clear hA hd
          refine wpOp_step rfl (fun K' hK' => ?_)
          go_simp
          exact hK' _ _ (hK _ _ ⟨0, 0, 0, rfl, al0⟩ (Below.refl _ _) no_al)
        · generalize hA : putsA _ _ x (0 :: 1 :: 2 :: 3 :: 4 :: 5 :: 6 :: 7 :: 8 :: 9 :: 10 :: 11 :: 12 :: 13 :: 14 :: 15 :: 16 :: 17 :: 18 :: 19 :: 20 :: 21 :: 22 :: 23 :: 24 :: []) = A at *
          have e18 : A.tmps[18]? = some (x 4) := by rw [← hA]; exact putsA_in (i := 4) 18 (by rfl) (by show (18 : Nat) < 40; decide) _ (by decide +kernel) (by decide)
          obtain ⟨_, _, _, f4, _⟩ := hd 4 (by decide)
          replace f4 : x 4 = .bool false := f4
          rw [f4] at e18
          have e22 : A.tmps[22]? = some (x 8) := by rw [← hA]; exact putsA_in (i := 8) 22 (by rfl) (by show (22 : Nat) < 40; decide) _ (by decide +kernel) (by decide)
          obtain ⟨_, _, _, f8, _⟩ := hd 8 (by decide)
          replace f8 : x 8 = .bool false := f8
          rw [f8] at e22
          clear hA hd
          refine wpOp_step rfl (fun K' hK' => ?_)
          go_simp
          exact hK' _ _ (hK _ _ ⟨0, 0, 0, rfl, al0⟩ (Below.refl _ _) no_al)
        · generalize hA : putsA _ _ x (0 :: 1 :: 2 :: 3 :: 4 :: 5 :: 6 :: 7 :: 8 :: 9 :: 10 :: 11 :: 12 :: 13 :: 14 :: 15 :: 16 :: 17 :: 18 :: 19 :: 20 :: 21 :: 22 :: 23 :: 24 :: []) = A at *
          have e23 : A.tmps[23]? = some (x 9) := by rw [← hA]; exact putsA_in (i := 9) 23 (by rfl) (by show (23 : Nat) < 40; decide) _ (by decide +kernel) (by decide)
          obtain ⟨_, _, _, f9, _⟩ := hd 9 (by decide)
          replace f9 : x 9 = .bool false := f9
          rw [f9] at e23
          clear hA hd
          refine wpOp_step rfl (fun K' hK' => ?_)
          go_simp
          exact hK' _ _ (hK _ _ ⟨0, 0, 0, rfl, al0⟩ (Below.refl _ _) no_al)
        · generalize hA : putsA _ _ x (0 :: 1 :: 2 :: 3 :: 4 :: 5 :: 6 :: 7 :: 8 :: 9 :: 10 :: 11 :: 12 :: 13 :: 14 :: 15 :: 16 :: 17 :: 18 :: 19 :: 20 :: 21 :: 22 :: 23 :: 24 :: []) = A at *
          have e5 : A.tmps[5]? = some (.int .i64 (j : Int)) := by rw [← hA]; exact putsA_at 5 _ (by decide +kernel)
          have e24 : A.tmps[24]? = some (x 10) := by rw [← hA]; exact putsA_in (i := 10) 24 (by rfl) (by show (24 : Nat) < 40; decide) _ (by decide +kernel) (by decide)
          obtain ⟨_, _, _, f10, _⟩ := hd 10 (by decide)
          replace f10 : x 10 = .bool false := f10
          rw [f10] at e24
          clear hA hd
          refine wpOp_step rfl (fun K' hK' => ?_)
          go_simp
          exact hK' _ _ (hK _ _ ⟨0, 0, 0, rfl, al0⟩ (Below.refl _ _) no_al)
        · generalize hA : putsA _ _ x (0 :: 1 :: 2 :: 3 :: 4 :: 5 :: 6 :: 7 :: 8 :: 9 :: 10 :: 11 :: 12 :: 13 :: 14 :: 15 :: 16 :: 17 :: 18 :: 19 :: 20 :: 21 :: 22 :: 23 :: 24 :: []) = A at *
          have e24 : A.tmps[24]? = some (x 10) := by rw [← hA]; exact putsA_in (i := 10) 24 (by rfl) (by show (24 : Nat) < 40; decide) _ (by decide +kernel) (by decide)
          obtain ⟨_, _, _, f10, _⟩ := hd 10 (by decide)
          replace f10 : x 10 = .bool false := f10
          rw [f10] at e24
          have e25 : A.tmps[25]? = some (x 11) := by rw [← hA]; exact putsA_in (i := 11) 25 (by rfl) (by show (25 : Nat) < 40; decide) _ (by decide +kernel) (by decide)
          obtain ⟨_, _, _, f11, _⟩ := hd 11 (by decide)
          replace f11 : x 11 = .int .i64 (j : Int) := f11
          rw [f11] at e25
          clear hA hd
          refine wpOp_step rfl (fun K' hK' => ?_)
          go_simp
          exact hK' _ _ (hK _ _ ⟨0, 0, 0, rfl, al0⟩ (Below.refl _ _) no_al)
        · generalize hA : putsA _ _ x (0 :: 1 :: 2 :: 3 :: 4 :: 5 :: 6 :: 7 :: 8 :: 9 :: 10 :: 11 :: 12 :: 13 :: 14 :: 15 :: 16 :: 17 :: 18 :: 19 :: 20 :: 21 :: 22 :: 23 :: 24 :: []) = A at *
          have e24 : A.tmps[24]? = some (x 10) := by rw [← hA]; exact putsA_in (i := 10) 24 (by rfl) (by show (24 : Nat) < 40; decide) _ (by decide +kernel) (by decide)
          obtain ⟨_, _, _, f10, _⟩ := hd 10 (by decide)
          replace f10 : x 10 = .bool false := f10
          rw [f10] at e24
          have e26 : A.tmps[26]? = some (x 12) := by rw [← hA]; exact putsA_in (i := 12) 26 (by rfl) (by show (26 : Nat) < 40; decide) _ (by decide +kernel) (by decide)
          obtain ⟨_, _, _, f12, _⟩ := hd 12 (by decide)
          replace f12 : x 12 = .bool true := f12
          rw [f12] at e26
          clear hA hd
          refine wpOp_step rfl (fun K' hK' => ?_)
          go_simp
          exact hK' _ _ (hK _ _ ⟨0, 0, 0, rfl, al0⟩ (Below.refl _ _) no_al)
        · generalize hA : putsA _ _ x (0 :: 1 :: 2 :: 3 :: 4 :: 5 :: 6 :: 7 :: 8 :: 9 :: 10 :: 11 :: 12 :: 13 :: 14 :: 15 :: 16 :: 17 :: 18 :: 19 :: 20 :: 21 :: 22 :: 23 :: 24 :: []) = A at *
          have e0 : A.tmps[0]? = some (.slice (some ⟨b, o, none⟩) n c) := by rw [← hA]; exact putsA_at 0 _ (by decide +kernel)
          have e27 : A.tmps[27]? = some (x 13) := by rw [← hA]; exact putsA_in (i := 13) 27 (by rfl) (by show (27 : Nat) < 40; decide) _ (by decide +kernel) (by decide)
          obtain ⟨_, _, _, f13, _⟩ := hd 13 (by decide)
          replace f13 : x 13 = .bool true := f13
          rw [f13] at e27
          clear hA hd
          refine wpOp_step rfl (fun K' hK' => ?_)
          go_simp
          exact hK' _ _ (hK _ _ ⟨0, 0, 0, rfl, al0⟩ (Below.refl _ _) no_al)
        · generalize hA : putsA _ _ x (0 :: 1 :: 2 :: 3 :: 4 :: 5 :: 6 :: 7 :: 8 :: 9 :: 10 :: 11 :: 12 :: 13 :: 14 :: 15 :: 16 :: 17 :: 18 :: 19 :: 20 :: 21 :: 22 :: 23 :: 24 :: []) = A at *
          have e5 : A.tmps[5]? = some (.int .i64 (j : Int)) := by rw [← hA]; exact putsA_at 5 _ (by decide +kernel)
          have e27 : A.tmps[27]? = some (x 13) := by rw [← hA]; exact putsA_in (i := 13) 27 (by rfl) (by show (27 : Nat) < 40; decide) _ (by decide +kernel) (by decide)
          obtain ⟨_, _, _, f13, _⟩ := hd 13 (by decide)
          replace f13 : x 13 = .bool true := f13
          rw [f13] at e27
          clear hA hd
          refine wpOp_step rfl (fun K' hK' => ?_)
          go_simp
          exact hK' _ _ (hK _ _ ⟨0, 0, 0, rfl, al0⟩ (Below.refl _ _) no_al)
        · generalize hA : putsA _ _ x (0 :: 1 :: 2 :: 3 :: 4 :: 5 :: 6 :: 7 :: 8 :: 9 :: 10 :: 11 :: 12 :: 13 :: 14 :: 15 :: 16 :: 17 :: 18 :: 19 :: 20 :: 21 :: 22 :: 23 :: 24 :: []) = A at *
          have e27 : A.tmps[27]? = some (x 13) := by rw [← hA]; exact putsA_in (i := 13) 27 (by rfl) (by show (27 : Nat) < 40; decide) _ (by decide +kernel) (by decide)
          obtain ⟨_, _, _, f13, _⟩ := hd 13 (by decide)
          replace f13 : x 13 = .bool true := f13
          rw [f13] at e27
          have e29 : A.tmps[29]? = some (x 15) := by rw [← hA]; exact putsA_in (i := 15) 29 (by rfl) (by show (29 : Nat) < 40; decide) _ (by decide +kernel) (by decide)
          obtain ⟨_, _, _, f15, _⟩ := hd 15 (by decide)
          replace f15 : x 15 = .int .i64 (j : Int) := f15
          rw [f15] at e29
          clear hA hd
          refine wpOp_step rfl (fun K' hK' => ?_)
          go_simp
          exact hK' _ _ (hK _ _ ⟨0, 0, 0, rfl, al0⟩ (Below.refl _ _) no_al)
        · generalize hA : putsA _ _ x (0 :: 1 :: 2 :: 3 :: 4 :: 5 :: 6 :: 7 :: 8 :: 9 :: 10 :: 11 :: 12 :: 13 :: 14 :: 15 :: 16 :: 17 :: 18 :: 19 :: 20 :: 21 :: 22 :: 23 :: 24 :: []) = A at *
          have e27 : A.tmps[27]? = some (x 13) := by rw [← hA]; exact putsA_in (i := 13) 27 (by rfl) (by show (27 : Nat) < 40; decide) _ (by decide +kernel) (by decide)
          obtain ⟨_, _, _, f13, _⟩ := hd 13 (by decide)
          replace f13 : x 13 = .bool true := f13
          rw [f13] at e27
          have e28 : A.tmps[28]? = some (x 14) := by rw [← hA]; exact putsA_in (i := 14) 28 (by rfl) (by show (28 : Nat) < 40; decide) _ (by decide +kernel) (by decide)
          obtain ⟨_, _, _, f14, _⟩ := hd 14 (by decide)
          replace f14 : x 14 = .slice (some ⟨b, o, none⟩) n c := f14
          rw [f14] at e28
          have e30 : A.tmps[30]? = some (x 16) := by rw [← hA]; exact putsA_in (i := 16) 30 (by rfl) (by show (30 : Nat) < 40; decide) _ (by decide +kernel) (by decide)
          obtain ⟨_, _, _, f16, _⟩ := hd 16 (by decide)
          replace f16 : x 16 = .int .i64 ((j : Int) - 1) := f16
          rw [f16] at e30
          clear hA hd
          refine wpOp_step rfl (fun K' hK' => ?_)
          go_simp
          exact hK' _ _ (hK _ _ ⟨0, 0, 0, rfl, al0⟩ (Below.refl _ _) no_al)
        · generalize hA : putsA _ _ x (0 :: 1 :: 2 :: 3 :: 4 :: 5 :: 6 :: 7 :: 8 :: 9 :: 10 :: 11 :: 12 :: 13 :: 14 :: 15 :: 16 :: 17 :: 18 :: 19 :: 20 :: 21 :: 22 :: 23 :: 24 :: []) = A at *
          have e27 : A.tmps[27]? = some (x 13) := by rw [← hA]; exact putsA_in (i := 13) 27 (by rfl) (by show (27 : Nat) < 40; decide) _ (by decide +kernel) (by decide)
          obtain ⟨_, _, _, f13, _⟩ := hd 13 (by decide)
          replace f13 : x 13 = .bool true := f13
          rw [f13] at e27
          have e31 : A.tmps[31]? = some (x 17) := by rw [← hA]; exact putsA_in (i := 17) 31 (by rfl) (by show (31 : Nat) < 40; decide) _ (by decide +kernel) (by decide)
          obtain ⟨_, _, _, f17, _⟩ := hd 17 (by decide)
          replace f17 : x 17 = .pointer (some ⟨b, o + (j - 1) * 4, none⟩) := f17
          rw [f17] at e31
          clear hA hd
          refine wpOp_step rfl (fun K' hK' => ?_)
          go_simp
          exact hK' _ _ (hK _ _ ⟨0, 0, 0, rfl, al0⟩ (Below.refl _ _) no_al)
        · generalize hA : putsA _ _ x (0 :: 1 :: 2 :: 3 :: 4 :: 5 :: 6 :: 7 :: 8 :: 9 :: 10 :: 11 :: 12 :: 13 :: 14 :: 15 :: 16 :: 17 :: 18 :: 19 :: 20 :: 21 :: 22 :: 23 :: 24 :: []) = A at *
          have e27 : A.tmps[27]? = some (x 13) := by rw [← hA]; exact putsA_in (i := 13) 27 (by rfl) (by show (27 : Nat) < 40; decide) _ (by decide +kernel) (by decide)
          obtain ⟨_, _, _, f13, _⟩ := hd 13 (by decide)
          replace f13 : x 13 = .bool true := f13
          rw [f13] at e27
          have e32 : A.tmps[32]? = some (x 18) := by rw [← hA]; exact putsA_in (i := 18) 32 (by rfl) (by show (32 : Nat) < 40; decide) _ (by decide +kernel) (by decide)
          obtain ⟨_, _, _, f18, _⟩ := hd 18 (by decide)
          replace f18 : x 18 = .pointer (some ⟨b, o + (j - 1) * 4, none⟩) := f18
          rw [f18] at e32
          clear hA hd
          have cp := (cells4_below HCP.out hs.2.2 HG.out).1
          simp only at cp
          refine wpOp_step rfl (fun K' hK' => ?_)
          go_simp
          exact hK' _ _ (hK _ _ ⟨0, 0, 0, rfl, al0⟩ (Below.refl _ _) no_al)
        · generalize hA : putsA _ _ x (0 :: 1 :: 2 :: 3 :: 4 :: 5 :: 6 :: 7 :: 8 :: 9 :: 10 :: 11 :: 12 :: 13 :: 14 :: 15 :: 16 :: 17 :: 18 :: 19 :: 20 :: 21 :: 22 :: 23 :: 24 :: []) = A at *
          have e6 : A.tmps[6]? = some (.pointer (some ⟨wr.heap.size, 0, none⟩)) := by rw [← hA]; exact putsA_at 6 _ (by decide +kernel)
          have e27 : A.tmps[27]? = some (x 13) := by rw [← hA]; exact putsA_in (i := 13) 27 (by rfl) (by show (27 : Nat) < 40; decide) _ (by decide +kernel) (by decide)
          obtain ⟨_, _, _, f13, _⟩ := hd 13 (by decide)
          replace f13 : x 13 = .bool true := f13
          rw [f13] at e27
          clear hA hd
          refine wpOp_step rfl (fun K' hK' => ?_)
          go_simp
          exact hK' _ _ (hK _ _ ⟨0, 0, 0, rfl, al0⟩ (Below.refl _ _) no_al)
        · generalize hA : putsA _ _ x (0 :: 1 :: 2 :: 3 :: 4 :: 5 :: 6 :: 7 :: 8 :: 9 :: 10 :: 11 :: 12 :: 13 :: 14 :: 15 :: 16 :: 17 :: 18 :: 19 :: 20 :: 21 :: 22 :: 23 :: 24 :: []) = A at *
          have e27 : A.tmps[27]? = some (x 13) := by rw [← hA]; exact putsA_in (i := 13) 27 (by rfl) (by show (27 : Nat) < 40; decide) _ (by decide +kernel) (by decide)
          obtain ⟨_, _, _, f13, _⟩ := hd 13 (by decide)
          replace f13 : x 13 = .bool true := f13
          rw [f13] at e27
          have e34 : A.tmps[34]? = some (x 20) := by rw [← hA]; exact putsA_in (i := 20) 34 (by rfl) (by show (34 : Nat) < 40; decide) _ (by decide +kernel) (by decide)
          obtain ⟨_, _, _, f20, _⟩ := hd 20 (by decide)
          replace f20 : x 20 = .pointer (some ⟨wr.heap.size, 0, none⟩) := f20
          rw [f20] at e34
          clear hA hd
          obtain ⟨c0, c1, c2, c3⟩ := cell4 (hs.1 _ (.head _))
          refine wpOp_step rfl (fun K' hK' => ?_)
          go_simp
          exact hK' _ _ (hK _ _ ⟨0, 0, 0, rfl, al0⟩ (Below.refl _ _) no_al)
        · generalize hA : putsA _ _ x (0 :: 1 :: 2 :: 3 :: 4 :: 5 :: 6 :: 7 :: 8 :: 9 :: 10 :: 11 :: 12 :: 13 :: 14 :: 15 :: 16 :: 17 :: 18 :: 19 :: 20 :: 21 :: 22 :: 23 :: 24 :: []) = A at *
          have e27 : A.tmps[27]? = some (x 13) := by rw [← hA]; exact putsA_in (i := 13) 27 (by rfl) (by show (27 : Nat) < 40; decide) _ (by decide +kernel) (by decide)
          obtain ⟨_, _, _, f13, _⟩ := hd 13 (by decide)
          replace f13 : x 13 = .bool true := f13
          rw [f13] at e27
          have e33 : A.tmps[33]? = some (x 19) := by rw [← hA]; exact putsA_in (i := 19) 33 (by rfl) (by show (33 : Nat) < 40; decide) _ (by decide +kernel) (by decide)
          obtain ⟨_, _, _, f19, _⟩ := hd 19 (by decide)
          replace f19 : x 19 = .string kp := f19
          rw [f19] at e33
          have e35 : A.tmps[35]? = some (x 21) := by rw [← hA]; exact putsA_in (i := 21) 35 (by rfl) (by show (35 : Nat) < 40; decide) _ (by decide +kernel) (by decide)
          obtain ⟨_, _, _, f21, _⟩ := hd 21 (by decide)
          replace f21 : x 21 = .string k := f21
          rw [f21] at e35
          clear hA hd
          refine wpOp_step rfl (fun K' hK' => ?_)
          go_simp
          exact hK' _ _ (hK _ _ ⟨0, 0, 0, rfl, al0⟩ (Below.refl _ _) no_al)
        · generalize hA : putsA _ _ x (0 :: 1 :: 2 :: 3 :: 4 :: 5 :: 6 :: 7 :: 8 :: 9 :: 10 :: 11 :: 12 :: 13 :: 14 :: 15 :: 16 :: 17 :: 18 :: 19 :: 20 :: 21 :: 22 :: 23 :: 24 :: []) = A at *
          have e24 : A.tmps[24]? = some (x 10) := by rw [← hA]; exact putsA_in (i := 10) 24 (by rfl) (by show (24 : Nat) < 40; decide) _ (by decide +kernel) (by decide)
          obtain ⟨_, _, _, f10, _⟩ := hd 10 (by decide)
          replace f10 : x 10 = .bool false := f10
          rw [f10] at e24
          have e27 : A.tmps[27]? = some (x 13) := by rw [← hA]; exact putsA_in (i := 13) 27 (by rfl) (by show (27 : Nat) < 40; decide) _ (by decide +kernel) (by decide)
          obtain ⟨_, _, _, f13, _⟩ := hd 13 (by decide)
          replace f13 : x 13 = .bool true := f13
          rw [f13] at e27
          have e36 : A.tmps[36]? = some (x 22) := by rw [← hA]; exact putsA_in (i := 22) 36 (by rfl) (by show (36 : Nat) < 40; decide) _ (by decide +kernel) (by decide)
          obtain ⟨_, _, _, f22, _⟩ := hd 22 (by decide)
          replace f22 : x 22 = .bool (!lessS kp k) := f22
          rw [f22] at e36
          clear hA hd
          refine wpOp_step rfl (fun K' hK' => ?_)
          go_simp
          exact hK' _ _ (hK _ _ ⟨0, 0, 0, rfl, al0⟩ (Below.refl _ _) no_al)
        · generalize hA : putsA _ _ x (0 :: 1 :: 2 :: 3 :: 4 :: 5 :: 6 :: 7 :: 8 :: 9 :: 10 :: 11 :: 12 :: 13 :: 14 :: 15 :: 16 :: 17 :: 18 :: 19 :: 20 :: 21 :: 22 :: 23 :: 24 :: []) = A at *
          have e24 : A.tmps[24]? = some (x 10) := by rw [← hA]; exact putsA_in (i := 10) 24 (by rfl) (by show (24 : Nat) < 40; decide) _ (by decide +kernel) (by decide)
          obtain ⟨_, _, _, f10, _⟩ := hd 10 (by decide)
          replace f10 : x 10 = .bool false := f10
          rw [f10] at e24
          have e37 : A.tmps[37]? = some (x 23) := by rw [← hA]; exact putsA_in (i := 23) 37 (by rfl) (by show (37 : Nat) < 40; decide) _ (by decide +kernel) (by decide)
          obtain ⟨_, _, _, f23, _⟩ := hd 23 (by decide)
          replace f23 : x 23 = .bool (!lessS kp k) := f23
          rw [f23] at e37
          clear hA hd
          refine wpOp_step rfl (fun K' hK' => ?_)
          go_simp
          exact hK' _ _ (hK _ _ ⟨0, 0, 0, rfl, al0⟩ (Below.refl _ _) no_al)
      case hend =>
        intro x W hf hg hb
        have HSE := Lib.hid (bs_below HS.out hb).2.2
        have hl : x 24 = .bool (!lessS kp k) := by
          obtain ⟨_, _, _, h, _⟩ := hf 24 (by decide)
          exact h
        rw [putsA_lit _ _ (0 :: 1 :: 2 :: 3 :: 4 :: 5 :: 6 :: 7 :: 8 :: 9 :: 10 :: 11 :: 12 :: 13 :: 14 :: 15 :: 16 :: 17 :: 18 :: 19 :: 20 :: 21 :: 22 :: 23 :: 24 :: []) ((14, 0) :: (15, 1) :: (16, 2) :: (17, 3) :: (18, 4) :: (19, 5) :: (20, 6) :: (21, 7) :: (22, 8) :: (23, 9) :: (24, 10) :: (25, 11) :: (26, 12) :: (27, 13) :: (28, 14) :: (29, 15) :: (30, 16) :: (31, 17) :: (32, 18) :: (33, 19) :: (34, 20) :: (35, 21) :: (36, 22) :: (37, 23) :: (38, 24) :: []) (by kernel_rfl)]
        simp only [setAll, ↓reduceIte, Nat.reduceAdd, Nat.reduceEqDiff]
        rw [hl]
        clear hf hl hg hb HS HFC HPP
        refine wpAny_done (by kernel_rfl) ?_ _
        refine NoPanic.normal ?_
        cases hls : lessS kp k
        · have HR : Hid (okL leafB none l = false) := Lib.hid (by rw [HQ.out, HPK.out]; simp [hls])
          clear hls HQ HPK HCP
          simp only [Bool.not_false]
          go_wp2
          go_ret
          exact ⟨rbool HR.out.symm, HSE.out⟩
        · have HR : Hid (okL leafB none l = okL leafB (prevK l (j + 1)) (l.drop (j + 1))) := Lib.hid (by rw [HQ.out, HFV.out, HPS.out, decide_eq_true HK.out, HPK.out]; simp [hls])
          clear hls HQ HPK HCP hj1 hj2 hj3 hj4 hj5
          simp only [Bool.not_true]
          go_wp2
          go_roundw
          case rel => exact ⟨j + 1, by omega, by go_num, HR.out, HSE.out⟩
          case measure => simp [intOf]; omega

    · obtain rfl : j = n := by omega
      have HR : Hid (okL leafB none l = true) := Lib.hid (by rw [heq, List.drop_of_length_le (by have := HN.out; omega)]; cases prevK l j <;> rfl)
      clear heq
      go_wp2
      go_ret
      exact ⟨rbool HR.out.symm, hbr⟩
def mkccells_inner1 (g b o n c j : Nat) (k kp : ByteArray) (z : Int) (lo : ByteArray) (p : Int) : Nat → Nat → Nat → Nat → Value
  | 0, _, _, _ => .pointer (some ⟨g, 0, none⟩)
  | 1, _, _, _ => .string k
  | 2, _, _, _ => .int .i64 (k.size : Int)
  | 3, _, _, _ => .bool true
  | 4, _, _, _ => .bool true
  | 5, _, _, _ => undef
  | 6, _, _, _ => undef
  | 7, _, _, _ => undef
  | 8, _, _, _ => undef
  | 9, _, _, _ => .bool true
  | 10, _, _, _ => .bool true
  | 11, _, _, _ => undef
  | 12, _, _, _ => undef
  | 13, _, _, _ => undef
  | 14, _, _, _ => undef
  | 15, _, _, _ => undef
  | 16, _, _, _ => undef
  | 17, _, _, _ => undef
  | 18, _, _, _ => undef
  | 19, _, _, _ => undef
  | 20, _, _, _ => undef
  | 21, _, _, _ => undef
  | 22, _, _, _ => undef
  | 23, _, _, _ => undef
  | 24, _, _, _ => .bool true
  | _, _, _, _ => .bool false
def mkccells_inner2 (g b o n c j : Nat) (k kp : ByteArray) (z : Int) (lo : ByteArray) (p : Int) : Nat → Nat → Nat → Nat → Value
  | 0, _, _, _ => .pointer (some ⟨g, 0, none⟩)
  | 1, _, _, _ => .string k
  | 2, _, _, _ => .int .i64 (k.size : Int)
  | 3, _, _, _ => .bool false
  | 4, _, _, _ => .bool false
  | 5, _, _, _ => .func (.func 55) #[] #[]
  | 6, _, _, _ => .agg #[.string k, .int .i64 z, .string lo, .int .i64 p]
  | 7, _, _, _ => .bool false
  | 8, _, _, _ => .bool true
  | 9, _, _, _ => .bool true
  | 10, _, _, _ => .bool true
  | 11, _, _, _ => undef
  | 12, _, _, _ => undef
  | 13, _, _, _ => undef
  | 14, _, _, _ => undef
  | 15, _, _, _ => undef
  | 16, _, _, _ => undef
  | 17, _, _, _ => undef
  | 18, _, _, _ => undef
  | 19, _, _, _ => undef
  | 20, _, _, _ => undef
  | 21, _, _, _ => undef
  | 22, _, _, _ => undef
  | 23, _, _, _ => undef
  | 24, _, _, _ => .bool true
  | _, _, _, _ => .bool false
def mkccells_inner3 (g b o n c j : Nat) (k kp : ByteArray) (z : Int) (lo : ByteArray) (p : Int) : Nat → Nat → Nat → Nat → Value
  | 0, _, _, _ => .pointer (some ⟨g, 0, none⟩)
  | 1, _, _, _ => .string k
  | 2, _, _, _ => .int .i64 (k.size : Int)
  | 3, _, _, _ => .bool false
  | 4, _, _, _ => .bool false
  | 5, _, _, _ => .func (.func 55) #[] #[]
  | 6, _, _, _ => .agg #[.string k, .int .i64 z, .string lo, .int .i64 p]
  | 7, _, _, _ => .bool true
  | 8, _, _, _ => .bool false
  | 9, _, _, _ => .bool false
  | 10, _, _, _ => .bool false
  | 11, _, _, _ => .int .i64 (j : Int)
  | 12, _, _, _ => .bool false
  | 13, _, _, _ => .bool false
  | 14, _, _, _ => undef
  | 15, _, _, _ => undef
  | 16, _, _, _ => undef
  | 17, _, _, _ => undef
  | 18, _, _, _ => undef
  | 19, _, _, _ => undef
  | 20, _, _, _ => undef
  | 21, _, _, _ => undef
  | 22, _, _, _ => undef
  | 23, _, _, _ => .bool false
  | 24, _, _, _ => .bool false
  | _, _, _, _ => .bool false
def mkccells_inner4 (g b o n c j : Nat) (k kp : ByteArray) (z : Int) (lo : ByteArray) (p : Int) : Nat → Nat → Nat → Nat → Value
  | 0, _, _, _ => .pointer (some ⟨g, 0, none⟩)
  | 1, _, _, _ => .string k
  | 2, _, _, _ => .int .i64 (k.size : Int)
  | 3, _, _, _ => .bool false
  | 4, _, _, _ => .bool false
  | 5, _, _, _ => .func (.func 55) #[] #[]
  | 6, _, _, _ => .agg #[.string k, .int .i64 z, .string lo, .int .i64 p]
  | 7, _, _, _ => .bool true
  | 8, _, _, _ => .bool false
  | 9, _, _, _ => .bool false
  | 10, _, _, _ => .bool false
  | 11, _, _, _ => .int .i64 (j : Int)
  | 12, _, _, _ => .bool true
  | 13, _, _, _ => .bool true
  | 14, _, _, _ => .slice (some ⟨b, o, none⟩) n c
  | 15, _, _, _ => .int .i64 (j : Int)
  | 16, _, _, _ => .int .i64 ((j : Int) - 1)
  | 17, _, _, _ => .pointer (some ⟨b, o + (j - 1) * 4, none⟩)
  | 18, _, _, _ => .pointer (some ⟨b, o + (j - 1) * 4, none⟩)
  | 19, _, _, _ => .string kp
  | 20, _, _, _ => .pointer (some ⟨g, 0, none⟩)
  | 21, _, _, _ => .string k
  | 22, _, _, _ => .bool (!lessS kp k)
  | 23, _, _, _ => .bool (!lessS kp k)
  | 24, _, _, _ => .bool (!lessS kp k)
  | _, _, _, _ => .bool false
set_option maxRecDepth 100000 in
set_option maxHeartbeats 8000000 in
theorem cells_inner (A : Option Addr) (l : List Cl) (n c : Nat) (w : World) (hC : Cls w w.heap.size A l) (hn : n = l.length) (hm : n ≤ 1000000) :
    Calls Tryd.prog 52 #[.slice A n c, .func (.func 55) #[] #[]] w fun e w' => e = .returned (.bool (okL innerB none l)) ∧ Below w.heap.size w w' := by
  have HN := Lib.hid hn
  have hmI : (n : Int) ≤ 1000000 := by omega
  clear hn
  go_enter Tryd.func52, Tryd.ntmps52
  go_wp2
  go_loopw [9] (fun i wr => ∃ j : Nat, j ≤ n ∧ i = .int .i64 j ∧ okL innerB none l = okL innerB (prevK l j) (l.drop j) ∧ Below w.heap.size w wr) (fun i _ => n - (intOf i).toNat)
  case atStart => exact ⟨0, by omega, rfl, rfl, Below.refl _ _⟩
  case round =>
    obtain ⟨j, hj, rfl, heq, hbr⟩ := hrel
    by_cases hjn : j < n
    · have hlt : j < l.length := by have := HN.out; omega
      obtain ⟨b, o, rfl, hbl, hcs⟩ := cls_get hC (fun e => by rw [e] at hlt; simp at hlt)
      obtain ⟨a0, a1, a2, a3⟩ := cells4_below (hcs j l[j] (List.getElem?_eq_getElem hlt)) hbr hbl
      have hd : l.drop j = l[j] :: l.drop (j + 1) := List.drop_eq_getElem_cons hlt
      have hps := prevK_succ l j hlt
      obtain ⟨x, hx⟩ : ∃ x, l[j] = x := ⟨_, rfl⟩
      rw [hx] at a0 a1 a2 a3 hd hps
      rw [hd, okL_step] at heq
      have HPP : Hid (∀ i, j = i + 1 → ∃ y, prevK l j = some y.key ∧ Cells4 w b (o + i * 4) y) := Lib.hid (fun i e => by
        have hi : i < l.length := by omega
        exact ⟨l[i], by rw [e]; exact prevK_succ l i hi, hcs i l[i] (List.getElem?_eq_getElem hi)⟩)
      obtain ⟨k, z, lo, p⟩ := x
      simp only at a0 a1 a2 a3 heq hps
      have HQ := Lib.hid heq
      have HPS := Lib.hid hps
      have HBR := Lib.hid hbr
      have hjI : (j : Int) < n := by omega
      clear hcs hx hd heq hps hbr hlt
      go_upto_region 4 with fail
      have HS := Lib.hid (show Bs w [(wr.heap.size, 30, clC ⟨k, z, lo, p⟩)] [] ((wr.alloc (.cells #[.string k, .int .i64 z, .string lo, .int .i64 p] 30)).drew) from bs_drew (bs_single (Blk.new _ _ _) (bj HBR.out bs_one)))
      have HFC := Lib.hid (fun W => innerCell_any ⟨k, z, lo, p⟩ W)
      have HG := Lib.hid (show b < w.heap.size from hbl)
      clear a0 a1 a2 a3 HBR hbl hC
      by_cases hk : 100 < (k.size : Int)
      · have HR : Hid (okL innerB none l = false) := Lib.hid (by rw [HQ.out, decide_eq_false (by omega)]; simp)
        clear HQ
        obtain ⟨kp, hkp⟩ : ∃ kp : ByteArray, kp = k := ⟨_, rfl⟩
        clear hkp
        refine wp_region_noPanic ?_
        refine wp_region_any (by kernel_rfl) ?_
        refine facts_start (0 :: 1 :: 2 :: 3 :: 4 :: 5 :: 6 :: 7 :: 8 :: 9 :: 10 :: 11 :: 12 :: 13 :: 14 :: 15 :: 16 :: 17 :: 18 :: 19 :: 20 :: 21 :: 22 :: 23 :: 24 :: []) [] D4 (Ft (mkccells_inner1 wr.heap.size b o n c j k kp z lo p) (fun _ _ _ _ => [])) _ _ _ 0 _ #[true, true, true, true, true, true, true, true, true, true, true, true, true, true, true, true, true, true, true, true, true, true, true, true, true] (by kernel_rfl) (by rfl) ft_step no_al' ?hstep ?hend
        case hstep =>
          intro i hi x W hd hb K hK
          have hs := bs_below HS.out hb
          simp only [List.mem_cons, List.not_mem_nil, or_false] at hi
          rcases hi with rfl | rfl | rfl | rfl | rfl | rfl | rfl | rfl | rfl | rfl | rfl | rfl | rfl | rfl | rfl | rfl | rfl | rfl | rfl | rfl | rfl | rfl | rfl | rfl | rfl
          · generalize hA : putsA _ _ x (0 :: 1 :: 2 :: 3 :: 4 :: 5 :: 6 :: 7 :: 8 :: 9 :: 10 :: 11 :: 12 :: 13 :: 14 :: 15 :: 16 :: 17 :: 18 :: 19 :: 20 :: 21 :: 22 :: 23 :: 24 :: []) = A at *
            have e6 : A.tmps[6]? = some (.pointer (some ⟨wr.heap.size, 0, none⟩)) := by rw [← hA]; exact putsA_at 6 _ (by decide +kernel)
            clear hA hd
            refine wpOp_step rfl (fun K' hK' => ?_)
            go_simp
            exact hK' _ _ (hK _ _ ⟨0, 0, 0, rfl, al0⟩ (Below.refl _ _) no_al)
          · generalize hA : putsA _ _ x (0 :: 1 :: 2 :: 3 :: 4 :: 5 :: 6 :: 7 :: 8 :: 9 :: 10 :: 11 :: 12 :: 13 :: 14 :: 15 :: 16 :: 17 :: 18 :: 19 :: 20 :: 21 :: 22 :: 23 :: 24 :: []) = A at *
            have e14 : A.tmps[14]? = some (x 0) := by rw [← hA]; exact putsA_in (i := 0) 14 (by rfl) (by show (14 : Nat) < 40; decide) _ (by decide +kernel) (by decide)
            obtain ⟨_, _, _, f0, _⟩ := hd 0 (by decide)
            replace f0 : x 0 = .pointer (some ⟨wr.heap.size, 0, none⟩) := f0
            rw [f0] at e14
            clear hA hd
            obtain ⟨c0, c1, c2, c3⟩ := cell4 (hs.1 _ (.head _))
            refine wpOp_step rfl (fun K' hK' => ?_)
            go_simp
            exact hK' _ _ (hK _ _ ⟨0, 0, 0, rfl, al0⟩ (Below.refl _ _) no_al)
          · generalize hA : putsA _ _ x (0 :: 1 :: 2 :: 3 :: 4 :: 5 :: 6 :: 7 :: 8 :: 9 :: 10 :: 11 :: 12 :: 13 :: 14 :: 15 :: 16 :: 17 :: 18 :: 19 :: 20 :: 21 :: 22 :: 23 :: 24 :: []) = A at *
            have e15 : A.tmps[15]? = some (x 1) := by rw [← hA]; exact putsA_in (i := 1) 15 (by rfl) (by show (15 : Nat) < 40; decide) _ (by decide +kernel) (by decide)
            obtain ⟨_, _, _, f1, _⟩ := hd 1 (by decide)
            replace f1 : x 1 = .string k := f1
            rw [f1] at e15
            clear hA hd
            refine wpOp_step rfl (fun K' hK' => ?_)
            go_simp
            exact hK' _ _ (hK _ _ ⟨0, 0, 0, rfl, al0⟩ (Below.refl _ _) no_al)
          · generalize hA : putsA _ _ x (0 :: 1 :: 2 :: 3 :: 4 :: 5 :: 6 :: 7 :: 8 :: 9 :: 10 :: 11 :: 12 :: 13 :: 14 :: 15 :: 16 :: 17 :: 18 :: 19 :: 20 :: 21 :: 22 :: 23 :: 24 :: []) = A at *
            have e16 : A.tmps[16]? = some (x 2) := by rw [← hA]; exact putsA_in (i := 2) 16 (by rfl) (by show (16 : Nat) < 40; decide) _ (by decide +kernel) (by decide)
            obtain ⟨_, _, _, f2, _⟩ := hd 2 (by decide)
            replace f2 : x 2 = .int .i64 (k.size : Int) := f2
            rw [f2] at e16
            clear hA hd
            refine wpOp_step rfl (fun K' hK' => ?_)
            go_simp
            exact hK' _ _ (hK _ _ ⟨0, 0, 0, rfl, al0⟩ (Below.refl _ _) no_al)
          · generalize hA : putsA _ _ x (0 :: 1 :: 2 :: 3 :: 4 :: 5 :: 6 :: 7 :: 8 :: 9 :: 10 :: 11 :: 12 :: 13 :: 14 :: 15 :: 16 :: 17 :: 18 :: 19 :: 20 :: 21 :: 22 :: 23 :: 24 :: []) = A at *
            have e17 : A.tmps[17]? = some (x 3) := by rw [← hA]; exact putsA_in (i := 3) 17 (by rfl) (by show (17 : Nat) < 40; decide) _ (by decide +kernel) (by decide)
            obtain ⟨_, _, _, f3, _⟩ := hd 3 (by decide)
            replace f3 : x 3 = .bool true := f3
            rw [f3] at e17
            clear hA hd
            refine wpOp_step rfl (fun K' hK' => ?_)
            go_simp
            exact hK' _ _ (hK _ _ ⟨0, 0, 0, rfl, al0⟩ (Below.refl _ _) no_al)
          · generalize hA : putsA _ _ x (0 :: 1 :: 2 :: 3 :: 4 :: 5 :: 6 :: 7 :: 8 :: 9 :: 10 :: 11 :: 12 :: 13 :: 14 :: 15 :: 16 :: 17 :: 18 :: 19 :: 20 :: 21 :: 22 :: 23 :: 24 :: []) = A at *
            have e1 : A.tmps[1]? = some (.func (.func 55) #[] #[]) := by rw [← hA]; exact putsA_at 1 _ (by decide +kernel)
            have e18 : A.tmps[18]? = some (x 4) := by rw [← hA]; exact putsA_in (i := 4) 18 (by rfl) (by show (18 : Nat) < 40; decide) _ (by decide +kernel) (by decide)
            obtain ⟨_, _, _, f4, _⟩ := hd 4 (by decide)
            replace f4 : x 4 = .bool true := f4
            rw [f4] at e18
            clear hA hd
            refine wpOp_step rfl (fun K' hK' => ?_)
            go_simp
            exact hK' _ _ (hK _ _ ⟨0, 0, 0, rfl, al0⟩ (Below.refl _ _) no_al)
          · generalize hA : putsA _ _ x (0 :: 1 :: 2 :: 3 :: 4 :: 5 :: 6 :: 7 :: 8 :: 9 :: 10 :: 11 :: 12 :: 13 :: 14 :: 15 :: 16 :: 17 :: 18 :: 19 :: 20 :: 21 :: 22 :: 23 :: 24 :: []) = A at *
            have e6 : A.tmps[6]? = some (.pointer (some ⟨wr.heap.size, 0, none⟩)) := by rw [← hA]; exact putsA_at 6 _ (by decide +kernel)
            have e18 : A.tmps[18]? = some (x 4) := by rw [← hA]; exact putsA_in (i := 4) 18 (by rfl) (by show (18 : Nat) < 40; decide) _ (by decide +kernel) (by decide)
            obtain ⟨_, _, _, f4, _⟩ := hd 4 (by decide)
            replace f4 : x 4 = .bool true := f4
            rw [f4] at e18
            clear hA hd
            obtain ⟨c0, c1, c2, c3⟩ := cell4 (hs.1 _ (.head _))
            refine wpOp_step rfl (fun K' hK' => ?_)
            go_simp
            exact hK' _ _ (hK _ _ ⟨0, 0, 0, rfl, al0⟩ (Below.refl _ _) no_al)
          · generalize hA : putsA _ _ x (0 :: 1 :: 2 :: 3 :: 4 :: 5 :: 6 :: 7 :: 8 :: 9 :: 10 :: 11 :: 12 :: 13 :: 14 :: 15 :: 16 :: 17 :: 18 :: 19 :: 20 :: 21 :: 22 :: 23 :: 24 :: []) = A at *
            have e18 : A.tmps[18]? = some (x 4) := by rw [← hA]; exact putsA_in (i := 4) 18 (by rfl) (by show (18 : Nat) < 40; decide) _ (by decide +kernel) (by decide)
            obtain ⟨_, _, _, f4, _⟩ := hd 4 (by decide)
            replace f4 : x 4 = .bool true := f4
            rw [f4] at e18
            have e19 : A.tmps[19]? = some (x 5) := by rw [← hA]; exact putsA_in (i := 5) 19 (by rfl) (by show (19 : Nat) < 40; decide) _ (by decide +kernel) (by decide)
            obtain ⟨_, _, _, f5, _⟩ := hd 5 (by decide)
            replace f5 : x 5 = undef := f5
            rw [f5] at e19
            have e20 : A.tmps[20]? = some (x 6) := by rw [← hA]; exact putsA_in (i := 6) 20 (by rfl) (by show (20 : Nat) < 40; decide) _ (by decide +kernel) (by decide)
            obtain ⟨_, _, _, f6, _⟩ := hd 6 (by decide)
            replace f6 : x 6 = undef := f6
            rw [f6] at e20
            clear hA hd
            refine wpOp_step rfl (fun K' hK' => ?_)
            go_simp
            exact hK' _ _ (hK _ _ ⟨0, 0, 0, rfl, al0⟩ (Below.refl _ _) no_al)
          · generalize hA : putsA _ _ x (0 :: 1 :: 2 :: 3 :: 4 :: 5 :: 6 :: 7 :: 8 :: 9 :: 10 :: 11 :: 12 :: 13 :: 14 :: 15 :: 16 :: 17 :: 18 :: 19 :: 20 :: 21 :: 22 :: 23 :: 24 :: []) = A at *
            have e18 : A.tmps[18]? = some (x 4) := by rw [← hA]; exact putsA_in (i := 4) 18 (by rfl) (by show (18 : Nat) < 40; decide) _ (by decide +kernel) (by decide)
            obtain ⟨_, _, _, f4, _⟩ := hd 4 (by decide)
            replace f4 : x 4 = .bool true := f4
            rw [f4] at e18
            have e21 : A.tmps[21]? = some (x 7) := by rw [← hA]; exact putsA_in (i := 7) 21 (by rfl) (by show (21 : Nat) < 40; decide) _ (by decide +kernel) (by decide)
            obtain ⟨_, _, _, f7, _⟩ := hd 7 (by decide)
            replace f7 : x 7 = undef := f7
            rw [f7] at e21
            clear hA hd
            refine wpOp_step rfl (fun K' hK' => ?_)
            go_simp
            exact hK' _ _ (hK _ _ ⟨0, 0, 0, rfl, al0⟩ (Below.refl _ _) no_al)
          · generalize hA : putsA _ _ x (0 :: 1 :: 2 :: 3 :: 4 :: 5 :: 6 :: 7 :: 8 :: 9 :: 10 :: 11 :: 12 :: 13 :: 14 :: 15 :: 16 :: 17 :: 18 :: 19 :: 20 :: 21 :: 22 :: 23 :: 24 :: []) = A at *
            have e18 : A.tmps[18]? = some (x 4) := by rw [← hA]; exact putsA_in (i := 4) 18 (by rfl) (by show (18 : Nat) < 40; decide) _ (by decide +kernel) (by decide)
            obtain ⟨_, _, _, f4, _⟩ := hd 4 (by decide)
            replace f4 : x 4 = .bool true := f4
            rw [f4] at e18
            have e22 : A.tmps[22]? = some (x 8) := by rw [← hA]; exact putsA_in (i := 8) 22 (by rfl) (by show (22 : Nat) < 40; decide) _ (by decide +kernel) (by decide)
            obtain ⟨_, _, _, f8, _⟩ := hd 8 (by decide)
            replace f8 : x 8 = undef := f8
            rw [f8] at e22
            clear hA hd
            refine wpOp_step rfl (fun K' hK' => ?_)
            go_simp
            exact hK' _ _ (hK _ _ ⟨0, 0, 0, rfl, al0⟩ (Below.refl _ _) no_al)
          · generalize hA : putsA _ _ x (0 :: 1 :: 2 :: 3 :: 4 :: 5 :: 6 :: 7 :: 8 :: 9 :: 10 :: 11 :: 12 :: 13 :: 14 :: 15 :: 16 :: 17 :: 18 :: 19 :: 20 :: 21 :: 22 :: 23 :: 24 :: []) = A at *
            have e23 : A.tmps[23]? = some (x 9) := by rw [← hA]; exact putsA_in (i := 9) 23 (by rfl) (by show (23 : Nat) < 40; decide) _ (by decide +kernel) (by decide)
            obtain ⟨_, _, _, f9, _⟩ := hd 9 (by decide)
            replace f9 : x 9 = .bool true := f9
            rw [f9] at e23
            clear hA hd
            refine wpOp_step rfl (fun K' hK' => ?_)
            go_simp
            exact hK' _ _ (hK _ _ ⟨0, 0, 0, rfl, al0⟩ (Below.refl _ _) no_al)
          · generalize hA : putsA _ _ x (0 :: 1 :: 2 :: 3 :: 4 :: 5 :: 6 :: 7 :: 8 :: 9 :: 10 :: 11 :: 12 :: 13 :: 14 :: 15 :: 16 :: 17 :: 18 :: 19 :: 20 :: 21 :: 22 :: 23 :: 24 :: []) = A at *
            have e5 : A.tmps[5]? = some (.int .i64 (j : Int)) := by rw [← hA]; exact putsA_at 5 _ (by decide +kernel)
            have e24 : A.tmps[24]? = some (x 10) := by rw [← hA]; exact putsA_in (i := 10) 24 (by rfl) (by show (24 : Nat) < 40; decide) _ (by decide +kernel) (by decide)
            obtain ⟨_, _, _, f10, _⟩ := hd 10 (by decide)
            replace f10 : x 10 = .bool true := f10
            rw [f10] at e24
            clear hA hd
            refine wpOp_step rfl (fun K' hK' => ?_)
            go_simp
            exact hK' _ _ (hK _ _ ⟨0, 0, 0, rfl, al0⟩ (Below.refl _ _) no_al)
          · generalize hA : putsA _ _ x (0 :: 1 :: 2 :: 3 :: 4 :: 5 :: 6 :: 7 :: 8 :: 9 :: 10 :: 11 :: 12 :: 13 :: 14 :: 15 :: 16 :: 17 :: 18 :: 19 :: 20 :: 21 :: 22 :: 23 :: 24 :: []) = A at *
            have e24 : A.tmps[24]? = some (x 10) := by rw [← hA]; exact putsA_in (i := 10) 24 (by rfl) (by show (24 : Nat) < 40; decide) _ (by decide +kernel) (by decide)
            obtain ⟨_, _, _, f10, _⟩ := hd 10 (by decide)
            replace f10 : x 10 = .bool true := f10
            rw [f10] at e24
            have e25 : A.tmps[25]? = some (x 11) := by rw [← hA]; exact putsA_in (i := 11) 25 (by rfl) (by show (25 : Nat) < 40; decide) _ (by decide +kernel) (by decide)
            obtain ⟨_, _, _, f11, _⟩ := hd 11 (by decide)
            replace f11 : x 11 = undef := f11
            rw [f11] at e25
            clear hA hd
            refine wpOp_step rfl (fun K' hK' => ?_)
            go_simp
            exact hK' _ _ (hK _ _ ⟨0, 0, 0, rfl, al0⟩ (Below.refl _ _) no_al)
          · generalize hA : putsA _ _ x (0 :: 1 :: 2 :: 3 :: 4 :: 5 :: 6 :: 7 :: 8 :: 9 :: 10 :: 11 :: 12 :: 13 :: 14 :: 15 :: 16 :: 17 :: 18 :: 19 :: 20 :: 21 :: 22 :: 23 :: 24 :: []) = A at *
            have e24 : A.tmps[24]? = some (x 10) := by rw [← hA]; exact putsA_in (i := 10) 24 (by rfl) (by show (24 : Nat) < 40; decide) _ (by decide +kernel) (by decide)
            obtain ⟨_, _, _, f10, _⟩ := hd 10 (by decide)
            replace f10 : x 10 = .bool true := f10
            rw [f10] at e24
            have e26 : A.tmps[26]? = some (x 12) := by rw [← hA]; exact putsA_in (i := 12) 26 (by rfl) (by show (26 : Nat) < 40; decide) _ (by decide +kernel) (by decide)
            obtain ⟨_, _, _, f12, _⟩ := hd 12 (by decide)
            replace f12 : x 12 = undef := f12
            rw [f12] at e26
            clear hA hd
            refine wpOp_step rfl (fun K' hK' => ?_)
            go_simp
            exact hK' _ _ (hK _ _ ⟨0, 0, 0, rfl, al0⟩ (Below.refl _ _) no_al)
          · generalize hA : putsA _ _ x (0 :: 1 :: 2 :: 3 :: 4 :: 5 :: 6 :: 7 :: 8 :: 9 :: 10 :: 11 :: 12 :: 13 :: 14 :: 15 :: 16 :: 17 :: 18 :: 19 :: 20 :: 21 :: 22 :: 23 :: 24 :: []) = A at *
            have e0 : A.tmps[0]? = some (.slice (some ⟨b, o, none⟩) n c) := by rw [← hA]; exact putsA_at 0 _ (by decide +kernel)
            have e27 : A.tmps[27]? = some (x 13) := by rw [← hA]; exact putsA_in (i := 13) 27 (by rfl) (by show (27 : Nat) < 40; decide) _ (by decide +kernel) (by decide)
            obtain ⟨_, _, _, f13, _⟩ := hd 13 (by decide)
            replace f13 : x 13 = undef := f13
            rw [f13] at e27
            clear hA hd
            refine wpOp_step rfl (fun K' hK' => ?_)
            go_simp
            exact hK' _ _ (hK _ _ ⟨0, 0, 0, rfl, al0⟩ (Below.refl _ _) no_al)
          · generalize hA : putsA _ _ x (0 :: 1 :: 2 :: 3 :: 4 :: 5 :: 6 :: 7 :: 8 :: 9 :: 10 :: 11 :: 12 :: 13 :: 14 :: 15 :: 16 :: 17 :: 18 :: 19 :: 20 :: 21 :: 22 :: 23 :: 24 :: []) = A at *
            have e5 : A.tmps[5]? = some (.int .i64 (j : Int)) := by rw [← hA]; exact putsA_at 5 _ (by decide +kernel)
            have e27 : A.tmps[27]? = some (x 13) := by rw [← hA]; exact putsA_in (i := 13) 27 (by rfl) (by show (27 : Nat) < 40; decide) _ (by decide +kernel) (by decide)
            obtain ⟨_, _, _, f13, _⟩ := hd 13 (by decide)
            replace f13 : x 13 = undef := f13
            rw [f13] at e27
            clear hA hd
            refine wpOp_step rfl (fun K' hK' => ?_)
            go_simp
            exact hK' _ _ (hK _ _ ⟨0, 0, 0, rfl, al0⟩ (Below.refl _ _) no_al)
          · generalize hA : putsA _ _ x (0 :: 1 :: 2 :: 3 :: 4 :: 5 :: 6 :: 7 :: 8 :: 9 :: 10 :: 11 :: 12 :: 13 :: 14 :: 15 :: 16 :: 17 :: 18 :: 19 :: 20 :: 21 :: 22 :: 23 :: 24 :: []) = A at *
            have e27 : A.tmps[27]? = some (x 13) := by rw [← hA]; exact putsA_in (i := 13) 27 (by rfl) (by show (27 : Nat) < 40; decide) _ (by decide +kernel) (by decide)
            obtain ⟨_, _, _, f13, _⟩ := hd 13 (by decide)
            replace f13 : x 13 = undef := f13
            rw [f13] at e27
            have e29 : A.tmps[29]? = some (x 15) := by rw [← hA]; exact putsA_in (i := 15) 29 (by rfl) (by show (29 : Nat) < 40; decide) _ (by decide +kernel) (by decide)
            obtain ⟨_, _, _, f15, _⟩ := hd 15 (by decide)
            replace f15 : x 15 = undef := f15
            rw [f15] at e29
            clear hA hd
            refine wpOp_step rfl (fun K' hK' => ?_)
            go_simp
            exact hK' _ _ (hK _ _ ⟨0, 0, 0, rfl, al0⟩ (Below.refl _ _) no_al)
          · generalize hA : putsA _ _ x (0 :: 1 :: 2 :: 3 :: 4 :: 5 :: 6 :: 7 :: 8 :: 9 :: 10 :: 11 :: 12 :: 13 :: 14 :: 15 :: 16 :: 17 :: 18 :: 19 :: 20 :: 21 :: 22 :: 23 :: 24 :: []) = A at *
            have e27 : A.tmps[27]? = some (x 13) := by rw [← hA]; exact putsA_in (i := 13) 27 (by rfl) (by show (27 : Nat) < 40; decide) _ (by decide +kernel) (by decide)
            obtain ⟨_, _, _, f13, _⟩ := hd 13 (by decide)
            replace f13 : x 13 = undef := f13
            rw [f13] at e27
            have e28 : A.tmps[28]? = some (x 14) := by rw [← hA]; exact putsA_in (i := 14) 28 (by rfl) (by show (28 : Nat) < 40; decide) _ (by decide +kernel) (by decide)
            obtain ⟨_, _, _, f14, _⟩ := hd 14 (by decide)
            replace f14 : x 14 = undef := f14
            rw [f14] at e28
            have e30 : A.tmps[30]? = some (x 16) := by rw [← hA]; exact putsA_in (i := 16) 30 (by rfl) (by show (30 : Nat) < 40; decide) _ (by decide +kernel) (by decide)
            obtain ⟨_, _, _, f16, _⟩ := hd 16 (by decide)
            replace f16 : x 16 = undef := f16
            rw [f16] at e30
            clear hA hd
            refine wpOp_step rfl (fun K' hK' => ?_)
            go_simp
            exact hK' _ _ (hK _ _ ⟨0, 0, 0, rfl, al0⟩ (Below.refl _ _) no_al)
          · generalize hA : putsA _ _ x (0 :: 1 :: 2 :: 3 :: 4 :: 5 :: 6 :: 7 :: 8 :: 9 :: 10 :: 11 :: 12 :: 13 :: 14 :: 15 :: 16 :: 17 :: 18 :: 19 :: 20 :: 21 :: 22 :: 23 :: 24 :: []) = A at *
            have e27 : A.tmps[27]? = some (x 13) := by rw [← hA]; exact putsA_in (i := 13) 27 (by rfl) (by show (27 : Nat) < 40; decide) _ (by decide +kernel) (by decide)
            obtain ⟨_, _, _, f13, _⟩ := hd 13 (by decide)
            replace f13 : x 13 = undef := f13
            rw [f13] at e27
            have e31 : A.tmps[31]? = some (x 17) := by rw [← hA]; exact putsA_in (i := 17) 31 (by rfl) (by show (31 : Nat) < 40; decide) _ (by decide +kernel) (by decide)
            obtain ⟨_, _, _, f17, _⟩ := hd 17 (by decide)
            replace f17 : x 17 = undef := f17
            rw [f17] at e31
            clear hA hd
            refine wpOp_step rfl (fun K' hK' => ?_)
            go_simp
            exact hK' _ _ (hK _ _ ⟨0, 0, 0, rfl, al0⟩ (Below.refl _ _) no_al)
          · generalize hA : putsA _ _ x (0 :: 1 :: 2 :: 3 :: 4 :: 5 :: 6 :: 7 :: 8 :: 9 :: 10 :: 11 :: 12 :: 13 :: 14 :: 15 :: 16 :: 17 :: 18 :: 19 :: 20 :: 21 :: 22 :: 23 :: 24 :: []) = A at *
            have e27 : A.tmps[27]? = some (x 13) := by rw [← hA]; exact putsA_in (i := 13) 27 (by rfl) (by show (27 : Nat) < 40; decide) _ (by decide +kernel) (by decide)
            obtain ⟨_, _, _, f13, _⟩ := hd 13 (by decide)
            replace f13 : x 13 = undef := f13
            rw [f13] at e27
            have e32 : A.tmps[32]? = some (x 18) := by rw [← hA]; exact putsA_in (i := 18) 32 (by rfl) (by show (32 : Nat) < 40; decide) _ (by decide +kernel) (by decide)
            obtain ⟨_, _, _, f18, _⟩ := hd 18 (by decide)
            replace f18 : x 18 = undef := f18
            rw [f18] at e32
            clear hA hd
            refine wpOp_step rfl (fun K' hK' => ?_)
            go_simp
            exact hK' _ _ (hK _ _ ⟨0, 0, 0, rfl, al0⟩ (Below.refl _ _) no_al)
          · generalize hA : putsA _ _ x (0 :: 1 :: 2 :: 3 :: 4 :: 5 :: 6 :: 7 :: 8 :: 9 :: 10 :: 11 :: 12 :: 13 :: 14 :: 15 :: 16 :: 17 :: 18 :: 19 :: 20 :: 21 :: 22 :: 23 :: 24 :: []) = A at *
            have e6 : A.tmps[6]? = some (.pointer (some ⟨wr.heap.size, 0, none⟩)) := by rw [← hA]; exact putsA_at 6 _ (by decide +kernel)
            have e27 : A.tmps[27]? = some (x 13) := by rw [← hA]; exact putsA_in (i := 13) 27 (by rfl) (by show (27 : Nat) < 40; decide) _ (by decide +kernel) (by decide)
            obtain ⟨_, _, _, f13, _⟩ := hd 13 (by decide)
            replace f13 : x 13 = undef := f13
            rw [f13] at e27
            clear hA hd
            refine wpOp_step rfl (fun K' hK' => ?_)
            go_simp
            exact hK' _ _ (hK _ _ ⟨0, 0, 0, rfl, al0⟩ (Below.refl _ _) no_al)
          · generalize hA : putsA _ _ x (0 :: 1 :: 2 :: 3 :: 4 :: 5 :: 6 :: 7 :: 8 :: 9 :: 10 :: 11 :: 12 :: 13 :: 14 :: 15 :: 16 :: 17 :: 18 :: 19 :: 20 :: 21 :: 22 :: 23 :: 24 :: []) = A at *
            have e27 : A.tmps[27]? = some (x 13) := by rw [← hA]; exact putsA_in (i := 13) 27 (by rfl) (by show (27 : Nat) < 40; decide) _ (by decide +kernel) (by decide)
            obtain ⟨_, _, _, f13, _⟩ := hd 13 (by decide)
            replace f13 : x 13 = undef := f13
            rw [f13] at e27
            have e34 : A.tmps[34]? = some (x 20) := by rw [← hA]; exact putsA_in (i := 20) 34 (by rfl) (by show (34 : Nat) < 40; decide) _ (by decide +kernel) (by decide)
            obtain ⟨_, _, _, f20, _⟩ := hd 20 (by decide)
            replace f20 : x 20 = undef := f20
            rw [f20] at e34
            clear hA hd
            obtain ⟨c0, c1, c2, c3⟩ := cell4 (hs.1 _ (.head _))
            refine wpOp_step rfl (fun K' hK' => ?_)
            go_simp
            exact hK' _ _ (hK _ _ ⟨0, 0, 0, rfl, al0⟩ (Below.refl _ _) no_al)
          · generalize hA : putsA _ _ x (0 :: 1 :: 2 :: 3 :: 4 :: 5 :: 6 :: 7 :: 8 :: 9 :: 10 :: 11 :: 12 :: 13 :: 14 :: 15 :: 16 :: 17 :: 18 :: 19 :: 20 :: 21 :: 22 :: 23 :: 24 :: []) = A at *
            have e27 : A.tmps[27]? = some (x 13) := by rw [← hA]; exact putsA_in (i := 13) 27 (by rfl) (by show (27 : Nat) < 40; decide) _ (by decide +kernel) (by decide)
            obtain ⟨_, _, _, f13, _⟩ := hd 13 (by decide)
            replace f13 : x 13 = undef := f13
            rw [f13] at e27
            have e33 : A.tmps[33]? = some (x 19) := by rw [← hA]; exact putsA_in (i := 19) 33 (by rfl) (by show (33 : Nat) < 40; decide) _ (by decide +kernel) (by decide)
            obtain ⟨_, _, _, f19, _⟩ := hd 19 (by decide)
            replace f19 : x 19 = undef := f19
            rw [f19] at e33
            have e35 : A.tmps[35]? = some (x 21) := by rw [← hA]; exact putsA_in (i := 21) 35 (by rfl) (by show (35 : Nat) < 40; decide) _ (by decide +kernel) (by decide)
            obtain ⟨_, _, _, f21, _⟩ := hd 21 (by decide)
            replace f21 : x 21 = undef := f21
            rw [f21] at e35
            clear hA hd
            refine wpOp_step rfl (fun K' hK' => ?_)
            go_simp
            exact hK' _ _ (hK _ _ ⟨0, 0, 0, rfl, al0⟩ (Below.refl _ _) no_al)
          · generalize hA : putsA _ _ x (0 :: 1 :: 2 :: 3 :: 4 :: 5 :: 6 :: 7 :: 8 :: 9 :: 10 :: 11 :: 12 :: 13 :: 14 :: 15 :: 16 :: 17 :: 18 :: 19 :: 20 :: 21 :: 22 :: 23 :: 24 :: []) = A at *
            have e24 : A.tmps[24]? = some (x 10) := by rw [← hA]; exact putsA_in (i := 10) 24 (by rfl) (by show (24 : Nat) < 40; decide) _ (by decide +kernel) (by decide)
            obtain ⟨_, _, _, f10, _⟩ := hd 10 (by decide)
            replace f10 : x 10 = .bool true := f10
            rw [f10] at e24
            have e27 : A.tmps[27]? = some (x 13) := by rw [← hA]; exact putsA_in (i := 13) 27 (by rfl) (by show (27 : Nat) < 40; decide) _ (by decide +kernel) (by decide)
            obtain ⟨_, _, _, f13, _⟩ := hd 13 (by decide)
            replace f13 : x 13 = undef := f13
            rw [f13] at e27
            have e36 : A.tmps[36]? = some (x 22) := by rw [← hA]; exact putsA_in (i := 22) 36 (by rfl) (by show (36 : Nat) < 40; decide) _ (by decide +kernel) (by decide)
            obtain ⟨_, _, _, f22, _⟩ := hd 22 (by decide)
            replace f22 : x 22 = undef := f22
            rw [f22] at e36
            clear hA hd
            refine wpOp_step rfl (fun K' hK' => ?_)
            go_simp
            exact hK' _ _ (hK _ _ ⟨0, 0, 0, rfl, al0⟩ (Below.refl _ _) no_al)
          · generalize hA : putsA _ _ x (0 :: 1 :: 2 :: 3 :: 4 :: 5 :: 6 :: 7 :: 8 :: 9 :: 10 :: 11 :: 12 :: 13 :: 14 :: 15 :: 16 :: 17 :: 18 :: 19 :: 20 :: 21 :: 22 :: 23 :: 24 :: []) = A at *
            have e24 : A.tmps[24]? = some (x 10) := by rw [← hA]; exact putsA_in (i := 10) 24 (by rfl) (by show (24 : Nat) < 40; decide) _ (by decide +kernel) (by decide)
            obtain ⟨_, _, _, f10, _⟩ := hd 10 (by decide)
            replace f10 : x 10 = .bool true := f10
            rw [f10] at e24
            have e37 : A.tmps[37]? = some (x 23) := by rw [← hA]; exact putsA_in (i := 23) 37 (by rfl) (by show (37 : Nat) < 40; decide) _ (by decide +kernel) (by decide)
            obtain ⟨_, _, _, f23, _⟩ := hd 23 (by decide)
            replace f23 : x 23 = undef := f23
            rw [f23] at e37
            clear hA hd
            refine wpOp_step rfl (fun K' hK' => ?_)
            go_simp
            exact hK' _ _ (hK _ _ ⟨0, 0, 0, rfl, al0⟩ (Below.refl _ _) no_al)
        case hend =>
          intro x W hf hg hb
          have HSE := Lib.hid (bs_below HS.out hb).2.2
          have hl : x 24 = .bool true := by
            obtain ⟨_, _, _, h, _⟩ := hf 24 (by decide)
            exact h
          rw [putsA_lit _ _ (0 :: 1 :: 2 :: 3 :: 4 :: 5 :: 6 :: 7 :: 8 :: 9 :: 10 :: 11 :: 12 :: 13 :: 14 :: 15 :: 16 :: 17 :: 18 :: 19 :: 20 :: 21 :: 22 :: 23 :: 24 :: []) ((14, 0) :: (15, 1) :: (16, 2) :: (17, 3) :: (18, 4) :: (19, 5) :: (20, 6) :: (21, 7) :: (22, 8) :: (23, 9) :: (24, 10) :: (25, 11) :: (26, 12) :: (27, 13) :: (28, 14) :: (29, 15) :: (30, 16) :: (31, 17) :: (32, 18) :: (33, 19) :: (34, 20) :: (35, 21) :: (36, 22) :: (37, 23) :: (38, 24) :: []) (by kernel_rfl)]
          simp only [setAll, ↓reduceIte, Nat.reduceAdd, Nat.reduceEqDiff]
          rw [hl]
          clear hf hl hg hb HS HFC HPP
          refine wpAny_done (by kernel_rfl) ?_ _
          refine NoPanic.normal ?_
          go_wp2
          go_ret
          exact ⟨rbool HR.out.symm, HSE.out⟩

      have hkd : decide (100 < (k.size : Int)) = false := decide_eq_false hk
      have HK := Lib.hid (show (k.size : Int) ≤ 100 by omega)
      clear hk
      obtain ⟨fv, hfv⟩ : ∃ fv, innerB ⟨k, z, lo, p⟩ = fv := ⟨_, rfl⟩
      have HFV := Lib.hid hfv
      clear hfv
      cases fv
      · have HR : Hid (okL innerB none l = false) := Lib.hid (by rw [HQ.out, HFV.out]; simp)
        clear HQ
        obtain ⟨kp, hkp⟩ : ∃ kp : ByteArray, kp = k := ⟨_, rfl⟩
        clear hkp
        refine wp_region_noPanic ?_
        refine wp_region_any (by kernel_rfl) ?_
        refine facts_start (0 :: 1 :: 2 :: 3 :: 4 :: 5 :: 6 :: 7 :: 8 :: 9 :: 10 :: 11 :: 12 :: 13 :: 14 :: 15 :: 16 :: 17 :: 18 :: 19 :: 20 :: 21 :: 22 :: 23 :: 24 :: []) [] D4 (Ft (mkccells_inner2 wr.heap.size b o n c j k kp z lo p) (fun _ _ _ _ => [])) _ _ _ 0 _ #[true, true, true, true, true, true, true, true, true, true, true, true, true, true, true, true, true, true, true, true, true, true, true, true, true] (by kernel_rfl) (by rfl) ft_step no_al' ?hstep ?hend
        case hstep =>
          intro i hi x W hd hb K hK
          have hs := bs_below HS.out hb
          simp only [List.mem_cons, List.not_mem_nil, or_false] at hi
          rcases hi with rfl | rfl | rfl | rfl | rfl | rfl | rfl | rfl | rfl | rfl | rfl | rfl | rfl | rfl | rfl | rfl | rfl | rfl | rfl | rfl | rfl | rfl | rfl | rfl | rfl
          · generalize hA : putsA _ _ x (0 :: 1 :: 2 :: 3 :: 4 :: 5 :: 6 :: 7 :: 8 :: 9 :: 10 :: 11 :: 12 :: 13 :: 14 :: 15 :: 16 :: 17 :: 18 :: 19 :: 20 :: 21 :: 22 :: 23 :: 24 :: []) = A at *
            have e6 : A.tmps[6]? = some (.pointer (some ⟨wr.heap.size, 0, none⟩)) := by rw [← hA]; exact putsA_at 6 _ (by decide +kernel)
            clear hA hd
            refine wpOp_step rfl (fun K' hK' => ?_)
            go_simp
            exact hK' _ _ (hK _ _ ⟨0, 0, 0, rfl, al0⟩ (Below.refl _ _) no_al)
          · generalize hA : putsA _ _ x (0 :: 1 :: 2 :: 3 :: 4 :: 5 :: 6 :: 7 :: 8 :: 9 :: 10 :: 11 :: 12 :: 13 :: 14 :: 15 :: 16 :: 17 :: 18 :: 19 :: 20 :: 21 :: 22 :: 23 :: 24 :: []) = A at *
            have e14 : A.tmps[14]? = some (x 0) := by rw [← hA]; exact putsA_in (i := 0) 14 (by rfl) (by show (14 : Nat) < 40; decide) _ (by decide +kernel) (by decide)
            obtain ⟨_, _, _, f0, _⟩ := hd 0 (by decide)
            replace f0 : x 0 = .pointer (some ⟨wr.heap.size, 0, none⟩) := f0
            rw [f0] at e14
            clear hA hd
            obtain ⟨c0, c1, c2, c3⟩ := cell4 (hs.1 _ (.head _))
            refine wpOp_step rfl (fun K' hK' => ?_)
            go_simp
            exact hK' _ _ (hK _ _ ⟨0, 0, 0, rfl, al0⟩ (Below.refl _ _) no_al)
          · generalize hA : putsA _ _ x (0 :: 1 :: 2 :: 3 :: 4 :: 5 :: 6 :: 7 :: 8 :: 9 :: 10 :: 11 :: 12 :: 13 :: 14 :: 15 :: 16 :: 17 :: 18 :: 19 :: 20 :: 21 :: 22 :: 23 :: 24 :: []) = A at *
            have e15 : A.tmps[15]? = some (x 1) := by rw [← hA]; exact putsA_in (i := 1) 15 (by rfl) (by show (15 : Nat) < 40; decide) _ (by decide +kernel) (by decide)
            obtain ⟨_, _, _, f1, _⟩ := hd 1 (by decide)
            replace f1 : x 1 = .string k := f1
            rw [f1] at e15
            clear hA hd
            refine wpOp_step rfl (fun K' hK' => ?_)
            go_simp
            exact hK' _ _ (hK _ _ ⟨0, 0, 0, rfl, al0⟩ (Below.refl _ _) no_al)
          · generalize hA : putsA _ _ x (0 :: 1 :: 2 :: 3 :: 4 :: 5 :: 6 :: 7 :: 8 :: 9 :: 10 :: 11 :: 12 :: 13 :: 14 :: 15 :: 16 :: 17 :: 18 :: 19 :: 20 :: 21 :: 22 :: 23 :: 24 :: []) = A at *
            have e16 : A.tmps[16]? = some (x 2) := by rw [← hA]; exact putsA_in (i := 2) 16 (by rfl) (by show (16 : Nat) < 40; decide) _ (by decide +kernel) (by decide)
            obtain ⟨_, _, _, f2, _⟩ := hd 2 (by decide)
            replace f2 : x 2 = .int .i64 (k.size : Int) := f2
            rw [f2] at e16
            clear hA hd
            refine wpOp_step rfl (fun K' hK' => ?_)
            go_simp
            exact hK' _ _ (hK _ _ ⟨0, 0, 0, rfl, al0⟩ (Below.refl _ _) no_al)
          · generalize hA : putsA _ _ x (0 :: 1 :: 2 :: 3 :: 4 :: 5 :: 6 :: 7 :: 8 :: 9 :: 10 :: 11 :: 12 :: 13 :: 14 :: 15 :: 16 :: 17 :: 18 :: 19 :: 20 :: 21 :: 22 :: 23 :: 24 :: []) = A at *
            have e17 : A.tmps[17]? = some (x 3) := by rw [← hA]; exact putsA_in (i := 3) 17 (by rfl) (by show (17 : Nat) < 40; decide) _ (by decide +kernel) (by decide)
            obtain ⟨_, _, _, f3, _⟩ := hd 3 (by decide)
            replace f3 : x 3 = .bool false := f3
            rw [f3] at e17
            clear hA hd
            refine wpOp_step rfl (fun K' hK' => ?_)
            go_simp
            exact hK' _ _ (hK _ _ ⟨0, 0, 0, rfl, al0⟩ (Below.refl _ _) no_al)
          · generalize hA : putsA _ _ x (0 :: 1 :: 2 :: 3 :: 4 :: 5 :: 6 :: 7 :: 8 :: 9 :: 10 :: 11 :: 12 :: 13 :: 14 :: 15 :: 16 :: 17 :: 18 :: 19 :: 20 :: 21 :: 22 :: 23 :: 24 :: []) = A at *
            have e1 : A.tmps[1]? = some (.func (.func 55) #[] #[]) := by rw [← hA]; exact putsA_at 1 _ (by decide +kernel)
            have e18 : A.tmps[18]? = some (x 4) := by rw [← hA]; exact putsA_in (i := 4) 18 (by rfl) (by show (18 : Nat) < 40; decide) _ (by decide +kernel) (by decide)
            obtain ⟨_, _, _, f4, _⟩ := hd 4 (by decide)
            replace f4 : x 4 = .bool false := f4
            rw [f4] at e18
            clear hA hd
            refine wpOp_step rfl (fun K' hK' => ?_)
            go_simp
            exact hK' _ _ (hK _ _ ⟨0, 0, 0, rfl, al0⟩ (Below.refl _ _) no_al)
          · generalize hA : putsA _ _ x (0 :: 1 :: 2 :: 3 :: 4 :: 5 :: 6 :: 7 :: 8 :: 9 :: 10 :: 11 :: 12 :: 13 :: 14 :: 15 :: 16 :: 17 :: 18 :: 19 :: 20 :: 21 :: 22 :: 23 :: 24 :: []) = A at *
            have e6 : A.tmps[6]? = some (.pointer (some ⟨wr.heap.size, 0, none⟩)) := by rw [← hA]; exact putsA_at 6 _ (by decide +kernel)
            have e18 : A.tmps[18]? = some (x 4) := by rw [← hA]; exact putsA_in (i := 4) 18 (by rfl) (by show (18 : Nat) < 40; decide) _ (by decide +kernel) (by decide)
            obtain ⟨_, _, _, f4, _⟩ := hd 4 (by decide)
            replace f4 : x 4 = .bool false := f4
            rw [f4] at e18
            clear hA hd
            obtain ⟨c0, c1, c2, c3⟩ := cell4 (hs.1 _ (.head _))
            refine wpOp_step rfl (fun K' hK' => ?_)
            go_simp
            exact hK' _ _ (hK _ _ ⟨0, 0, 0, rfl, al0⟩ (Below.refl _ _) no_al)
          · generalize hA : putsA _ _ x (0 :: 1 :: 2 :: 3 :: 4 :: 5 :: 6 :: 7 :: 8 :: 9 :: 10 :: 11 :: 12 :: 13 :: 14 :: 15 :: 16 :: 17 :: 18 :: 19 :: 20 :: 21 :: 22 :: 23 :: 24 :: []) = A at *
            have e18 : A.tmps[18]? = some (x 4) := by rw [← hA]; exact putsA_in (i := 4) 18 (by rfl) (by show (18 : Nat) < 40; decide) _ (by decide +kernel) (by decide)
            obtain ⟨_, _, _, f4, _⟩ := hd 4 (by decide)
            replace f4 : x 4 = .bool false := f4
            rw [f4] at e18
            have e19 : A.tmps[19]? = some (x 5) := by rw [← hA]; exact putsA_in (i := 5) 19 (by rfl) (by show (19 : Nat) < 40; decide) _ (by decide +kernel) (by decide)
            obtain ⟨_, _, _, f5, _⟩ := hd 5 (by decide)
            replace f5 : x 5 = .func (.func 55) #[] #[] := f5
            rw [f5] at e19
            have e20 : A.tmps[20]? = some (x 6) := by rw [← hA]; exact putsA_in (i := 6) 20 (by rfl) (by show (20 : Nat) < 40; decide) _ (by decide +kernel) (by decide)
            obtain ⟨_, _, _, f6, _⟩ := hd 6 (by decide)
            replace f6 : x 6 = .agg #[.string k, .int .i64 z, .string lo, .int .i64 p] := f6
            rw [f6] at e20
            clear hA hd
            refine wpOp_step rfl (fun K' hK' => ?_)
            go_simp
            refine (HFC.out W).mono ?_
            rw [HFV]
            rintro e w6 ⟨rfl, hb6⟩
            exact hK' _ _ (hK _ _ ⟨0, 0, 0, rfl, al0⟩ hb6 no_al)
          · generalize hA : putsA _ _ x (0 :: 1 :: 2 :: 3 :: 4 :: 5 :: 6 :: 7 :: 8 :: 9 :: 10 :: 11 :: 12 :: 13 :: 14 :: 15 :: 16 :: 17 :: 18 :: 19 :: 20 :: 21 :: 22 :: 23 :: 24 :: []) = A at *
            have e18 : A.tmps[18]? = some (x 4) := by rw [← hA]; exact putsA_in (i := 4) 18 (by rfl) (by show (18 : Nat) < 40; decide) _ (by decide +kernel) (by decide)
            obtain ⟨_, _, _, f4, _⟩ := hd 4 (by decide)
            replace f4 : x 4 = .bool false := f4
            rw [f4] at e18
            have e21 : A.tmps[21]? = some (x 7) := by rw [← hA]; exact putsA_in (i := 7) 21 (by rfl) (by show (21 : Nat) < 40; decide) _ (by decide +kernel) (by decide)
            obtain ⟨_, _, _, f7, _⟩ := hd 7 (by decide)
            replace f7 : x 7 = .bool false := f7
            rw [f7] at e21
            clear hA hd
            refine wpOp_step rfl (fun K' hK' => ?_)
            go_simp
            exact hK' _ _ (hK _ _ ⟨0, 0, 0, rfl, al0⟩ (Below.refl _ _) no_al)
          · generalize hA : putsA _ _ x (0 :: 1 :: 2 :: 3 :: 4 :: 5 :: 6 :: 7 :: 8 :: 9 :: 10 :: 11 :: 12 :: 13 :: 14 :: 15 :: 16 :: 17 :: 18 :: 19 :: 20 :: 21 :: 22 :: 23 :: 24 :: []) = A at *
            have e18 : A.tmps[18]? = some (x 4) := by rw [← hA]; exact putsA_in (i := 4) 18 (by rfl) (by show (18 : Nat) < 40; decide) _ (by decide +kernel) (by decide)
            obtain ⟨_, _, _, f4, _⟩ := hd 4 (by decide)
            replace f4 : x 4 = .bool false := f4
            rw [f4] at e18
            have e22 : A.tmps[22]? = some (x 8) := by rw [← hA]; exact putsA_in (i := 8) 22 (by rfl) (by show (22 : Nat) < 40; decide) _ (by decide +kernel) (by decide)
            obtain ⟨_, _, _, f8, _⟩ := hd 8 (by decide)
            replace f8 : x 8 = .bool true := f8
            rw [f8] at e22
            clear hA hd
            refine wpOp_step rfl (fun K' hK' => ?_)
            go_simp
            exact hK' _ _ (hK _ _ ⟨0, 0, 0, rfl, al0⟩ (Below.refl _ _) no_al)
          · generalize hA : putsA _ _ x (0 :: 1 :: 2 :: 3 :: 4 :: 5 :: 6 :: 7 :: 8 :: 9 :: 10 :: 11 :: 12 :: 13 :: 14 :: 15 :: 16 :: 17 :: 18 :: 19 :: 20 :: 21 :: 22 :: 23 :: 24 :: []) = A at *
            have e23 : A.tmps[23]? = some (x 9) := by rw [← hA]; exact putsA_in (i := 9) 23 (by rfl) (by show (23 : Nat) < 40; decide) _ (by decide +kernel) (by decide)
            obtain ⟨_, _, _, f9, _⟩ := hd 9 (by decide)
            replace f9 : x 9 = .bool true := f9
            rw [f9] at e23
            clear hA hd
            refine wpOp_step rfl (fun K' hK' => ?_)
            go_simp
            exact hK' _ _ (hK _ _ ⟨0, 0, 0, rfl, al0⟩ (Below.refl _ _) no_al)
          · generalize hA : putsA _ _ x (0 :: 1 :: 2 :: 3 :: 4 :: 5 :: 6 :: 7 :: 8 :: 9 :: 10 :: 11 :: 12 :: 13 :: 14 :: 15 :: 16 :: 17 :: 18 :: 19 :: 20 :: 21 :: 22 :: 23 :: 24 :: []) = A at *
            have e5 : A.tmps[5]? = some (.int .i64 (j : Int)) := by rw [← hA]; exact putsA_at 5 _ (by decide +kernel)
            have e24 : A.tmps[24]? = some (x 10) := by rw [← hA]; exact putsA_in (i := 10) 24 (by rfl) (by show (24 : Nat) < 40; decide) _ (by decide +kernel) (by decide)
            obtain ⟨_, _, _, f10, _⟩ := hd 10 (by decide)
            replace f10 : x 10 = .bool true := f10
            rw [f10] at e24
            clear hA hd
            refine wpOp_step rfl (fun K' hK' => ?_)
            go_simp
            exact hK' _ _ (hK _ _ ⟨0, 0, 0, rfl, al0⟩ (Below.refl _ _) no_al)
          · generalize hA : putsA _ _ x (0 :: 1 :: 2 :: 3 :: 4 :: 5 :: 6 :: 7 :: 8 :: 9 :: 10 :: 11 :: 12 :: 13 :: 14 :: 15 :: 16 :: 17 :: 18 :: 19 :: 20 :: 21 :: 22 :: 23 :: 24 :: []) = A at *
            have e24 : A.tmps[24]? = some (x 10) := by rw [← hA]; exact putsA_in (i := 10) 24 (by rfl) (by show (24 : Nat) < 40; decide) _ (by decide +kernel) (by decide)
            obtain ⟨_, _, _, f10, _⟩ := hd 10 (by decide)
            replace f10 : x 10 = .bool true := f10
            rw [f10] at e24
            have e25 : A.tmps[25]? = some (x 11) := by rw [← hA]; exact putsA_in (i := 11) 25 (by rfl) (by show (25 : Nat) < 40; decide) _ (by decide +kernel) (by decide)
            obtain ⟨_, _, _, f11, _⟩ := hd 11 (by decide)
            replace f11 : x 11 = undef := f11
            rw [f11] at e25
            clear hA hd
            refine wpOp_step rfl (fun K' hK' => ?_)
            go_simp
            exact hK' _ _ (hK _ _ ⟨0, 0, 0, rfl, al0⟩ (Below.refl _ _) no_al)
          · generalize hA : putsA _ _ x (0 :: 1 :: 2 :: 3 :: 4 :: 5 :: 6 :: 7 :: 8 :: 9 :: 10 :: 11 :: 12 :: 13 :: 14 :: 15 :: 16 :: 17 :: 18 :: 19 :: 20 :: 21 :: 22 :: 23 :: 24 :: []) = A at *
            have e24 : A.tmps[24]? = some (x 10) := by rw [← hA]; exact putsA_in (i := 10) 24 (by rfl) (by show (24 : Nat) < 40; decide) _ (by decide +kernel) (by decide)
            obtain ⟨_, _, _, f10, _⟩ := hd 10 (by decide)
            replace f10 : x 10 = .bool true := f10
            rw [f10] at e24
            have e26 : A.tmps[26]? = some (x 12) := by rw [← hA]; exact putsA_in (i := 12) 26 (by rfl) (by show (26 : Nat) < 40; decide) _ (by decide +kernel) (by decide)
            obtain ⟨_, _, _, f12, _⟩ := hd 12 (by decide)
            replace f12 : x 12 = undef := f12
            rw [f12] at e26
            clear hA hd
            refine wpOp_step rfl (fun K' hK' => ?_)
            go_simp
            exact hK' _ _ (hK _ _ ⟨0, 0, 0, rfl, al0⟩ (Below.refl _ _) no_al)
          · generalize hA : putsA _ _ x (0 :: 1 :: 2 :: 3 :: 4 :: 5 :: 6 :: 7 :: 8 :: 9 :: 10 :: 11 :: 12 :: 13 :: 14 :: 15 :: 16 :: 17 :: 18 :: 19 :: 20 :: 21 :: 22 :: 23 :: 24 :: []) = A at *
            have e0 : A.tmps[0]? = some (.slice (some ⟨b, o, none⟩) n c) := by rw [← hA]; exact putsA_at 0 _ (by decide +kernel)
            have e27 : A.tmps[27]? = some (x 13) := by rw [← hA]; exact putsA_in (i := 13) 27 (by rfl) (by show (27 : Nat) < 40; decide) _ (by decide +kernel) (by decide)
            obtain ⟨_, _, _, f13, _⟩ := hd 13 (by decide)
            replace f13 : x 13 = undef := f13
            rw [f13] at e27
            clear hA hd
            refine wpOp_step rfl (fun K' hK' => ?_)
            go_simp
            exact hK' _ _ (hK _ _ ⟨0, 0, 0, rfl, al0⟩ (Below.refl _ _) no_al)
          · generalize hA : putsA _ _ x (0 :: 1 :: 2 :: 3 :: 4 :: 5 :: 6 :: 7 :: 8 :: 9 :: 10 :: 11 :: 12 :: 13 :: 14 :: 15 :: 16 :: 17 :: 18 :: 19 :: 20 :: 21 :: 22 :: 23 :: 24 :: []) = A at *
            have e5 : A.tmps[5]? = some (.int .i64 (j : Int)) := by rw [← hA]; exact putsA_at 5 _ (by decide +kernel)
            have e27 : A.tmps[27]? = some (x 13) := by rw [← hA]; exact putsA_in (i := 13) 27 (by rfl) (by show (27 : Nat) < 40; decide) _ (by decide +kernel) (by decide)
            obtain ⟨_, _, _, f13, _⟩ := hd 13 (by decide)
            replace f13 : x 13 = undef := f13
            rw [f13] at e27
            clear hA hd
            refine wpOp_step rfl (fun K' hK' => ?_)
            go_simp
            exact hK' _ _ (hK _ _ ⟨0, 0, 0, rfl, al0⟩ (Below.refl _ _) no_al)
          · generalize hA : putsA _ _ x (0 :: 1 :: 2 :: 3 :: 4 :: 5 :: 6 :: 7 :: 8 :: 9 :: 10 :: 11 :: 12 :: 13 :: 14 :: 15 :: 16 :: 17 :: 18 :: 19 :: 20 :: 21 :: 22 :: 23 :: 24 :: []) = A at *
            have e27 : A.tmps[27]? = some (x 13) := by rw [← hA]; exact putsA_in (i := 13) 27 (by rfl) (by show (27 : Nat) < 40; decide) _ (by decide +kernel) (by decide)
            obtain ⟨_, _, _, f13, _⟩ := hd 13 (by decide)
            replace f13 : x 13 = undef := f13
            rw [f13] at e27
            have e29 : A.tmps[29]? = some (x 15) := by rw [← hA]; exact putsA_in (i := 15) 29 (by rfl) (by show (29 : Nat) < 40; decide) _ (by decide +kernel) (by decide)
            obtain ⟨_, _, _, f15, _⟩ := hd 15 (by decide)
            replace f15 : x 15 = undef := f15
            rw [f15] at e29
            clear hA hd
            refine wpOp_step rfl (fun K' hK' => ?_)
            go_simp
            exact hK' _ _ (hK _ _ ⟨0, 0, 0, rfl, al0⟩ (Below.refl _ _) no_al)
          · generalize hA : putsA _ _ x (0 :: 1 :: 2 :: 3 :: 4 :: 5 :: 6 :: 7 :: 8 :: 9 :: 10 :: 11 :: 12 :: 13 :: 14 :: 15 :: 16 :: 17 :: 18 :: 19 :: 20 :: 21 :: 22 :: 23 :: 24 :: []) = A at *
            have e27 : A.tmps[27]? = some (x 13) := by rw [← hA]; exact putsA_in (i := 13) 27 (by rfl) (by show (27 : Nat) < 40; decide) _ (by decide +kernel) (by decide)
            obtain ⟨_, _, _, f13, _⟩ := hd 13 (by decide)
            replace f13 : x 13 = undef := f13
            rw [f13] at e27
            have e28 : A.tmps[28]? = some (x 14) := by rw [← hA]; exact putsA_in (i := 14) 28 (by rfl) (by show (28 : Nat) < 40; decide) _ (by decide +kernel) (by decide)
            obtain ⟨_, _, _, f14, _⟩ := hd 14 (by decide)
            replace f14 : x 14 = undef := f14
            rw [f14] at e28
            have e30 : A.tmps[30]? = some (x 16) := by rw [← hA]; exact putsA_in (i := 16) 30 (by rfl) (by show (30 : Nat) < 40; decide) _ (by decide +kernel) (by decide)
            obtain ⟨_, _, _, f16, _⟩ := hd 16 (by decide)
            replace f16 : x 16 = undef := f16
            rw [f16] at e30
            clear hA hd
            refine wpOp_step rfl (fun K' hK' => ?_)
            go_simp
            exact hK' _ _ (hK _ _ ⟨0, 0, 0, rfl, al0⟩ (Below.refl _ _) no_al)
          · generalize hA : putsA _ _ x (0 :: 1 :: 2 :: 3 :: 4 :: 5 :: 6 :: 7 :: 8 :: 9 :: 10 :: 11 :: 12 :: 13 :: 14 :: 15 :: 16 :: 17 :: 18 :: 19 :: 20 :: 21 :: 22 :: 23 :: 24 :: []) = A at *
            have e27 : A.tmps[27]? = some (x 13) := by rw [← hA]; exact putsA_in (i := 13) 27 (by rfl) (by show (27 : Nat) < 40; decide) _ (by decide +kernel) (by decide)
            obtain ⟨_, _, _, f13, _⟩ := hd 13 (by decide)
            replace f13 : x 13 = undef := f13
            rw [f13] at e27
            have e31 : A.tmps[31]? = some (x 17) := by rw [← hA]; exact putsA_in (i := 17) 31 (by rfl) (by show (31 : Nat) < 40; decide) _ (by decide +kernel) (by decide)
            obtain ⟨_, _, _, f17, _⟩ := hd 17 (by decide)
            replace f17 : x 17 = undef := f17
            rw [f17] at e31
            clear hA hd
            refine wpOp_step rfl (fun K' hK' => ?_)
            go_simp
            exact hK' _ _ (hK _ _ ⟨0, 0, 0, rfl, al0⟩ (Below.refl _ _) no_al)
          · generalize hA : putsA _ _ x (0 :: 1 :: 2 :: 3 :: 4 :: 5 :: 6 :: 7 :: 8 :: 9 :: 10 :: 11 :: 12 :: 13 :: 14 :: 15 :: 16 :: 17 :: 18 :: 19 :: 20 :: 21 :: 22 :: 23 :: 24 :: []) = A at *
            have e27 : A.tmps[27]? = some (x 13) := by rw [← hA]; exact putsA_in (i := 13) 27 (by rfl) (by show (27 : Nat) < 40; decide) _ (by decide +kernel) (by decide)
            obtain ⟨_, _, _, f13, _⟩ := hd 13 (by decide)
            replace f13 : x 13 = undef := f13
            rw [f13] at e27
            have e32 : A.tmps[32]? = some (x 18) := by rw [← hA]; exact putsA_in (i := 18) 32 (by rfl) (by show (32 : Nat) < 40; decide) _ (by decide +kernel) (by decide)
            obtain ⟨_, _, _, f18, _⟩ := hd 18 (by decide)
            replace f18 : x 18 = undef := f18
            rw [f18] at e32
            clear hA hd
            refine wpOp_step rfl (fun K' hK' => ?_)
            go_simp
            exact hK' _ _ (hK _ _ ⟨0, 0, 0, rfl, al0⟩ (Below.refl _ _) no_al)
          · generalize hA : putsA _ _ x (0 :: 1 :: 2 :: 3 :: 4 :: 5 :: 6 :: 7 :: 8 :: 9 :: 10 :: 11 :: 12 :: 13 :: 14 :: 15 :: 16 :: 17 :: 18 :: 19 :: 20 :: 21 :: 22 :: 23 :: 24 :: []) = A at *
            have e6 : A.tmps[6]? = some (.pointer (some ⟨wr.heap.size, 0, none⟩)) := by rw [← hA]; exact putsA_at 6 _ (by decide +kernel)
            have e27 : A.tmps[27]? = some (x 13) := by rw [← hA]; exact putsA_in (i := 13) 27 (by rfl) (by show (27 : Nat) < 40; decide) _ (by decide +kernel) (by decide)
            obtain ⟨_, _, _, f13, _⟩ := hd 13 (by decide)
            replace f13 : x 13 = undef := f13
            rw [f13] at e27
            clear hA hd
            refine wpOp_step rfl (fun K' hK' => ?_)
            go_simp
            exact hK' _ _ (hK _ _ ⟨0, 0, 0, rfl, al0⟩ (Below.refl _ _) no_al)
          · generalize hA : putsA _ _ x (0 :: 1 :: 2 :: 3 :: 4 :: 5 :: 6 :: 7 :: 8 :: 9 :: 10 :: 11 :: 12 :: 13 :: 14 :: 15 :: 16 :: 17 :: 18 :: 19 :: 20 :: 21 :: 22 :: 23 :: 24 :: []) = A at *
            have e27 : A.tmps[27]? = some (x 13) := by rw [← hA]; exact putsA_in (i := 13) 27 (by rfl) (by show (27 : Nat) < 40; decide) _ (by decide +kernel) (by decide)
            obtain ⟨_, _, _, f13, _⟩ := hd 13 (by decide)
            replace f13 : x 13 = undef := f13
            rw [f13] at e27
            have e34 : A.tmps[34]? = some (x 20) := by rw [← hA]; exact putsA_in (i := 20) 34 (by rfl) (by show (34 : Nat) < 40; decide) _ (by decide +kernel) (by decide)
            obtain ⟨_, _, _, f20, _⟩ := hd 20 (by decide)
            replace f20 : x 20 = undef := f20
            rw [f20] at e34
            clear hA hd
            obtain ⟨c0, c1, c2, c3⟩ := cell4 (hs.1 _ (.head _))
            refine wpOp_step rfl (fun K' hK' => ?_)
            go_simp
            exact hK' _ _ (hK _ _ ⟨0, 0, 0, rfl, al0⟩ (Below.refl _ _) no_al)
          · generalize hA : putsA _ _ x (0 :: 1 :: 2 :: 3 :: 4 :: 5 :: 6 :: 7 :: 8 :: 9 :: 10 :: 11 :: 12 :: 13 :: 14 :: 15 :: 16 :: 17 :: 18 :: 19 :: 20 :: 21 :: 22 :: 23 :: 24 :: []) = A at *
            have e27 : A.tmps[27]? = some (x 13) := by rw [← hA]; exact putsA_in (i := 13) 27 (by rfl) (by show (27 : Nat) < 40; decide) _ (by decide +kernel) (by decide)
            obtain ⟨_, _, _, f13, _⟩ := hd 13 (by decide)
            replace f13 : x 13 = undef := f13
            rw [f13] at e27
            have e33 : A.tmps[33]? = some (x 19) := by rw [← hA]; exact putsA_in (i := 19) 33 (by rfl) (by show (33 : Nat) < 40; decide) _ (by decide +kernel) (by decide)
            obtain ⟨_, _, _, f19, _⟩ := hd 19 (by decide)
            replace f19 : x 19 = undef := f19
            rw [f19] at e33
            have e35 : A.tmps[35]? = some (x 21) := by rw [← hA]; exact putsA_in (i := 21) 35 (by rfl) (by show (35 : Nat) < 40; decide) _ (by decide +kernel) (by decide)
            obtain ⟨_, _, _, f21, _⟩ := hd 21 (by decide)
            replace f21 : x 21 = undef := f21
            rw [f21] at e35
            clear hA hd
            refine wpOp_step rfl (fun K' hK' => ?_)
            go_simp
            exact hK' _ _ (hK _ _ ⟨0, 0, 0, rfl, al0⟩ (Below.refl _ _) no_al)
          · generalize hA : putsA _ _ x (0 :: 1 :: 2 :: 3 :: 4 :: 5 :: 6 :: 7 :: 8 :: 9 :: 10 :: 11 :: 12 :: 13 :: 14 :: 15 :: 16 :: 17 :: 18 :: 19 :: 20 :: 21 :: 22 :: 23 :: 24 :: []) = A at *
            have e24 : A.tmps[24]? = some (x 10) := by rw [← hA]; exact putsA_in (i := 10) 24 (by rfl) (by show (24 : Nat) < 40; decide) _ (by decide +kernel) (by decide)
            obtain ⟨_, _, _, f10, _⟩ := hd 10 (by decide)
            replace f10 : x 10 = .bool true := f10
            rw [f10] at e24
            have e27 : A.tmps[27]? = some (x 13) := by rw [← hA]; exact putsA_in (i := 13) 27 (by rfl) (by show (27 : Nat) < 40; decide) _ (by decide +kernel) (by decide)
            obtain ⟨_, _, _, f13, _⟩ := hd 13 (by decide)
            replace f13 : x 13 = undef := f13
            rw [f13] at e27
            have e36 : A.tmps[36]? = some (x 22) := by rw [← hA]; exact putsA_in (i := 22) 36 (by rfl) (by show (36 : Nat) < 40; decide) _ (by decide +kernel) (by decide)
            obtain ⟨_, _, _, f22, _⟩ := hd 22 (by decide)
            replace f22 : x 22 = undef := f22
            rw [f22] at e36
            clear hA hd
            refine wpOp_step rfl (fun K' hK' => ?_)
            go_simp
            exact hK' _ _ (hK _ _ ⟨0, 0, 0, rfl, al0⟩ (Below.refl _ _) no_al)
          · generalize hA : putsA _ _ x (0 :: 1 :: 2 :: 3 :: 4 :: 5 :: 6 :: 7 :: 8 :: 9 :: 10 :: 11 :: 12 :: 13 :: 14 :: 15 :: 16 :: 17 :: 18 :: 19 :: 20 :: 21 :: 22 :: 23 :: 24 :: []) = A at *
            have e24 : A.tmps[24]? = some (x 10) := by rw [← hA]; exact putsA_in (i := 10) 24 (by rfl) (by show (24 : Nat) < 40; decide) _ (by decide +kernel) (by decide)
            obtain ⟨_, _, _, f10, _⟩ := hd 10 (by decide)
            replace f10 : x 10 = .bool true := f10
            rw [f10] at e24
            have e37 : A.tmps[37]? = some (x 23) := by rw [← hA]; exact putsA_in (i := 23) 37 (by rfl) (by show (37 : Nat) < 40; decide) _ (by decide +kernel) (by decide)
            obtain ⟨_, _, _, f23, _⟩ := hd 23 (by decide)
            replace f23 : x 23 = undef := f23
            rw [f23] at e37
            clear hA hd
            refine wpOp_step rfl (fun K' hK' => ?_)
            go_simp
            exact hK' _ _ (hK _ _ ⟨0, 0, 0, rfl, al0⟩ (Below.refl _ _) no_al)
        case hend =>
          intro x W hf hg hb
          have HSE := Lib.hid (bs_below HS.out hb).2.2
          have hl : x 24 = .bool true := by
            obtain ⟨_, _, _, h, _⟩ := hf 24 (by decide)
            exact h
          rw [putsA_lit _ _ (0 :: 1 :: 2 :: 3 :: 4 :: 5 :: 6 :: 7 :: 8 :: 9 :: 10 :: 11 :: 12 :: 13 :: 14 :: 15 :: 16 :: 17 :: 18 :: 19 :: 20 :: 21 :: 22 :: 23 :: 24 :: []) ((14, 0) :: (15, 1) :: (16, 2) :: (17, 3) :: (18, 4) :: (19, 5) :: (20, 6) :: (21, 7) :: (22, 8) :: (23, 9) :: (24, 10) :: (25, 11) :: (26, 12) :: (27, 13) :: (28, 14) :: (29, 15) :: (30, 16) :: (31, 17) :: (32, 18) :: (33, 19) :: (34, 20) :: (35, 21) :: (36, 22) :: (37, 23) :: (38, 24) :: []) (by kernel_rfl)]
          simp only [setAll, ↓reduceIte, Nat.reduceAdd, Nat.reduceEqDiff]
          rw [hl]
          clear hf hl hg hb HS HFC HPP
          refine wpAny_done (by kernel_rfl) ?_ _
          refine NoPanic.normal ?_
          go_wp2
          go_ret
          exact ⟨rbool HR.out.symm, HSE.out⟩

      by_cases hj0 : j = 0
      · have HR : Hid (okL innerB none l = okL innerB (prevK l (j + 1)) (l.drop (j + 1))) := Lib.hid (by rw [HQ.out, HFV.out, HPS.out, decide_eq_true HK.out, show prevK l j = none by rw [hj0]; rfl]; simp)
        clear HQ
        have hjd : decide (0 < j) = false := decide_eq_false (by omega)
        have hjd' : decide ((0 : Int) < (j : Int)) = false := decide_eq_false (by omega)
        obtain ⟨kp, hkp⟩ : ∃ kp : ByteArray, kp = k := ⟨_, rfl⟩
        clear hkp hj0
        refine wp_region_noPanic ?_
        refine wp_region_any (by kernel_rfl) ?_
        refine facts_start (0 :: 1 :: 2 :: 3 :: 4 :: 5 :: 6 :: 7 :: 8 :: 9 :: 10 :: 11 :: 12 :: 13 :: 14 :: 15 :: 16 :: 17 :: 18 :: 19 :: 20 :: 21 :: 22 :: 23 :: 24 :: []) [] D4 (Ft (mkccells_inner3 wr.heap.size b o n c j k kp z lo p) (fun _ _ _ _ => [])) _ _ _ 0 _ #[true, true, true, true, true, true, true, true, true, true, true, true, true, true, true, true, true, true, true, true, true, true, true, true, true] (by kernel_rfl) (by rfl) ft_step no_al' ?hstep ?hend
        case hstep =>
          intro i hi x W hd hb K hK
          have hs := bs_below HS.out hb
          simp only [List.mem_cons, List.not_mem_nil, or_false] at hi
          rcases hi with rfl | rfl | rfl | rfl | rfl | rfl | rfl | rfl | rfl | rfl | rfl | rfl | rfl | rfl | rfl | rfl | rfl | rfl | rfl | rfl | rfl | rfl | rfl | rfl | rfl
          · generalize hA : putsA _ _ x (0 :: 1 :: 2 :: 3 :: 4 :: 5 :: 6 :: 7 :: 8 :: 9 :: 10 :: 11 :: 12 :: 13 :: 14 :: 15 :: 16 :: 17 :: 18 :: 19 :: 20 :: 21 :: 22 :: 23 :: 24 :: []) = A at *
            have e6 : A.tmps[6]? = some (.pointer (some ⟨wr.heap.size, 0, none⟩)) := by rw [← hA]; exact putsA_at 6 _ (by decide +kernel)
            clear hA hd
            refine wpOp_step rfl (fun K' hK' => ?_)
            go_simp
            exact hK' _ _ (hK _ _ ⟨0, 0, 0, rfl, al0⟩ (Below.refl _ _) no_al)
          · generalize hA : putsA _ _ x (0 :: 1 :: 2 :: 3 :: 4 :: 5 :: 6 :: 7 :: 8 :: 9 :: 10 :: 11 :: 12 :: 13 :: 14 :: 15 :: 16 :: 17 :: 18 :: 19 :: 20 :: 21 :: 22 :: 23 :: 24 :: []) = A at *
            have e14 : A.tmps[14]? = some (x 0) := by rw [← hA]; exact putsA_in (i := 0) 14 (by rfl) (by show (14 : Nat) < 40; decide) _ (by decide +kernel) (by decide)
            obtain ⟨_, _, _, f0, _⟩ := hd 0 (by decide)
            replace f0 : x 0 = .pointer (some ⟨wr.heap.size, 0, none⟩) := f0
            rw [f0] at e14
            clear hA hd
            obtain ⟨c0, c1, c2, c3⟩ := cell4 (hs.1 _ (.head _))
            refine wpOp_step rfl (fun K' hK' => ?_)
            go_simp
            exact hK' _ _ (hK _ _ ⟨0, 0, 0, rfl, al0⟩ (Below.refl _ _) no_al)
          · generalize hA : putsA _ _ x (0 :: 1 :: 2 :: 3 :: 4 :: 5 :: 6 :: 7 :: 8 :: 9 :: 10 :: 11 :: 12 :: 13 :: 14 :: 15 :: 16 :: 17 :: 18 :: 19 :: 20 :: 21 :: 22 :: 23 :: 24 :: []) = A at *
            have e15 : A.tmps[15]? = some (x 1) := by rw [← hA]; exact putsA_in (i := 1) 15 (by rfl) (by show (15 : Nat) < 40; decide) _ (by decide +kernel) (by decide)
            obtain ⟨_, _, _, f1, _⟩ := hd 1 (by decide)
            replace f1 : x 1 = .string k := f1
            rw [f1] at e15
            clear hA hd
            refine wpOp_step rfl (fun K' hK' => ?_)
            go_simp
            exact hK' _ _ (hK _ _ ⟨0, 0, 0, rfl, al0⟩ (Below.refl _ _) no_al)
          · generalize hA : putsA _ _ x (0 :: 1 :: 2 :: 3 :: 4 :: 5 :: 6 :: 7 :: 8 :: 9 :: 10 :: 11 :: 12 :: 13 :: 14 :: 15 :: 16 :: 17 :: 18 :: 19 :: 20 :: 21 :: 22 :: 23 :: 24 :: []) = A at *
            have e16 : A.tmps[16]? = some (x 2) := by rw [← hA]; exact putsA_in (i := 2) 16 (by rfl) (by show (16 : Nat) < 40; decide) _ (by decide +kernel) (by decide)
            obtain ⟨_, _, _, f2, _⟩ := hd 2 (by decide)
            replace f2 : x 2 = .int .i64 (k.size : Int) := f2
            rw [f2] at e16
            clear hA hd
            refine wpOp_step rfl (fun K' hK' => ?_)
            go_simp
            exact hK' _ _ (hK _ _ ⟨0, 0, 0, rfl, al0⟩ (Below.refl _ _) no_al)
          · generalize hA : putsA _ _ x (0 :: 1 :: 2 :: 3 :: 4 :: 5 :: 6 :: 7 :: 8 :: 9 :: 10 :: 11 :: 12 :: 13 :: 14 :: 15 :: 16 :: 17 :: 18 :: 19 :: 20 :: 21 :: 22 :: 23 :: 24 :: []) = A at *
            have e17 : A.tmps[17]? = some (x 3) := by rw [← hA]; exact putsA_in (i := 3) 17 (by rfl) (by show (17 : Nat) < 40; decide) _ (by decide +kernel) (by decide)
            obtain ⟨_, _, _, f3, _⟩ := hd 3 (by decide)
            replace f3 : x 3 = .bool false := f3
            rw [f3] at e17
            clear hA hd
            refine wpOp_step rfl (fun K' hK' => ?_)
            go_simp
            exact hK' _ _ (hK _ _ ⟨0, 0, 0, rfl, al0⟩ (Below.refl _ _) no_al)
          · generalize hA : putsA _ _ x (0 :: 1 :: 2 :: 3 :: 4 :: 5 :: 6 :: 7 :: 8 :: 9 :: 10 :: 11 :: 12 :: 13 :: 14 :: 15 :: 16 :: 17 :: 18 :: 19 :: 20 :: 21 :: 22 :: 23 :: 24 :: []) = A at *
            have e1 : A.tmps[1]? = some (.func (.func 55) #[] #[]) := by rw [← hA]; exact putsA_at 1 _ (by decide +kernel)
            have e18 : A.tmps[18]? = some (x 4) := by rw [← hA]; exact putsA_in (i := 4) 18 (by rfl) (by show (18 : Nat) < 40; decide) _ (by decide +kernel) (by decide)
            obtain ⟨_, _, _, f4, _⟩ := hd 4 (by decide)
            replace f4 : x 4 = .bool false := f4
            rw [f4] at e18
            clear hA hd
            refine wpOp_step rfl (fun K' hK' => ?_)
            go_simp
            exact hK' _ _ (hK _ _ ⟨0, 0, 0, rfl, al0⟩ (Below.refl _ _) no_al)
          · generalize hA : putsA _ _ x (0 :: 1 :: 2 :: 3 :: 4 :: 5 :: 6 :: 7 :: 8 :: 9 :: 10 :: 11 :: 12 :: 13 :: 14 :: 15 :: 16 :: 17 :: 18 :: 19 :: 20 :: 21 :: 22 :: 23 :: 24 :: []) = A at *
            have e6 : A.tmps[6]? = some (.pointer (some ⟨wr.heap.size, 0, none⟩)) := by rw [← hA]; exact putsA_at 6 _ (by decide +kernel)
            have e18 : A.tmps[18]? = some (x 4) := by rw [← hA]; exact putsA_in (i := 4) 18 (by rfl) (by show (18 : Nat) < 40; decide) _ (by decide +kernel) (by decide)
            obtain ⟨_, _, _, f4, _⟩ := hd 4 (by decide)
            replace f4 : x 4 = .bool false := f4
            rw [f4] at e18
            clear hA hd
            obtain ⟨c0, c1, c2, c3⟩ := cell4 (hs.1 _ (.head _))
            refine wpOp_step rfl (fun K' hK' => ?_)
            go_simp
            exact hK' _ _ (hK _ _ ⟨0, 0, 0, rfl, al0⟩ (Below.refl _ _) no_al)
          · generalize hA : putsA _ _ x (0 :: 1 :: 2 :: 3 :: 4 :: 5 :: 6 :: 7 :: 8 :: 9 :: 10 :: 11 :: 12 :: 13 :: 14 :: 15 :: 16 :: 17 :: 18 :: 19 :: 20 :: 21 :: 22 :: 23 :: 24 :: []) = A at *
            have e18 : A.tmps[18]? = some (x 4) := by rw [← hA]; exact putsA_in (i := 4) 18 (by rfl) (by show (18 : Nat) < 40; decide) _ (by decide +kernel) (by decide)
            obtain ⟨_, _, _, f4, _⟩ := hd 4 (by decide)
            replace f4 : x 4 = .bool false := f4
            rw [f4] at e18
            have e19 : A.tmps[19]? = some (x 5) := by rw [← hA]; exact putsA_in (i := 5) 19 (by rfl) (by show (19 : Nat) < 40; decide) _ (by decide +kernel) (by decide)
            obtain ⟨_, _, _, f5, _⟩ := hd 5 (by decide)
            replace f5 : x 5 = .func (.func 55) #[] #[] := f5
            rw [f5] at e19
            have e20 : A.tmps[20]? = some (x 6) := by rw [← hA]; exact putsA_in (i := 6) 20 (by rfl) (by show (20 : Nat) < 40; decide) _ (by decide +kernel) (by decide)
            obtain ⟨_, _, _, f6, _⟩ := hd 6 (by decide)
            replace f6 : x 6 = .agg #[.string k, .int .i64 z, .string lo, .int .i64 p] := f6
            rw [f6] at e20
            clear hA hd
            refine wpOp_step rfl (fun K' hK' => ?_)
            go_simp
            refine (HFC.out W).mono ?_
            rw [HFV]
            rintro e w6 ⟨rfl, hb6⟩
            exact hK' _ _ (hK _ _ ⟨0, 0, 0, rfl, al0⟩ hb6 no_al)
          · generalize hA : putsA _ _ x (0 :: 1 :: 2 :: 3 :: 4 :: 5 :: 6 :: 7 :: 8 :: 9 :: 10 :: 11 :: 12 :: 13 :: 14 :: 15 :: 16 :: 17 :: 18 :: 19 :: 20 :: 21 :: 22 :: 23 :: 24 :: []) = A at *
            have e18 : A.tmps[18]? = some (x 4) := by rw [← hA]; exact putsA_in (i := 4) 18 (by rfl) (by show (18 : Nat) < 40; decide) _ (by decide +kernel) (by decide)
            obtain ⟨_, _, _, f4, _⟩ := hd 4 (by decide)
            replace f4 : x 4 = .bool false := f4
            rw [f4] at e18
            have e21 : A.tmps[21]? = some (x 7) := by rw [← hA]; exact putsA_in (i := 7) 21 (by rfl) (by show (21 : Nat) < 40; decide) _ (by decide +kernel) (by decide)
            obtain ⟨_, _, _, f7, _⟩ := hd 7 (by decide)
            replace f7 : x 7 = .bool true := f7
            rw [f7] at e21
            clear hA hd
            refine wpOp_step rfl (fun K' hK' => ?_)
            go_simp
            exact hK' _ _ (hK _ _ ⟨0, 0, 0, rfl, al0⟩ (Below.refl _ _) no_al)
          · generalize hA : putsA _ _ x (0 :: 1 :: 2 :: 3 :: 4 :: 5 :: 6 :: 7 :: 8 :: 9 :: 10 :: 11 :: 12 :: 13 :: 14 :: 15 :: 16 :: 17 :: 18 :: 19 :: 20 :: 21 :: 22 :: 23 :: 24 :: []) = A at *
            have e18 : A.tmps[18]? = some (x 4) := by rw [← hA]; exact putsA_in (i := 4) 18 (by rfl) (by show (18 : Nat) < 40; decide) _ (by decide +kernel) (by decide)
            obtain ⟨_, _, _, f4, _⟩ := hd 4 (by decide)
            replace f4 : x 4 = .bool false := f4
            rw [f4] at e18
            have e22 : A.tmps[22]? = some (x 8) := by rw [← hA]; exact putsA_in (i := 8) 22 (by rfl) (by show (22 : Nat) < 40; decide) _ (by decide +kernel) (by decide)
            obtain ⟨_, _, _, f8, _⟩ := hd 8 (by decide)
            replace f8 : x 8 = .bool false := f8
            rw [f8] at e22
            clear hA hd
            refine wpOp_step rfl (fun K' hK' => ?_)
            go_simp
            exact hK' _ _ (hK _ _ ⟨0, 0, 0, rfl, al0⟩ (Below.refl _ _) no_al)
          · generalize hA : putsA _ _ x (0 :: 1 :: 2 :: 3 :: 4 :: 5 :: 6 :: 7 :: 8 :: 9 :: 10 :: 11 :: 12 :: 13 :: 14 :: 15 :: 16 :: 17 :: 18 :: 19 :: 20 :: 21 :: 22 :: 23 :: 24 :: []) = A at *
            have e23 : A.tmps[23]? = some (x 9) := by rw [← hA]; exact putsA_in (i := 9) 23 (by rfl) (by show (23 : Nat) < 40; decide) _ (by decide +kernel) (by decide)
            obtain ⟨_, _, _, f9, _⟩ := hd 9 (by decide)
            replace f9 : x 9 = .bool false := f9
            rw [f9] at e23
            clear hA hd
            refine wpOp_step rfl (fun K' hK' => ?_)
            go_simp
            exact hK' _ _ (hK _ _ ⟨0, 0, 0, rfl, al0⟩ (Below.refl _ _) no_al)
          · generalize hA : putsA _ _ x (0 :: 1 :: 2 :: 3 :: 4 :: 5 :: 6 :: 7 :: 8 :: 9 :: 10 :: 11 :: 12 :: 13 :: 14 :: 15 :: 16 :: 17 :: 18 :: 19 :: 20 :: 21 :: 22 :: 23 :: 24 :: []) = A at *
            have e5 : A.tmps[5]? = some (.int .i64 (j : Int)) := by rw [← hA]; exact putsA_at 5 _ (by decide +kernel)
            have e24 : A.tmps[24]? = some (x 10) := by rw [← hA]; exact putsA_in (i := 10) 24 (by rfl) (by show (24 : Nat) < 40; decide) _ (by decide +kernel) (by decide)
            obtain ⟨_, _, _, f10, _⟩ := hd 10 (by decide)
            replace f10 : x 10 = .bool false := f10
            rw [f10] at e24
            clear hA hd
            refine wpOp_step rfl (fun K' hK' => ?_)
            go_simp
            exact hK' _ _ (hK _ _ ⟨0, 0, 0, rfl, al0⟩ (Below.refl _ _) no_al)
          · generalize hA : putsA _ _ x (0 :: 1 :: 2 :: 3 :: 4 :: 5 :: 6 :: 7 :: 8 :: 9 :: 10 :: 11 :: 12 :: 13 :: 14 :: 15 :: 16 :: 17 :: 18 :: 19 :: 20 :: 21 :: 22 :: 23 :: 24 :: []) = A at *
            have e24 : A.tmps[24]? = some (x 10) := by rw [← hA]; exact putsA_in (i := 10) 24 (by rfl) (by show (24 : Nat) < 40; decide) _ (by decide +kernel) (by decide)
            obtain ⟨_, _, _, f10, _⟩ := hd 10 (by decide)
            replace f10 : x 10 = .bool false := f10
            rw [f10] at e24
            have e25 : A.tmps[25]? = some (x 11) := by rw [← hA]; exact putsA_in (i := 11) 25 (by rfl) (by show (25 : Nat) < 40; decide) _ (by decide +kernel) (by decide)
            obtain ⟨_, _, _, f11, _⟩ := hd 11 (by decide)
            replace f11 : x 11 = .int .i64 (j : Int) := f11
            rw [f11] at e25
            clear hA hd
            refine wpOp_step rfl (fun K' hK' => ?_)
            go_simp
            exact hK' _ _ (hK _ _ ⟨0, 0, 0, rfl, al0⟩ (Below.refl _ _) no_al)
          · generalize hA : putsA _ _ x (0 :: 1 :: 2 :: 3 :: 4 :: 5 :: 6 :: 7 :: 8 :: 9 :: 10 :: 11 :: 12 :: 13 :: 14 :: 15 :: 16 :: 17 :: 18 :: 19 :: 20 :: 21 :: 22 :: 23 :: 24 :: []) = A at *
            have e24 : A.tmps[24]? = some (x 10) := by rw [← hA]; exact putsA_in (i := 10) 24 (by rfl) (by show (24 : Nat) < 40; decide) _ (by decide +kernel) (by decide)
            obtain ⟨_, _, _, f10, _⟩ := hd 10 (by decide)
            replace f10 : x 10 = .bool false := f10
            rw [f10] at e24
            have e26 : A.tmps[26]? = some (x 12) := by rw [← hA]; exact putsA_in (i := 12) 26 (by rfl) (by show (26 : Nat) < 40; decide) _ (by decide +kernel) (by decide)
            obtain ⟨_, _, _, f12, _⟩ := hd 12 (by decide)
            replace f12 : x 12 = .bool false := f12
            rw [f12] at e26
            clear hA hd
            refine wpOp_step rfl (fun K' hK' => ?_)
            go_simp
            exact hK' _ _ (hK _ _ ⟨0, 0, 0, rfl, al0⟩ (Below.refl _ _) no_al)
          · generalize hA : putsA _ _ x (0 :: 1 :: 2 :: 3 :: 4 :: 5 :: 6 :: 7 :: 8 :: 9 :: 10 :: 11 :: 12 :: 13 :: 14 :: 15 :: 16 :: 17 :: 18 :: 19 :: 20 :: 21 :: 22 :: 23 :: 24 :: []) = A at *
            have e0 : A.tmps[0]? = some (.slice (some ⟨b, o, none⟩) n c) := by rw [← hA]; exact putsA_at 0 _ (by decide +kernel)
            have e27 : A.tmps[27]? = some (x 13) := by rw [← hA]; exact putsA_in (i := 13) 27 (by rfl) (by show (27 : Nat) < 40; decide) _ (by decide +kernel) (by decide)
            obtain ⟨_, _, _, f13, _⟩ := hd 13 (by decide)
            replace f13 : x 13 = .bool false := f13
            rw [f13] at e27
            clear hA hd
            refine wpOp_step rfl (fun K' hK' => ?_)
            go_simp
            exact hK' _ _ (hK _ _ ⟨0, 0, 0, rfl, al0⟩ (Below.refl _ _) no_al)
          · generalize hA : putsA _ _ x (0 :: 1 :: 2 :: 3 :: 4 :: 5 :: 6 :: 7 :: 8 :: 9 :: 10 :: 11 :: 12 :: 13 :: 14 :: 15 :: 16 :: 17 :: 18 :: 19 :: 20 :: 21 :: 22 :: 23 :: 24 :: []) = A at *
            have e5 : A.tmps[5]? = some (.int .i64 (j : Int)) := by rw [← hA]; exact putsA_at 5 _ (by decide +kernel)
            have e27 : A.tmps[27]? = some (x 13) := by rw [← hA]; exact putsA_in (i := 13) 27 (by rfl) (by show (27 : Nat) < 40; decide) _ (by decide +kernel) (by decide)
            obtain ⟨_, _, _, f13, _⟩ := hd 13 (by decide)
            replace f13 : x 13 = .bool false := f13
            rw [f13] at e27
            clear hA hd
            refine wpOp_step rfl (fun K' hK' => ?_)
            go_simp
            exact hK' _ _ (hK _ _ ⟨0, 0, 0, rfl, al0⟩ (Below.refl _ _) no_al)
          · generalize hA : putsA _ _ x (0 :: 1 :: 2 :: 3 :: 4 :: 5 :: 6 :: 7 :: 8 :: 9 :: 10 :: 11 :: 12 :: 13 :: 14 :: 15 :: 16 :: 17 :: 18 :: 19 :: 20 :: 21 :: 22 :: 23 :: 24 :: []) = A at *
            have e27 : A.tmps[27]? = some (x 13) := by rw [← hA]; exact putsA_in (i := 13) 27 (by rfl) (by show (27 : Nat) < 40; decide) _ (by decide +kernel) (by decide)
            obtain ⟨_, _, _, f13, _⟩ := hd 13 (by decide)
            replace f13 : x 13 = .bool false := f13
            rw [f13] at e27
            have e29 : A.tmps[29]? = some (x 15) := by rw [← hA]; exact putsA_in (i := 15) 29 (by rfl) (by show (29 : Nat) < 40; decide) _ (by decide +kernel) (by decide)
            obtain ⟨_, _, _, f15, _⟩ := hd 15 (by decide)
            replace f15 : x 15 = undef := f15
            rw [f15] at e29
            clear hA hd
            refine wpOp_step rfl (fun K' hK' => ?_)
            go_simp
            exact hK' _ _ (hK _ _ ⟨0, 0, 0, rfl, al0⟩ (Below.refl _ _) no_al)
          · generalize hA : putsA _ _ x (0 :: 1 :: 2 :: 3 :: 4 :: 5 :: 6 :: 7 :: 8 :: 9 :: 10 :: 11 :: 12 :: 13 :: 14 :: 15 :: 16 :: 17 :: 18 :: 19 :: 20 :: 21 :: 22 :: 23 :: 24 :: []) = A at *
            have e27 : A.tmps[27]? = some (x 13) := by rw [← hA]; exact putsA_in (i := 13) 27 (by rfl) (by show (27 : Nat) < 40; decide) _ (by decide +kernel) (by decide)
            obtain ⟨_, _, _, f13, _⟩ := hd 13 (by decide)
            replace f13 : x 13 = .bool false := f13
            rw [f13] at e27
            have e28 : A.tmps[28]? = some (x 14) := by rw [← hA]; exact putsA_in (i := 14) 28 (by rfl) (by show (28 : Nat) < 40; decide) _ (by decide +kernel) (by decide)
            obtain ⟨_, _, _, f14, _⟩ := hd 14 (by decide)
            replace f14 : x 14 = undef := f14
            rw [f14] at e28
            have e30 : A.tmps[30]? = some (x 16) := by rw [← hA]; exact putsA_in (i := 16) 30 (by rfl) (by show (30 : Nat) < 40; decide) _ (by decide +kernel) (by decide)
            obtain ⟨_, _, _, f16, _⟩ := hd 16 (by decide)
            replace f16 : x 16 = undef := f16
            rw [f16] at e30
            clear hA hd
            refine wpOp_step rfl (fun K' hK' => ?_)
            go_simp
            exact hK' _ _ (hK _ _ ⟨0, 0, 0, rfl, al0⟩ (Below.refl _ _) no_al)
          · generalize hA : putsA _ _ x (0 :: 1 :: 2 :: 3 :: 4 :: 5 :: 6 :: 7 :: 8 :: 9 :: 10 :: 11 :: 12 :: 13 :: 14 :: 15 :: 16 :: 17 :: 18 :: 19 :: 20 :: 21 :: 22 :: 23 :: 24 :: []) = A at *
            have e27 : A.tmps[27]? = some (x 13) := by rw [← hA]; exact putsA_in (i := 13) 27 (by rfl) (by show (27 : Nat) < 40; decide) _ (by decide +kernel) (by decide)
            obtain ⟨_, _, _, f13, _⟩ := hd 13 (by decide)
            replace f13 : x 13 = .bool false := f13
            rw [f13] at e27
            have e31 : A.tmps[31]? = some (x 17) := by rw [← hA]; exact putsA_in (i := 17) 31 (by rfl) (by show (31 : Nat) < 40; decide) _ (by decide +kernel) (by decide)
            obtain ⟨_, _, _, f17, _⟩ := hd 17 (by decide)
            replace f17 : x 17 = undef := f17
            rw [f17] at e31
            clear hA hd
            refine wpOp_step rfl (fun K' hK' => ?_)
            go_simp
            exact hK' _ _ (hK _ _ ⟨0, 0, 0, rfl, al0⟩ (Below.refl _ _) no_al)
          · generalize hA : putsA _ _ x (0 :: 1 :: 2 :: 3 :: 4 :: 5 :: 6 :: 7 :: 8 :: 9 :: 10 :: 11 :: 12 :: 13 :: 14 :: 15 :: 16 :: 17 :: 18 :: 19 :: 20 :: 21 :: 22 :: 23 :: 24 :: []) = A at *
            have e27 : A.tmps[27]? = some (x 13) := by rw [← hA]; exact putsA_in (i := 13) 27 (by rfl) (by show (27 : Nat) < 40; decide) _ (by decide +kernel) (by decide)
            obtain ⟨_, _, _, f13, _⟩ := hd 13 (by decide)
            replace f13 : x 13 = .bool false := f13
            rw [f13] at e27
            have e32 : A.tmps[32]? = some (x 18) := by rw [← hA]; exact putsA_in (i := 18) 32 (by rfl) (by show (32 : Nat) < 40; decide) _ (by decide +kernel) (by decide)
            obtain ⟨_, _, _, f18, _⟩ := hd 18 (by decide)
            replace f18 : x 18 = undef := f18
            rw [f18] at e32
            clear hA hd
            refine wpOp_step rfl (fun K' hK' => ?_)
            go_simp
            exact hK' _ _ (hK _ _ ⟨0, 0, 0, rfl, al0⟩ (Below.refl _ _) no_al)
          · generalize hA : putsA _ _ x (0 :: 1 :: 2 :: 3 :: 4 :: 5 :: 6 :: 7 :: 8 :: 9 :: 10 :: 11 :: 12 :: 13 :: 14 :: 15 :: 16 :: 17 :: 18 :: 19 :: 20 :: 21 :: 22 :: 23 :: 24 :: []) = A at *
            have e6 : A.tmps[6]? = some (.pointer (some ⟨wr.heap.size, 0, none⟩)) := by rw [← hA]; exact putsA_at 6 _ (by decide +kernel)
            have e27 : A.tmps[27]? = some (x 13) := by rw [← hA]; exact putsA_in (i := 13) 27 (by rfl) (by show (27 : Nat) < 40; decide) _ (by decide +kernel) (by decide)
            obtain ⟨_, _, _, f13, _⟩ := hd 13 (by decide)
            replace f13 : x 13 = .bool false := f13
            rw [f13] at e27
            clear hA hd
            refine wpOp_step rfl (fun K' hK' => ?_)
            go_simp
            exact hK' _ _ (hK _ _ ⟨0, 0, 0, rfl, al0⟩ (Below.refl _ _) no_al)
          · generalize hA : putsA _ _ x (0 :: 1 :: 2 :: 3 :: 4 :: 5 :: 6 :: 7 :: 8 :: 9 :: 10 :: 11 :: 12 :: 13 :: 14 :: 15 :: 16 :: 17 :: 18 :: 19 :: 20 :: 21 :: 22 :: 23 :: 24 :: []) = A at *
            have e27 : A.tmps[27]? = some (x 13) := by rw [← hA]; exact putsA_in (i := 13) 27 (by rfl) (by show (27 : Nat) < 40; decide) _ (by decide +kernel) (by decide)
            obtain ⟨_, _, _, f13, _⟩ := hd 13 (by decide)
            replace f13 : x 13 = .bool false := f13
            rw [f13] at e27
            have e34 : A.tmps[34]? = some (x 20) := by rw [← hA]; exact putsA_in (i := 20) 34 (by rfl) (by show (34 : Nat) < 40; decide) _ (by decide +kernel) (by decide)
            obtain ⟨_, _, _, f20, _⟩ := hd 20 (by decide)
            replace f20 : x 20 = undef := f20
            rw [f20] at e34
            clear hA hd
            obtain ⟨c0, c1, c2, c3⟩ := cell4 (hs.1 _ (.head _))
            refine wpOp_step rfl (fun K' hK' => ?_)
            go_simp
            exact hK' _ _ (hK _ _ ⟨0, 0, 0, rfl, al0⟩ (Below.refl _ _) no_al)
          · generalize hA : putsA _ _ x (0 :: 1 :: 2 :: 3 :: 4 :: 5 :: 6 :: 7 :: 8 :: 9 :: 10 :: 11 :: 12 :: 13 :: 14 :: 15 :: 16 :: 17 :: 18 :: 19 :: 20 :: 21 :: 22 :: 23 :: 24 :: []) = A at *
            have e27 : A.tmps[27]? = some (x 13) := by rw [← hA]; exact putsA_in (i := 13) 27 (by rfl) (by show (27 : Nat) < 40; decide) _ (by decide +kernel) (by decide)
            obtain ⟨_, _, _, f13, _⟩ := hd 13 (by decide)
            replace f13 : x 13 = .bool false := f13
            rw [f13] at e27
            have e33 : A.tmps[33]? = some (x 19) := by rw [← hA]; exact putsA_in (i := 19) 33 (by rfl) (by show (33 : Nat) < 40; decide) _ (by decide +kernel) (by decide)
            obtain ⟨_, _, _, f19, _⟩ := hd 19 (by decide)
            replace f19 : x 19 = undef := f19
            rw [f19] at e33
            have e35 : A.tmps[35]? = some (x 21) := by rw [← hA]; exact putsA_in (i := 21) 35 (by rfl) (by show (35 : Nat) < 40; decide) _ (by decide +kernel) (by decide)
            obtain ⟨_, _, _, f21, _⟩ := hd 21 (by decide)
            replace f21 : x 21 = undef := f21
            rw [f21] at e35
            clear hA hd
            refine wpOp_step rfl (fun K' hK' => ?_)
            go_simp
            exact hK' _ _ (hK _ _ ⟨0, 0, 0, rfl, al0⟩ (Below.refl _ _) no_al)
          · generalize hA : putsA _ _ x (0 :: 1 :: 2 :: 3 :: 4 :: 5 :: 6 :: 7 :: 8 :: 9 :: 10 :: 11 :: 12 :: 13 :: 14 :: 15 :: 16 :: 17 :: 18 :: 19 :: 20 :: 21 :: 22 :: 23 :: 24 :: []) = A at *
            have e24 : A.tmps[24]? = some (x 10) := by rw [← hA]; exact putsA_in (i := 10) 24 (by rfl) (by show (24 : Nat) < 40; decide) _ (by decide +kernel) (by decide)
            obtain ⟨_, _, _, f10, _⟩ := hd 10 (by decide)
            replace f10 : x 10 = .bool false := f10
            rw [f10] at e24
            have e27 : A.tmps[27]? = some (x 13) := by rw [← hA]; exact putsA_in (i := 13) 27 (by rfl) (by show (27 : Nat) < 40; decide) _ (by decide +kernel) (by decide)
            obtain ⟨_, _, _, f13, _⟩ := hd 13 (by decide)
            replace f13 : x 13 = .bool false := f13
            rw [f13] at e27
            have e36 : A.tmps[36]? = some (x 22) := by rw [← hA]; exact putsA_in (i := 22) 36 (by rfl) (by show (36 : Nat) < 40; decide) _ (by decide +kernel) (by decide)
            obtain ⟨_, _, _, f22, _⟩ := hd 22 (by decide)
            replace f22 : x 22 = undef := f22
            rw [f22] at e36
            clear hA hd
            refine wpOp_step rfl (fun K' hK' => ?_)
            go_simp
            exact hK' _ _ (hK _ _ ⟨0, 0, 0, rfl, al0⟩ (Below.refl _ _) no_al)
          · generalize hA : putsA _ _ x (0 :: 1 :: 2 :: 3 :: 4 :: 5 :: 6 :: 7 :: 8 :: 9 :: 10 :: 11 :: 12 :: 13 :: 14 :: 15 :: 16 :: 17 :: 18 :: 19 :: 20 :: 21 :: 22 :: 23 :: 24 :: []) = A at *
            have e24 : A.tmps[24]? = some (x 10) := by rw [← hA]; exact putsA_in (i := 10) 24 (by rfl) (by show (24 : Nat) < 40; decide) _ (by decide +kernel) (by decide)
            obtain ⟨_, _, _, f10, _⟩ := hd 10 (by decide)
            replace f10 : x 10 = .bool false := f10
            rw [f10] at e24
            have e37 : A.tmps[37]? = some (x 23) := by rw [← hA]; exact putsA_in (i := 23) 37 (by rfl) (by show (37 : Nat) < 40; decide) _ (by decide +kernel) (by decide)
            obtain ⟨_, _, _, f23, _⟩ := hd 23 (by decide)
            replace f23 : x 23 = .bool false := f23
            rw [f23] at e37
            clear hA hd
            refine wpOp_step rfl (fun K' hK' => ?_)
            go_simp
            exact hK' _ _ (hK _ _ ⟨0, 0, 0, rfl, al0⟩ (Below.refl _ _) no_al)
        case hend =>
          intro x W hf hg hb
          have HSE := Lib.hid (bs_below HS.out hb).2.2
          have hl : x 24 = .bool false := by
            obtain ⟨_, _, _, h, _⟩ := hf 24 (by decide)
            exact h
          rw [putsA_lit _ _ (0 :: 1 :: 2 :: 3 :: 4 :: 5 :: 6 :: 7 :: 8 :: 9 :: 10 :: 11 :: 12 :: 13 :: 14 :: 15 :: 16 :: 17 :: 18 :: 19 :: 20 :: 21 :: 22 :: 23 :: 24 :: []) ((14, 0) :: (15, 1) :: (16, 2) :: (17, 3) :: (18, 4) :: (19, 5) :: (20, 6) :: (21, 7) :: (22, 8) :: (23, 9) :: (24, 10) :: (25, 11) :: (26, 12) :: (27, 13) :: (28, 14) :: (29, 15) :: (30, 16) :: (31, 17) :: (32, 18) :: (33, 19) :: (34, 20) :: (35, 21) :: (36, 22) :: (37, 23) :: (38, 24) :: []) (by kernel_rfl)]
          simp only [setAll, ↓reduceIte, Nat.reduceAdd, Nat.reduceEqDiff]
          rw [hl]
          clear hf hl hg hb HS HFC HPP
          refine wpAny_done (by kernel_rfl) ?_ _
          refine NoPanic.normal ?_
          go_wp2
          go_roundw
          case rel => exact ⟨j + 1, by omega, by go_num, HR.out, HSE.out⟩
          case measure => simp [intOf]; omega

      obtain ⟨⟨kp, zp, lop, pp⟩, hpk, hcp⟩ := HPP.out (j - 1) (by omega)
      simp only at hpk
      have HCP := Lib.hid hcp
      have HPK := Lib.hid hpk
      have hjd : decide (0 < j) = true := decide_eq_true (by omega)
      have hjd' : decide ((0 : Int) < (j : Int)) = true := decide_eq_true (by omega)
      have hj1 : IntKind.i64.wrap ((j : Int) - 1) = (j : Int) - 1 := by rw [IntKind.wrap_i64]; omega
      have hj2 : (0 : Int) ≤ (j : Int) - 1 := by omega
      have hj5 : (1 : Int) ≤ (j : Int) := by omega
      have hj3 : (j : Int) - 1 < n := by omega
      have hj4 : ((j : Int) - 1).toNat = j - 1 := by omega
      clear hpk hcp hj0
      refine wp_region_noPanic ?_
      refine wp_region_any (by kernel_rfl) ?_
      refine facts_start (0 :: 1 :: 2 :: 3 :: 4 :: 5 :: 6 :: 7 :: 8 :: 9 :: 10 :: 11 :: 12 :: 13 :: 14 :: 15 :: 16 :: 17 :: 18 :: 19 :: 20 :: 21 :: 22 :: 23 :: 24 :: []) [] D4 (Ft (mkccells_inner4 wr.heap.size b o n c j k kp z lo p) (fun _ _ _ _ => [])) _ _ _ 0 _ #[true, true, true, true, true, true, true, true, true, true, true, true, true, true, true, true, true, true, true, true, true, true, true, true, true] (by kernel_rfl) (by rfl) ft_step no_al' ?hstep ?hend
      case hstep =>
        intro i hi x W hd hb K hK
        have hs := bs_below HS.out hb
        simp only [List.mem_cons, List.not_mem_nil, or_false] at hi
        rcases hi with rfl | rfl | rfl | rfl | rfl | rfl | rfl | rfl | rfl | rfl | rfl | rfl | rfl | rfl | rfl | rfl | rfl | rfl | rfl | rfl | rfl | rfl | rfl | rfl | rfl
        · generalize hA : putsA _ _ x (0 :: 1 :: 2 :: 3 :: 4 :: 5 :: 6 :: 7 :: 8 :: 9 :: 10 :: 11 :: 12 :: 13 :: 14 :: 15 :: 16 :: 17 :: 18 :: 19 :: 20 :: 21 :: 22 :: 23 :: 24 :: []) = A at *
          have e6 : A.tmps[6]? = some (.pointer (some ⟨wr.heap.size, 0, none⟩)) := by rw [← hA]; exact putsA_at 6 _ (by decide +kernel)
          clear hA hd
          refine wpOp_step rfl (fun K' hK' => ?_)
          go_simp
          exact hK' _ _ (hK _ _ ⟨0, 0, 0, rfl, al0⟩ (Below.refl _ _) no_al)
        · generalize hA : putsA _ _ x (0 :: 1 :: 2 :: 3 :: 4 :: 5 :: 6 :: 7 :: 8 :: 9 :: 10 :: 11 :: 12 :: 13 :: 14 :: 15 :: 16 :: 17 :: 18 :: 19 :: 20 :: 21 :: 22 :: 23 :: 24 :: []) = A at *
          have e14 : A.tmps[14]? = some (x 0) := by rw [← hA]; exact putsA_in (i := 0) 14 (by rfl) (by show (14 : Nat) < 40; decide) _ (by decide +kernel) (by decide)
          obtain ⟨_, _, _, f0, _⟩ := hd 0 (by decide)
          replace f0 : x 0 = .pointer (some ⟨wr.heap.size, 0, none⟩) := f0
          rw [f0] at e14
          clear hA hd
          obtain ⟨c0, c1, c2, c3⟩ := cell4 (hs.1 _ (.head _))
          refine wpOp_step rfl (fun K' hK' => ?_)
          go_simp
          exact hK' _ _ (hK _ _ ⟨0, 0, 0, rfl, al0⟩ (Below.refl _ _) no_al)
        · generalize hA : putsA _ _ x (0 :: 1 :: 2 :: 3 :: 4 :: 5 :: 6 :: 7 :: 8 :: 9 :: 10 :: 11 :: 12 :: 13 :: 14 :: 15 :: 16 :: 17 :: 18 :: 19 :: 20 :: 21 :: 22 :: 23 :: 24 :: []) = A at *
          have e15 : A.tmps[15]? = some (x 1) := by rw [← hA]; exact putsA_in (i := 1) 15 (by rfl) (by show (15 : Nat) < 40; decide) _ (by decide +kernel) (by decide)
          obtain ⟨_, _, _, f1, _⟩ := hd 1 (by decide)
          replace f1 : x 1 = .string k := f1
          rw [f1] at e15
          clear hA hd
          refine wpOp_step rfl (fun K' hK' => ?_)
          go_simp
          exact hK' _ _ (hK _ _ ⟨0, 0, 0, rfl, al0⟩ (Below.refl _ _) no_al)
        · generalize hA : putsA _ _ x (0 :: 1 :: 2 :: 3 :: 4 :: 5 :: 6 :: 7 :: 8 :: 9 :: 10 :: 11 :: 12 :: 13 :: 14 :: 15 :: 16 :: 17 :: 18 :: 19 :: 20 :: 21 :: 22 :: 23 :: 24 :: []) = A at *
          have e16 : A.tmps[16]? = some (x 2) := by rw [← hA]; exact putsA_in (i := 2) 16 (by rfl) (by show (16 : Nat) < 40; decide) _ (by decide +kernel) (by decide)
          obtain ⟨_, _, _, f2, _⟩ := hd 2 (by decide)
          replace f2 : x 2 = .int .i64 (k.size : Int) := f2
          rw [f2] at e16
          clear hA hd
          refine wpOp_step rfl (fun K' hK' => ?_)
          go_simp
          exact hK' _ _ (hK _ _ ⟨0, 0, 0, rfl, al0⟩ (Below.refl _ _) no_al)
        · generalize hA : putsA _ _ x (0 :: 1 :: 2 :: 3 :: 4 :: 5 :: 6 :: 7 :: 8 :: 9 :: 10 :: 11 :: 12 :: 13 :: 14 :: 15 :: 16 :: 17 :: 18 :: 19 :: 20 :: 21 :: 22 :: 23 :: 24 :: []) = A at *
          have e17 : A.tmps[17]? = some (x 3) := by rw [← hA]; exact putsA_in (i := 3) 17 (by rfl) (by show (17 : Nat) < 40; decide) _ (by decide +kernel) (by decide)
          obtain ⟨_, _, _, f3, _⟩ := hd 3 (by decide)
          replace f3 : x 3 = .bool false := f3
          rw [f3] at e17
          clear hA hd
          refine wpOp_step rfl (fun K' hK' => ?_)
          go_simp
          exact hK' _ _ (hK _ _ ⟨0, 0, 0, rfl, al0⟩ (Below.refl _ _) no_al)
        · generalize hA : putsA _ _ x (0 :: 1 :: 2 :: 3 :: 4 :: 5 :: 6 :: 7 :: 8 :: 9 :: 10 :: 11 :: 12 :: 13 :: 14 :: 15 :: 16 :: 17 :: 18 :: 19 :: 20 :: 21 :: 22 :: 23 :: 24 :: []) = A at *
          have e1 : A.tmps[1]? = some (.func (.func 55) #[] #[]) := by rw [← hA]; exact putsA_at 1 _ (by decide +kernel)
          have e18 : A.tmps[18]? = some (x 4) := by rw [← hA]; exact putsA_in (i := 4) 18 (by rfl) (by show (18 : Nat) < 40; decide) _ (by decide +kernel) (by decide)
          obtain ⟨_, _, _, f4, _⟩ := hd 4 (by decide)
          replace f4 : x 4 = .bool false := f4
          rw [f4] at e18
          clear hA hd
          refine wpOp_step rfl (fun K' hK' => ?_)
          go_simp
          exact hK' _ _ (hK _ _ ⟨0, 0, 0, rfl, al0⟩ (Below.refl _ _) no_al)
        · generalize hA : putsA _ _ x (0 :: 1 :: 2 :: 3 :: 4 :: 5 :: 6 :: 7 :: 8 :: 9 :: 10 :: 11 :: 12 :: 13 :: 14 :: 15 :: 16 :: 17 :: 18 :: 19 :: 20 :: 21 :: 22 :: 23 :: 24 :: []) = A at *
          have e6 : A.tmps[6]? = some (.pointer (some ⟨wr.heap.size, 0, none⟩)) := by rw [← hA]; exact putsA_at 6 _ (by decide +kernel)
          have e18 : A.tmps[18]? = some (x 4) := by rw [← hA]; exact putsA_in (i := 4) 18 (by rfl) (by show (18 : Nat) < 40; decide) _ (by decide +kernel) (by decide)
          obtain ⟨_, _, _, f4, _⟩ := hd 4 (by decide)
          replace f4 : x 4 = .bool false := f4
          rw [f4] at e18
          clear hA hd
          obtain ⟨c0, c1, c2, c3⟩ := cell4 (hs.1 _ (.head _))
          refine wpOp_step rfl (fun K' hK' => ?_)
          go_simp
          exact hK' _ _ (hK _ _ ⟨0, 0, 0, rfl, al0⟩ (Below.refl _ _) no_al)
        · generalize hA : putsA _ _ x (0 :: 1 :: 2 :: 3 :: 4 :: 5 :: 6 :: 7 :: 8 :: 9 :: 10 :: 11 :: 12 :: 13 :: 14 :: 15 :: 16 :: 17 :: 18 :: 19 :: 20 :: 21 :: 22 :: 23 :: 24 :: []) = A at *
          have e18 : A.tmps[18]? = some (x 4) := by rw [← hA]; exact putsA_in (i := 4) 18 (by rfl) (by show (18 : Nat) < 40; decide) _ (by decide +kernel) (by decide)
          obtain ⟨_, _, _, f4, _⟩ := hd 4 (by decide)
          replace f4 : x 4 = .bool false := f4
          rw [f4] at e18
          have e19 : A.tmps[19]? = some (x 5) := by rw [← hA]; exact putsA_in (i := 5) 19 (by rfl) (by show (19 : Nat) < 40; decide) _ (by decide +kernel) (by decide)
          obtain ⟨_, _, _, f5, _⟩ := hd 5 (by decide)
          replace f5 : x 5 = .func (.func 55) #[] #[] := f5
          rw [f5] at e19
          have e20 : A.tmps[20]? = some (x 6) := by rw [← hA]; exact putsA_in (i := 6) 20 (by rfl) (by show (20 : Nat) < 40; decide) _ (by decide +kernel) (by decide)
          obtain ⟨_, _, _, f6, _⟩ := hd 6 (by decide)
          replace f6 : x 6 = .agg #[.string k, .int .i64 z, .string lo, .int .i64 p] := f6
          rw [f6] at e20
          clear hA hd
          refine wpOp_step rfl (fun K' hK' => ?_)
          go_simp
          refine (HFC.out W).mono ?_
          rw [HFV]
          rintro e w6 ⟨rfl, hb6⟩
          exact hK' _ _ (hK _ _ ⟨0, 0, 0, rfl, al0⟩ hb6 no_al)
        · generalize hA : putsA _ _ x (0 :: 1 :: 2 :: 3 :: 4 :: 5 :: 6 :: 7 :: 8 :: 9 :: 10 :: 11 :: 12 :: 13 :: 14 :: 15 :: 16 :: 17 :: 18 :: 19 :: 20 :: 21 :: 22 :: 23 :: 24 :: []) = A at *
          have e18 : A.tmps[18]? = some (x 4) := by rw [← hA]; exact putsA_in (i := 4) 18 (by rfl) (by show (18 : Nat) < 40; decide) _ (by decide +kernel) (by decide)
          obtain ⟨_, _, _, f4, _⟩ := hd 4 (by decide)
          replace f4 : x 4 = .bool false := f4
          rw [f4] at e18
          have e21 : A.tmps[21]? = some (x 7) := by rw [← hA]; exact putsA_in (i := 7) 21 (by rfl) (by show (21 : Nat) < 40; decide) _ (by decide +kernel) (by decide)
          obtain ⟨_, _, _, f7, _⟩ := hd 7 (by decide)
          replace f7 : x 7 = .bool true := f7
          rw [f7] at e21
          clear hA hd
          refine wpOp_step rfl (fun K' hK' => ?_)
          go_simp
          exact hK' _ _ (hK _ _ ⟨0, 0, 0, rfl, al0⟩ (Below.refl _ _) no_al)
        · generalize hA : putsA _ _ x (0 :: 1 :: 2 :: 3 :: 4 :: 5 :: 6 :: 7 :: 8 :: 9 :: 10 :: 11 :: 12 :: 13 :: 14 :: 15 :: 16 :: 17 :: 18 :: 19 :: 20 :: 21 :: 22 :: 23 :: 24 :: []) = A at *
          have e18 : A.tmps[18]? = some (x 4) := by rw [← hA]; exact putsA_in (i := 4) 18 (by rfl) (by show (18 : Nat) < 40; decide) _ (by decide +kernel) (by decide)
          obtain ⟨_, _, _, f4, _⟩ := hd 4 (by decide)
          replace f4 : x 4 = .bool false := f4
          rw [f4] at e18
          have e22 : A.tmps[22]? = some (x 8) := by rw [← hA]; exact putsA_in (i := 8) 22 (by rfl) (by show (22 : Nat) < 40; decide) _ (by decide +kernel) (by decide)
          obtain ⟨_, _, _, f8, _⟩ := hd 8 (by decide)
          replace f8 : x 8 = .bool false := f8
          rw [f8] at e22
          clear hA hd
          refine wpOp_step rfl (fun K' hK' => ?_)
          go_simp
          exact hK' _ _ (hK _ _ ⟨0, 0, 0, rfl, al0⟩ (Below.refl _ _) no_al)
        · generalize hA : putsA _ _ x (0 :: 1 :: 2 :: 3 :: 4 :: 5 :: 6 :: 7 :: 8 :: 9 :: 10 :: 11 :: 12 :: 13 :: 14 :: 15 :: 16 :: 17 :: 18 :: 19 :: 20 :: 21 :: 22 :: 23 :: 24 :: []) = A at *
          have e23 : A.tmps[23]? = some (x 9) := by rw [← hA]; exact putsA_in (i := 9) 23 (by rfl) (by show (23 : Nat) < 40; decide) _ (by decide +kernel) (by decide)
          obtain ⟨_, _, _, f9, _⟩ := hd 9 (by decide)
          replace f9 : x 9 = .bool false := f9
          rw [f9] at e23
          clear hA hd
          refine wpOp_step rfl (fun K' hK' => ?_)
          go_simp
          exact hK' _ _ (hK _ _ ⟨0, 0, 0, rfl, al0⟩ (Below.refl _ _) no_al)
        · generalize hA : putsA _ _ x (0 :: 1 :: 2 :: 3 :: 4 :: 5 :: 6 :: 7 :: 8 :: 9 :: 10 :: 11 :: 12 :: 13 :: 14 :: 15 :: 16 :: 17 :: 18 :: 19 :: 20 :: 21 :: 22 :: 23 :: 24 :: []) = A at *
          have e5 : A.tmps[5]? = some (.int .i64 (j : Int)) := by rw [← hA]; exact putsA_at 5 _ (by decide +kernel)
          have e24 : A.tmps[24]? = some (x 10) := by rw [← hA]; exact putsA_in (i := 10) 24 (by rfl) (by show (24 : Nat) < 40; decide) _ (by decide +kernel) (by decide)
          obtain ⟨_, _, _, f10, _⟩ := hd 10 (by decide)
          replace f10 : x 10 = .bool false := f10
          rw [f10] at e24
          clear hA hd
          refine wpOp_step rfl (fun K' hK' => ?_)
          go_simp
          exact hK' _ _ (hK _ _ ⟨0, 0, 0, rfl, al0⟩ (Below.refl _ _) no_al)
        · generalize hA : putsA _ _ x (0 :: 1 :: 2 :: 3 :: 4 :: 5 :: 6 :: 7 :: 8 :: 9 :: 10 :: 11 :: 12 :: 13 :: 14 :: 15 :: 16 :: 17 :: 18 :: 19 :: 20 :: 21 :: 22 :: 23 :: 24 :: []) = A at *
          have e24 : A.tmps[24]? = some (x 10) := by rw [← hA]; exact putsA_in (i := 10) 24 (by rfl) (by show (24 : Nat) < 40; decide) _ (by decide +kernel) (by decide)
          obtain ⟨_, _, _, f10, _⟩ := hd 10 (by decide)
          replace f10 : x 10 = .bool false := f10
          rw [f10] at e24
          have e25 : A.tmps[25]? = some (x 11) := by rw [← hA]; exact putsA_in (i := 11) 25 (by rfl) (by show (25 : Nat) < 40; decide) _ (by decide +kernel) (by decide)
          obtain ⟨_, _, _, f11, _⟩ := hd 11 (by decide)
          replace f11 : x 11 = .int .i64 (j : Int) := f11
          rw [f11] at e25
          clear hA hd
          refine wpOp_step rfl (fun K' hK' => ?_)
          go_simp
          exact hK' _ _ (hK _ _ ⟨0, 0, 0, rfl, al0⟩ (Below.refl _ _) no_al)
        · generalize hA : putsA _ _ x (0 :: 1 :: 2 :: 3 :: 4 :: 5 :: 6 :: 7 :: 8 :: 9 :: 10 :: 11 :: 12 :: 13 :: 14 :: 15 :: 16 :: 17 :: 18 :: 19 :: 20 :: 21 :: 22 :: 23 :: 24 :: []) = A at *
          have e24 : A.tmps[24]? = some (x 10) := by rw [← hA]; exact putsA_in (i := 10) 24 (by rfl) (by show (24 : Nat) < 40; decide) _ (by decide +kernel) (by decide)
          obtain ⟨_, _, _, f10, _⟩ := hd 10 (by decide)
          replace f10 : x 10 = .bool false := f10
          rw [f10] at e24
          have e26 : A.tmps[26]? = some (x 12) := by rw [← hA]; exact putsA_in (i := 12) 26 (by rfl) (by show (26 : Nat) < 40; decide) _ (by decide +kernel) (by decide)
          obtain ⟨_, _, _, f12, _⟩ := hd 12 (by decide)
          replace f12 : x 12 = .bool true := f12
          rw [f12] at e26
          clear hA hd
          refine wpOp_step rfl (fun K' hK' => ?_)
          go_simp
          exact hK' _ _ (hK _ _ ⟨0, 0, 0, rfl, al0⟩ (Below.refl _ _) no_al)
        · generalize hA : putsA _ _ x (0 :: 1 :: 2 :: 3 :: 4 :: 5 :: 6 :: 7 :: 8 :: 9 :: 10 :: 11 :: 12 :: 13 :: 14 :: 15 :: 16 :: 17 :: 18 :: 19 :: 20 :: 21 :: 22 :: 23 :: 24 :: []) = A at *
          have e0 : A.tmps[0]? = some (.slice (some ⟨b, o, none⟩) n c) := by rw [← hA]; exact putsA_at 0 _ (by decide +kernel)
          have e27 : A.tmps[27]? = some (x 13) := by rw [← hA]; exact putsA_in (i := 13) 27 (by rfl) (by show (27 : Nat) < 40; decide) _ (by decide +kernel) (by decide)
          obtain ⟨_, _, _, f13, _⟩ := hd 13 (by decide)
          replace f13 : x 13 = .bool true := f13
          rw [f13] at e27
          clear hA hd
          refine wpOp_step rfl (fun K' hK' => ?_)
          go_simp
          exact hK' _ _ (hK _ _ ⟨0, 0, 0, rfl, al0⟩ (Below.refl _ _) no_al)
        · generalize hA : putsA _ _ x (0 :: 1 :: 2 :: 3 :: 4 :: 5 :: 6 :: 7 :: 8 :: 9 :: 10 :: 11 :: 12 :: 13 :: 14 :: 15 :: 16 :: 17 :: 18 :: 19 :: 20 :: 21 :: 22 :: 23 :: 24 :: []) = A at *
          have e5 : A.tmps[5]? = some (.int .i64 (j : Int)) := by rw [← hA]; exact putsA_at 5 _ (by decide +kernel)
          have e27 : A.tmps[27]? = some (x 13) := by rw [← hA]; exact putsA_in (i := 13) 27 (by rfl) (by show (27 : Nat) < 40; decide) _ (by decide +kernel) (by decide)
          obtain ⟨_, _, _, f13, _⟩ := hd 13 (by decide)
          replace f13 : x 13 = .bool true := f13
          rw [f13] at e27
          clear hA hd
          refine wpOp_step rfl (fun K' hK' => ?_)
          go_simp
          exact hK' _ _ (hK _ _ ⟨0, 0, 0, rfl, al0⟩ (Below.refl _ _) no_al)
        · generalize hA : putsA _ _ x (0 :: 1 :: 2 :: 3 :: 4 :: 5 :: 6 :: 7 :: 8 :: 9 :: 10 :: 11 :: 12 :: 13 :: 14 :: 15 :: 16 :: 17 :: 18 :: 19 :: 20 :: 21 :: 22 :: 23 :: 24 :: []) = A at *
          have e27 : A.tmps[27]? = some (x 13) := by rw [← hA]; exact putsA_in (i := 13) 27 (by rfl) (by show (27 : Nat) < 40; decide) _ (by decide +kernel) (by decide)
          obtain ⟨_, _, _, f13, _⟩ := hd 13 (by decide)
          replace f13 : x 13 = .bool true := f13
          rw [f13] at e27
          have e29 : A.tmps[29]? = some (x 15) := by rw [← hA]; exact putsA_in (i := 15) 29 (by rfl) (by show (29 : Nat) < 40; decide) _ (by decide +kernel) (by decide)
          obtain ⟨_, _, _, f15, _⟩ := hd 15 (by decide)
          replace f15 : x 15 = .int .i64 (j : Int) := f15
          rw [f15] at e29
          clear hA hd
          refine wpOp_step rfl (fun K' hK' => ?_)
          go_simp
          exact hK' _ _ (hK _ _ ⟨0, 0, 0, rfl, al0⟩ (Below.refl _ _) no_al)
        · generalize hA : putsA _ _ x (0 :: 1 :: 2 :: 3 :: 4 :: 5 :: 6 :: 7 :: 8 :: 9 :: 10 :: 11 :: 12 :: 13 :: 14 :: 15 :: 16 :: 17 :: 18 :: 19 :: 20 :: 21 :: 22 :: 23 :: 24 :: []) = A at *
          have e27 : A.tmps[27]? = some (x 13) := by rw [← hA]; exact putsA_in (i := 13) 27 (by rfl) (by show (27 : Nat) < 40; decide) _ (by decide +kernel) (by decide)
          obtain ⟨_, _, _, f13, _⟩ := hd 13 (by decide)
          replace f13 : x 13 = .bool true := f13
          rw [f13] at e27
          have e28 : A.tmps[28]? = some (x 14) := by rw [← hA]; exact putsA_in (i := 14) 28 (by rfl) (by show (28 : Nat) < 40; decide) _ (by decide +kernel) (by decide)
          obtain ⟨_, _, _, f14, _⟩ := hd 14 (by decide)
          replace f14 : x 14 = .slice (some ⟨b, o, none⟩) n c := f14
          rw [f14] at e28
          have e30 : A.tmps[30]? = some (x 16) := by rw [← hA]; exact putsA_in (i := 16) 30 (by rfl) (by show (30 : Nat) < 40; decide) _ (by decide +kernel) (by decide)
          obtain ⟨_, _, _, f16, _⟩ := hd 16 (by decide)
          replace f16 : x 16 = .int .i64 ((j : Int) - 1) := f16
          rw [f16] at e30
          clear hA hd
          refine wpOp_step rfl (fun K' hK' => ?_)
          go_simp
          exact hK' _ _ (hK _ _ ⟨0, 0, 0, rfl, al0⟩ (Below.refl _ _) no_al)
        · generalize hA : putsA _ _ x (0 :: 1 :: 2 :: 3 :: 4 :: 5 :: 6 :: 7 :: 8 :: 9 :: 10 :: 11 :: 12 :: 13 :: 14 :: 15 :: 16 :: 17 :: 18 :: 19 :: 20 :: 21 :: 22 :: 23 :: 24 :: []) = A at *
          have e27 : A.tmps[27]? = some (x 13) := by rw [← hA]; exact putsA_in (i := 13) 27 (by rfl) (by show (27 : Nat) < 40; decide) _ (by decide +kernel) (by decide)
          obtain ⟨_, _, _, f13, _⟩ := hd 13 (by decide)
          replace f13 : x 13 = .bool true := f13
          rw [f13] at e27
          have e31 : A.tmps[31]? = some (x 17) := by rw [← hA]; exact putsA_in (i := 17) 31 (by rfl) (by show (31 : Nat) < 40; decide) _ (by decide +kernel) (by decide)
          obtain ⟨_, _, _, f17, _⟩ := hd 17 (by decide)
          replace f17 : x 17 = .pointer (some ⟨b, o + (j - 1) * 4, none⟩) := f17
          rw [f17] at e31
          clear hA hd
          refine wpOp_step rfl (fun K' hK' => ?_)
          go_simp
          exact hK' _ _ (hK _ _ ⟨0, 0, 0, rfl, al0⟩ (Below.refl _ _) no_al)
        · generalize hA : putsA _ _ x (0 :: 1 :: 2 :: 3 :: 4 :: 5 :: 6 :: 7 :: 8 :: 9 :: 10 :: 11 :: 12 :: 13 :: 14 :: 15 :: 16 :: 17 :: 18 :: 19 :: 20 :: 21 :: 22 :: 23 :: 24 :: []) = A at *
          have e27 : A.tmps[27]? = some (x 13) := by rw [← hA]; exact putsA_in (i := 13) 27 (by rfl) (by show (27 : Nat) < 40; decide) _ (by decide +kernel) (by decide)
          obtain ⟨_, _, _, f13, _⟩ := hd 13 (by decide)
          replace f13 : x 13 = .bool true := f13
          rw [f13] at e27
          have e32 : A.tmps[32]? = some (x 18) := by rw [← hA]; exact putsA_in (i := 18) 32 (by rfl) (by show (32 : Nat) < 40; decide) _ (by decide +kernel) (by decide)
          obtain ⟨_, _, _, f18, _⟩ := hd 18 (by decide)
          replace f18 : x 18 = .pointer (some ⟨b, o + (j - 1) * 4, none⟩) := f18
          rw [f18] at e32
          clear hA hd
          have cp := (cells4_below HCP.out hs.2.2 HG.out).1
          simp only at cp
          refine wpOp_step rfl (fun K' hK' => ?_)
          go_simp
          exact hK' _ _ (hK _ _ ⟨0, 0, 0, rfl, al0⟩ (Below.refl _ _) no_al)
        · generalize hA : putsA _ _ x (0 :: 1 :: 2 :: 3 :: 4 :: 5 :: 6 :: 7 :: 8 :: 9 :: 10 :: 11 :: 12 :: 13 :: 14 :: 15 :: 16 :: 17 :: 18 :: 19 :: 20 :: 21 :: 22 :: 23 :: 24 :: []) = A at *
          have e6 : A.tmps[6]? = some (.pointer (some ⟨wr.heap.size, 0, none⟩)) := by rw [← hA]; exact putsA_at 6 _ (by decide +kernel)
          have e27 : A.tmps[27]? = some (x 13) := by rw [← hA]; exact putsA_in (i := 13) 27 (by rfl) (by show (27 : Nat) < 40; decide) _ (by decide +kernel) (by decide)
          obtain ⟨_, _, _, f13, _⟩ := hd 13 (by decide)
          replace f13 : x 13 = .bool true := f13
          rw [f13] at e27
          clear hA hd
          refine wpOp_step rfl (fun K' hK' => ?_)
          go_simp
          exact hK' _ _ (hK _ _ ⟨0, 0, 0, rfl, al0⟩ (Below.refl _ _) no_al)
        · generalize hA : putsA _ _ x (0 :: 1 :: 2 :: 3 :: 4 :: 5 :: 6 :: 7 :: 8 :: 9 :: 10 :: 11 :: 12 :: 13 :: 14 :: 15 :: 16 :: 17 :: 18 :: 19 :: 20 :: 21 :: 22 :: 23 :: 24 :: []) = A at *
          have e27 : A.tmps[27]? = some (x 13) := by rw [← hA]; exact putsA_in (i := 13) 27 (by rfl) (by show (27 : Nat) < 40; decide) _ (by decide +kernel) (by decide)
          obtain ⟨_, _, _, f13, _⟩ := hd 13 (by decide)
          replace f13 : x 13 = .bool true := f13
          rw [f13] at e27
          have e34 : A.tmps[34]? = some (x 20) := by rw [← hA]; exact putsA_in (i := 20) 34 (by rfl) (by show (34 : Nat) < 40; decide) _ (by decide +kernel) (by decide)
          obtain ⟨_, _, _, f20, _⟩ := hd 20 (by decide)
          replace f20 : x 20 = .pointer (some ⟨wr.heap.size, 0, none⟩) := f20
          rw [f20] at e34
          clear hA hd
          obtain ⟨c0, c1, c2, c3⟩ := cell4 (hs.1 _ (.head _))
          refine wpOp_step rfl (fun K' hK' => ?_)
          go_simp
          exact hK' _ _ (hK _ _ ⟨0, 0, 0, rfl, al0⟩ (Below.refl _ _) no_al)
        · generalize hA : putsA _ _ x (0 :: 1 :: 2 :: 3 :: 4 :: 5 :: 6 :: 7 :: 8 :: 9 :: 10 :: 11 :: 12 :: 13 :: 14 :: 15 :: 16 :: 17 :: 18 :: 19 :: 20 :: 21 :: 22 :: 23 :: 24 :: []) = A at *
          have e27 : A.tmps[27]? = some (x 13) := by rw [← hA]; exact putsA_in (i := 13) 27 (by rfl) (by show (27 : Nat) < 40; decide) _ (by decide +kernel) (by decide)
          obtain ⟨_, _, _, f13, _⟩ := hd 13 (by decide)
          replace f13 : x 13 = .bool true := f13
          rw [f13] at e27
          have e33 : A.tmps[33]? = some (x 19) := by rw [← hA]; exact putsA_in (i := 19) 33 (by rfl) (by show (33 : Nat) < 40; decide) _ (by decide +kernel) (by decide)
          obtain ⟨_, _, _, f19, _⟩ := hd 19 (by decide)
          replace f19 : x 19 = .string kp := f19
          rw [f19] at e33
          have e35 : A.tmps[35]? = some (x 21) := by rw [← hA]; exact putsA_in (i := 21) 35 (by rfl) (by show (35 : Nat) < 40; decide) _ (by decide +kernel) (by decide)
          obtain ⟨_, _, _, f21, _⟩ := hd 21 (by decide)
          replace f21 : x 21 = .string k := f21
          rw [f21] at e35
          clear hA hd
          refine wpOp_step rfl (fun K' hK' => ?_)
          go_simp
          exact hK' _ _ (hK _ _ ⟨0, 0, 0, rfl, al0⟩ (Below.refl _ _) no_al)
        · generalize hA : putsA _ _ x (0 :: 1 :: 2 :: 3 :: 4 :: 5 :: 6 :: 7 :: 8 :: 9 :: 10 :: 11 :: 12 :: 13 :: 14 :: 15 :: 16 :: 17 :: 18 :: 19 :: 20 :: 21 :: 22 :: 23 :: 24 :: []) = A at *
          have e24 : A.tmps[24]? = some (x 10) := by rw [← hA]; exact putsA_in (i := 10) 24 (by rfl) (by show (24 : Nat) < 40; decide) _ (by decide +kernel) (by decide)
          obtain ⟨_, _, _, f10, _⟩ := hd 10 (by decide)
          replace f10 : x 10 = .bool false := f10
          rw [f10] at e24
          have e27 : A.tmps[27]? = some (x 13) := by rw [← hA]; exact putsA_in (i := 13) 27 (by rfl) (by show (27 : Nat) < 40; decide) _ (by decide +kernel) (by decide)
          obtain ⟨_, _, _, f13, _⟩ := hd 13 (by decide)
          replace f13 : x 13 = .bool true := f13
          rw [f13] at e27
          have e36 : A.tmps[36]? = some (x 22) := by rw [← hA]; exact putsA_in (i := 22) 36 (by rfl) (by show (36 : Nat) < 40; decide) _ (by decide +kernel) (by decide)
          obtain ⟨_, _, _, f22, _⟩ := hd 22 (by decide)
          replace f22 : x 22 = .bool (!lessS kp k) := f22
          rw [f22] at e36
          clear hA hd
          refine wpOp_step rfl (fun K' hK' => ?_)
          go_simp
          exact hK' _ _ (hK _ _ ⟨0, 0, 0, rfl, al0⟩ (Below.refl _ _) no_al)
        · generalize hA : putsA _ _ x (0 :: 1 :: 2 :: 3 :: 4 :: 5 :: 6 :: 7 :: 8 :: 9 :: 10 :: 11 :: 12 :: 13 :: 14 :: 15 :: 16 :: 17 :: 18 :: 19 :: 20 :: 21 :: 22 :: 23 :: 24 :: []) = A at *
          have e24 : A.tmps[24]? = some (x 10) := by rw [← hA]; exact putsA_in (i := 10) 24 (by rfl) (by show (24 : Nat) < 40; decide) _ (by decide +kernel) (by decide)
          obtain ⟨_, _, _, f10, _⟩ := hd 10 (by decide)
          replace f10 : x 10 = .bool false := f10
          rw [f10] at e24
          have e37 : A.tmps[37]? = some (x 23) := by rw [← hA]; exact putsA_in (i := 23) 37 (by rfl) (by show (37 : Nat) < 40; decide) _ (by decide +kernel) (by decide)
          obtain ⟨_, _, _, f23, _⟩ := hd 23 (by decide)
          replace f23 : x 23 = .bool (!lessS kp k) := f23
          rw [f23] at e37
          clear hA hd
          refine wpOp_step rfl (fun K' hK' => ?_)
          go_simp
          exact hK' _ _ (hK _ _ ⟨0, 0, 0, rfl, al0⟩ (Below.refl _ _) no_al)
      case hend =>
        intro x W hf hg hb
        have HSE := Lib.hid (bs_below HS.out hb).2.2
        have hl : x 24 = .bool (!lessS kp k) := by
          obtain ⟨_, _, _, h, _⟩ := hf 24 (by decide)
          exact h
        rw [putsA_lit _ _ (0 :: 1 :: 2 :: 3 :: 4 :: 5 :: 6 :: 7 :: 8 :: 9 :: 10 :: 11 :: 12 :: 13 :: 14 :: 15 :: 16 :: 17 :: 18 :: 19 :: 20 :: 21 :: 22 :: 23 :: 24 :: []) ((14, 0) :: (15, 1) :: (16, 2) :: (17, 3) :: (18, 4) :: (19, 5) :: (20, 6) :: (21, 7) :: (22, 8) :: (23, 9) :: (24, 10) :: (25, 11) :: (26, 12) :: (27, 13) :: (28, 14) :: (29, 15) :: (30, 16) :: (31, 17) :: (32, 18) :: (33, 19) :: (34, 20) :: (35, 21) :: (36, 22) :: (37, 23) :: (38, 24) :: []) (by kernel_rfl)]
        simp only [setAll, ↓reduceIte, Nat.reduceAdd, Nat.reduceEqDiff]
        rw [hl]
        clear hf hl hg hb HS HFC HPP
        refine wpAny_done (by kernel_rfl) ?_ _
        refine NoPanic.normal ?_
        cases hls : lessS kp k
        · have HR : Hid (okL innerB none l = false) := Lib.hid (by rw [HQ.out, HPK.out]; simp [hls])
          clear hls HQ HPK HCP
          simp only [Bool.not_false]
          go_wp2
          go_ret
          exact ⟨rbool HR.out.symm, HSE.out⟩
        · have HR : Hid (okL innerB none l = okL innerB (prevK l (j + 1)) (l.drop (j + 1))) := Lib.hid (by rw [HQ.out, HFV.out, HPS.out, decide_eq_true HK.out, HPK.out]; simp [hls])
          clear hls HQ HPK HCP hj1 hj2 hj3 hj4 hj5
          simp only [Bool.not_true]
          go_wp2
          go_roundw
          case rel => exact ⟨j + 1, by omega, by go_num, HR.out, HSE.out⟩
          case measure => simp [intOf]; omega

    · obtain rfl : j = n := by omega
      have HR : Hid (okL innerB none l = true) := Lib.hid (by rw [heq, List.drop_of_length_le (by have := HN.out; omega)]; cases prevK l j <;> rfl)
      clear heq
      go_wp2
      go_ret
      exact ⟨rbool HR.out.symm, hbr⟩
end Go.Proofs.YticpenbebokjdaaDoor
