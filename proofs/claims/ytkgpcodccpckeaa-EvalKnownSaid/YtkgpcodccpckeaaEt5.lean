/- eval.kindOf, eval.Type, the laws' size of any expression. Conditions: how it lies in memory. -/
import Derived.Test.YtkgpcodccpckeaaEt4
namespace Go.Proofs.Ytkgpcodccpckeaa
open Go Go.RowKit
set_option linter.unusedVariables false
set_option linter.unusedSimpArgs false
set_option maxRecDepth 100000 in
set_option maxHeartbeats 4000000 in
theorem kind_zero (v : Val) (tb nm : ByteArray) (n : Int) (A : Option Addr) (c : Nat) (CA : Option Addr) (cn cc : Nat) (w : World) :
    Calls Try.prog 31 #[exV ⟨20, v, tb, nm, n, A, 0, c⟩, .slice CA cn cc, .bool true] w fun e w' => e = .returned (.tuple #[.int .u8 1, .int .i64 0]) ∧ Below w.heap.size w w' := by
  have HG := Lib.hid (fun W => grouped_any 20 W)
  obtain ⟨vk, vn, vs⟩ := v
  have HX := Lib.hid (kd_new w ⟨20, (vk, vn, vs), tb, nm, n, A, 0, c⟩)
  go_enter Try.func31, Try.ntmps31
  go_wp2_with fail
  refine (HG.out _).mono ?_
  rintro e w2 ⟨rfl, rfl⟩
  rw [show groupedB 20 = true from rfl]
  go_wp2
  go_loopw [35] (fun i wr => i = .int .i64 0 ∧ Kd w ⟨20, (vk, vn, vs), tb, nm, n, A, 0, c⟩ 0 0 wr) (fun _ _ => 0)
  case atStart => exact ⟨rfl, HX.out⟩
  case round =>
    clear HX
    obtain ⟨rfl, hkd⟩ := hrel
    obtain ⟨c0, c7, a0⟩ := kd_cells hkd
    have hs := kd_below hkd (Below.refl _ _).drew
    have HT := Lib.hid (fun (W : World) (h : Kd w ⟨20, (vk, vn, vs), tb, nm, n, A, 0, c⟩ 0 0 W) => tog_20 (some ⟨w.heap.size + 1, 0, none⟩) 0 2 W)
    clear hkd
    go_wp2_with fail
    go_region_held3 (fun W => W.cell? ⟨w.heap.size, 0, none⟩ = some (.int .u8 20) ∧ W.cell? ⟨w.heap.size, 7, none⟩ = some (.slice A 0 c))
      (with_reducible exact kd_two (by assumption))
      (first | (go_at_call 42; (with_reducible refine (HT.out _ (by assumption)).mono ?_); rintro e w5 ⟨rfl, rfl⟩))
    all_goals
      go_wp2
      go_ret2
      exact ⟨rfl, hs.2.2⟩
theorem fits_op {op : Int} {m : Nat} (h : fitsB op m = true) : 1 ≤ op ∧ op ≤ 23 ∧ m ≤ 2 ∧ (3 ≤ op → m = 0 → op = 20) := by
  unfold fitsB at h
  repeat' split at h
  all_goals
    simp at h
    omega
/-- kindOf, of any expression that may be -/
theorem kind_tree (cols : List Int) (CA : Option Addr) (cn cc : Nat) (hn : cn = cols.length) (T : XT) : ∀ (w : World) (g : Bool), InT w w.heap.size T → U8s w w.heap.size CA cols → (∃ d, mayP cn T d = true) →
    Calls Try.prog 31 #[exV T.ex, .slice CA cn cc, .bool g] w fun e w' => e = .returned (.tuple #[.int .u8 (kindP cols T g).1, .int .i64 (kindP cols T g).2]) ∧ Below w.heap.size w w' := by
  induction T using xt_ind with
  | h op v tb nm n A c ks ih =>
    intro w g hin hV hM
    obtain ⟨d, hM⟩ := hM
    cases hin with
    | mk _ _ _ _ _ _ _ _ h0 h1 h2 h3 h4 hk hi =>
    show Calls Try.prog 31 #[exV ⟨op, v, tb, nm, n, A, ks.length, c⟩, .slice CA cn cc, .bool g] w _
    rw [mayP, Bool.and_eq_true, Bool.and_eq_true] at hM
    obtain ⟨⟨_, hH⟩, hL⟩ := hM
    unfold mayH at hH
    rw [Bool.and_eq_true, Bool.and_eq_true] at hH
    obtain ⟨⟨hf, hc1⟩, hc2⟩ := hH
    obtain ⟨f1, f2, f3, f4⟩ := fits_op hf
    rw [kindP]
    by_cases o1 : op = 1
    · subst o1
      rw [if_pos rfl]
      exact kind_leaf v tb nm n A ks.length c CA cn cc g w
    rw [if_neg o1]
    by_cases o2 : op = 2
    · subst o2
      rw [if_pos rfl]
      have hr : 0 ≤ n ∧ n < cn := by simpa using hc2
      obtain ⟨p, rfl⟩ : ∃ p : Nat, (p : Int) = n := ⟨n.toNat, by omega⟩
      exact kind_col v tb nm p A ks.length c cols CA cn cc g w hV hn (by omega)
    rw [if_neg o2]
    by_cases og : (groupedB op && !g) = true
    · rw [if_pos og]
      rw [Bool.and_eq_true] at og
      obtain rfl : g = false := by simpa using og.2
      exact kind_group op v tb nm n A ks.length c CA cn cc w og.1 o1 o2
    rw [if_neg og]
    have hgg : groupedB op = true → g = true := fun h => by
      rw [h] at og
      cases g
      · exact absurd rfl og
      · rfl
    rcases Nat.eq_zero_or_pos ks.length with hl | hl
    · have o20 := f4 (by omega) hl
      subst o20
      obtain rfl := List.length_eq_zero_iff.1 hl
      have hgt := hgg rfl
      subst hgt
      exact kind_zero v tb nm n A c CA cn cc w
    · refine kind_node op v tb nm n A ks.length c ks cols CA cn cc w g _ _ rfl rfl hgg (by omega) f2 rfl f3 hl hk ?_
      intro j x hx W hW
      have hm := List.mem_of_getElem? hx
      refine ih x hm W _ (int_step (hi x hm) hW) (u8s_step hV hW) ⟨if groupedB op then d - 1 else d, ?_⟩
      rw [all_map] at hL
      have := List.all_eq_true.1 hL (mayP cn x (if groupedB op then d - 1 else d)) (List.mem_map_of_mem hm)
      exact this
def typeP (cols : List Int) (T : XT) (g : Bool) : Int × Int := if mayP cols.length T 4611686018427387904 = true then kindP cols T g else (0, 2)
set_option maxRecDepth 100000 in
set_option maxHeartbeats 4000000 in
theorem type_walk (cn cc : Nat) (CA : Option Addr) (op vk vn : Int) (vs tb nm : ByteArray) (n : Int) (A : Option Addr) (m c : Nat) (g B : Bool) (r1 r2 : Int) (w : World)
    (HM : Hid (∀ W : World, Below w.heap.size w W → Calls Try.prog 30 #[exV ⟨op, (vk, vn, vs), tb, nm, n, A, m, c⟩, .int .i64 cn, .int .i64 4611686018427387904] W fun e w' => e = .returned (.bool B) ∧ Below W.heap.size W w'))
    (HK : Hid (B = true → ∀ W : World, Below w.heap.size w W → Calls Try.prog 31 #[exV ⟨op, (vk, vn, vs), tb, nm, n, A, m, c⟩, .slice CA cn cc, .bool g] W fun e w' => e = .returned (.tuple #[.int .u8 r1, .int .i64 r2]) ∧ Below W.heap.size W w')) (hr : B = false → r1 = 0 ∧ r2 = 2) :
    Calls Try.prog 11 #[exV ⟨op, (vk, vn, vs), tb, nm, n, A, m, c⟩, .slice CA cn cc, .bool g] w fun e w' => e = .returned (.tuple #[.int .u8 r1, .int .i64 r2]) ∧ Below w.heap.size w w' := by
  have HB := Lib.hid (bx_new w ⟨op, (vk, vn, vs), tb, nm, n, A, m, c⟩)
  cases B
  · obtain ⟨rfl, rfl⟩ := hr rfl
    clear HK hr
    go_enter Try.func11, Try.ntmps11
    go_wp2_with fail
    refine (HM.out _ HB.out.2).mono ?_
    rintro e w2 ⟨rfl, hb2⟩
    have HB2 := Lib.hid (bx_below HB.out hb2)
    clear hb2 HM
    go_wp2
    go_ret2
    exact ⟨rfl, HB2.out.2⟩
  · have HK2 := Lib.hid (HK.out rfl)
    clear HK hr
    go_enter Try.func11, Try.ntmps11
    go_wp2_with fail
    refine (HM.out _ HB.out.2).mono ?_
    rintro e w2 ⟨rfl, hb2⟩
    have HB2 := Lib.hid (bx_below HB.out hb2)
    obtain ⟨c0, c1, c2, c3, c4, c5, c6, c7⟩ := bx_cells (bx_below HB.out hb2)
    clear hb2 HM
    go_wp2_with fail
    refine (HK2.out _ HB2.out.2).mono ?_
    rintro e w3 ⟨rfl, hb3⟩
    have HB3 := Lib.hid (bx_below HB2.out hb3)
    clear hb3 HK2
    go_wp2
    go_ret2
    exact ⟨rfl, HB3.out.2⟩
theorem type_tree (cols : List Int) (CA : Option Addr) (cn cc : Nat) (hn : cn = cols.length) (T : XT) (w : World) (g : Bool) (hin : InT w w.heap.size T) (hV : U8s w w.heap.size CA cols) :
    Calls Try.prog 11 #[exV T.ex, .slice CA cn cc, .bool g] w fun e w' => e = .returned (.tuple #[.int .u8 (typeP cols T g).1, .int .i64 (typeP cols T g).2]) ∧ Below w.heap.size w w' := by
  have HP : typeP cols T g = if mayP cn T 4611686018427387904 = true then kindP cols T g else (0, 2) := by unfold typeP; rw [hn]
  have h1 := fun (W : World) (hb : Below w.heap.size w W) => may_tree cn T W 4611686018427387904 (int_step hin hb) (by omega) (by omega)
  have h2 := fun (hm : mayP cn T 4611686018427387904 = true) (W : World) (hb : Below w.heap.size w W) => kind_tree cols CA cn cc hn T W g (int_step hin hb) (u8s_step hV hb) ⟨_, hm⟩
  generalize mayP cn T 4611686018427387904 = B at *
  generalize hz : typeP cols T g = z at *
  clear hin hV
  generalize kindP cols T g = z' at *
  obtain ⟨op, ⟨vk, vn, vs⟩, tb, nm, n, A, c, ks⟩ := T
  refine type_walk cn cc CA op vk vn vs tb nm n A ks.length c g B z.1 z.2 w (Lib.hid h1) (Lib.hid fun hB W hW => ?_) (fun hB => ?_)
  · have := h2 hB W hW
    rw [HP, if_pos hB]
    exact this
  · rw [HP, hB]
    exact ⟨rfl, rfl⟩
mutual
/-- how great an expression is, as the laws reckon it -/
def szT : XT → Nat → Nat
  | .mk _ v _ _ _ _ _ ks, d => if 200 < d then 9000 else szL ks d (1 + v.2.2.size / 64)
def szL : List XT → Nat → Nat → Nat
  | [], _, n => n
  | x :: l, d, n => if 9000 < n + szT x (d + 1) then n + szT x (d + 1) else szL l d (n + szT x (d + 1))
end
theorem szL_le (d B : Nat) : ∀ (l : List XT) (n : Nat), n ≤ 2199023255489 → (∀ x ∈ l, szT x (d + 1) ≤ B) → szL l d n ≤ 2199023255489 + B
  | [], n, h, _ => by rw [szL]; omega
  | x :: l, n, h, hb => by
    have hx := hb x (List.mem_cons_self ..)
    rw [szL]
    split
    · omega
    · exact szL_le d B l _ (by omega) (fun y hy => hb y (List.mem_cons_of_mem _ hy))
theorem szT_le {w : World} {B : Nat} {T : XT} (h : InT w B T) : ∀ d, d ≤ 201 → szT T d ≤ 2199023264489 * (202 - d) := by
  induction h with
  | mk op v tb nm n A c ks h0 h1 h2 h3 h4 hk hi ih =>
    intro d hd
    rw [szT]
    split
    · omega
    · have := szL_le d (2199023264489 * (202 - (d + 1))) ks (1 + v.2.2.size / 64) (by omega) (fun x hx => ih x hx (d + 1) (by omega))
      omega
theorem szL_ge : ∀ (l : List XT) (d n : Nat), n ≤ szL l d n
  | [], _, n => by rw [szL]; exact Nat.le_refl _
  | x :: l, d, n => by
    rw [szL]
    split
    · omega
    · have := szL_ge l d (n + szT x (d + 1)); omega
theorem szT_pos (T : XT) (d : Nat) : 1 ≤ szT T d := by
  obtain ⟨op, v, tb, nm, n, A, c, ks⟩ := T
  rw [szT]
  split
  · omega
  · have := szL_ge ks d (1 + v.2.2.size / 64); omega
theorem szL_small (d : Nat) : ∀ (l : List XT) (n : Nat), szL l d n ≤ 300 → l.length + n ≤ 300 ∧ ∀ x ∈ l, szT x (d + 1) ≤ 300
  | [], n, h => by rw [szL] at h; exact ⟨by simpa using h, fun x hx => by cases hx⟩
  | x :: l, n, h => by
    rw [szL] at h
    split at h
    · omega
    · obtain ⟨h1, h2⟩ := szL_small d l _ h
      have hp := szT_pos x (d + 1)
      have hg := szL_ge l d (n + szT x (d + 1))
      refine ⟨by simp only [List.length_cons]; omega, fun y hy => ?_⟩
      rcases List.mem_cons.1 hy with rfl | hy
      · omega
      · exact h2 y hy
theorem sm_of (T : XT) : ∀ d, szT T d ≤ 300 → Sm d T := by
  induction T using xt_ind with
  | h op v tb nm n A c ks ih =>
    intro d h
    rw [szT] at h
    split at h
    · omega
    · obtain ⟨h1, h2⟩ := szL_small d ks _ h
      exact .mk d op v tb nm n A c ks (by omega) (by omega) (fun k hk => ih k hk (d + 1) (h2 k hk))
set_option maxRecDepth 100000 in
set_option maxHeartbeats 4000000 in
theorem size_deep (op : Int) (v : Val) (tb nm : ByteArray) (n : Int) (A : Option Addr) (m c : Nat) (d : Int) (w : World) (hd : 200 < d) (hs : v.2.2.size ≤ 140737488351232) :
    Calls Try.prog 22 #[exV ⟨op, v, tb, nm, n, A, m, c⟩, .int .i64 d] w fun e w' => e = .returned (.int .i64 9000) ∧ Below w.heap.size w w' := by
  obtain ⟨vk, vn, vs⟩ := v
  have hx := bx_new w ⟨op, (vk, vn, vs), tb, nm, n, A, m, c⟩
  have hdd : decide (200 < d) = true := decide_eq_true hd
  clear hd hs
  go_enter Try.func22, Try.ntmps22
  go_wp2
  go_ret
  exact ⟨rfl, hx.2⟩
set_option maxRecDepth 100000 in
set_option maxHeartbeats 4000000 in
theorem size_leaf (op : Int) (v : Val) (tb nm : ByteArray) (n : Int) (A : Option Addr) (m c : Nat) (d : Nat) (w : World) (hd : d ≤ 200) (hs : v.2.2.size ≤ 140737488351232) (hm : m = 0) :
    Calls Try.prog 22 #[exV ⟨op, v, tb, nm, n, A, m, c⟩, .int .i64 d] w fun e w' => e = .returned (.int .i64 ((1 + v.2.2.size / 64 : Nat) : Int)) ∧ Below w.heap.size w w' := by
  obtain ⟨vk, vn, vs⟩ := v
  have hx := bx_new w ⟨op, (vk, vn, vs), tb, nm, n, A, m, c⟩
  have hdd : decide (200 < (d : Int)) = false := decide_eq_false (by omega)
  have hw0 : wrap64 ((vs.size : Int) / 64) = ((vs.size / 64 : Nat) : Int) := by simp only at hs; unfold wrap64; omega
  have hw1 : wrap64 (1 + ((vs.size / 64 : Nat) : Int)) = ((1 + vs.size / 64 : Nat) : Int) := by simp only at hs; unfold wrap64; omega
  subst hm
  simp only
  clear hs hd
  generalize (1 + vs.size / 64) = NN at *
  generalize (vs.size / 64) = QQ at *
  go_enter Try.func22, Try.ntmps22
  go_wp2
  try rw [hw0]
  try rw [hw1]
  go_loopw [5, 19] (fun nv i wr => i = .int .i64 0 ∧ nv = .int .i64 NN ∧ Below w.heap.size w wr) (fun _ _ _ => 0)
  case atStart => exact ⟨rfl, rfl, hx.2⟩
  case round =>
    obtain ⟨rfl, rfl, hb⟩ := hrel
    go_wp2
    go_ret
    exact ⟨rfl, hb⟩
set_option maxRecDepth 100000 in
set_option maxHeartbeats 4000000 in
theorem size_node (op : Int) (v : Val) (tb nm : ByteArray) (n : Int) (A : Option Addr) (m c : Nat) (ks : List XT) (d d1 : Nat) (w : World) (hd1 : d1 = d + 1) (hd : d ≤ 200) (hs : v.2.2.size ≤ 140737488351232) (hm : m = ks.length) (hm0 : 0 < m) (hml : m ≤ maxLen) (hK : Kids w w.heap.size A (ks.map XT.ex))
    (hB : ∀ x ∈ ks, szT x d1 ≤ 1000000000000000)
    (hk : ∀ (j : Nat) x, ks[j]? = some x → ∀ W, Below w.heap.size w W → Calls Try.prog 22 #[exV x.ex, .int .i64 d1] W fun e w' => e = .returned (.int .i64 (szT x d1 : Nat)) ∧ Below W.heap.size W w') :
    Calls Try.prog 22 #[exV ⟨op, v, tb, nm, n, A, m, c⟩, .int .i64 d] w fun e w' => e = .returned (.int .i64 ((szL ks d (1 + v.2.2.size / 64) : Nat) : Int)) ∧ Below w.heap.size w w' := by
  obtain ⟨vk, vn, vs⟩ := v
  have hx := bx_new w ⟨op, (vk, vn, vs), tb, nm, n, A, m, c⟩
  have hdd : decide (200 < (d : Int)) = false := decide_eq_false (by omega)
  have hw0 : wrap64 ((vs.size : Int) / 64) = ((vs.size / 64 : Nat) : Int) := by simp only at hs; unfold wrap64; omega
  have hw1 : wrap64 (1 + ((vs.size / 64 : Nat) : Int)) = ((1 + vs.size / 64 : Nat) : Int) := by simp only at hs; unfold wrap64; omega
  obtain ⟨b, o, rfl, hbl, hc⟩ := kids_get hK (fun e => by have := congrArg List.length e; simp at this; rw [this] at hm; simp at hm; omega)
  have HC := Lib.hid hc
  have HBL := Lib.hid hbl
  have HK := Lib.hid hk
  have HN := Lib.hid hm
  have HZB := Lib.hid hB
  have HD1 := Lib.hid hd1
  have hmI : (m : Int) ≤ 9223372036854775807 := by have := maxLen_val; omega
  have hwd : IntKind.i64.wrap ((d : Int) + 1) = (d1 : Int) := by rw [IntKind.wrap_i64]; omega
  have hN0 : 1 + vs.size / 64 ≤ 2199023255489 := by simp only at hs; omega
  simp only
  clear hs hd hm hm0 hml hK hB hk hbl hc hd1
  generalize (1 + vs.size / 64) = NN at *
  generalize (vs.size / 64) = QQ at *
  obtain ⟨Z, hZ⟩ : ∃ Z, szL ks d NN = Z := ⟨_, rfl⟩
  have HN0 := Lib.hid (And.intro hN0 hZ)
  rw [hZ]
  clear hN0 hZ
  go_enter Try.func22, Try.ntmps22
  go_wp2
  try rw [hw0]
  try rw [hw1]
  go_loopw [5, 19] (fun nv i wr => ∃ j N : Nat, j ≤ m ∧ i = .int .i64 j ∧ nv = .int .i64 N ∧ N ≤ 2199023255489 ∧ szL (ks.drop j) d N = Z ∧ Below w.heap.size w wr) (fun _ i _ => m - (intOf i).toNat)
  case atStart => exact ⟨0, NN, by omega, rfl, rfl, HN0.out.1, HN0.out.2, hx.2⟩
  case round =>
    clear HN0
    obtain ⟨j, N, hj, rfl, rfl, hNl, hz, hb⟩ := hrel
    by_cases hjm : j < m
    · have hjl : j < ks.length := by have := HN.out; omega
      have hjx : (ks.map XT.ex)[j]? = some ks[j].ex := by rw [List.getElem?_map, List.getElem?_eq_getElem hjl]; rfl
      obtain ⟨a0, a1, a2, a3, a4, a5, a6, a7⟩ := cells8_below (HC.out j _ hjx) hb HBL.out
      have hkc := HK.out j ks[j] (List.getElem?_eq_getElem hjl)
      have hzb := HZB.out ks[j] (List.getElem_mem hjl)
      have hd : ks.drop j = ks[j] :: ks.drop (j + 1) := List.drop_eq_getElem_cons hjl
      rw [hd, szL, ← HD1.out] at hz
      generalize ks[j] = y at *
      obtain ⟨yo, ⟨y1, y2, y3⟩, yt, yn, yN, yA, yc, yk⟩ := y
      simp only [XT.ex] at a0 a1 a2 a3 a4 a5 a6 a7
      have hb1 := hb.alloc hb.size (.cells (exC (XT.mk yo (y1, y2, y3) yt yn yN yA yc yk).ex) 29)
      have HKC := Lib.hid hkc
      generalize szT (XT.mk yo (y1, y2, y3) yt yn yN yA yc yk) d1 = SS at *
      obtain ⟨N2, hN2⟩ : ∃ N2 : Nat, N + SS = N2 := ⟨_, rfl⟩
      have hwn : IntKind.i64.wrap ((N : Int) + (SS : Int)) = (N2 : Int) := by rw [IntKind.wrap_i64]; omega
      rw [hN2] at hz
      have HB1 := Lib.hid hb1
      clear hkc hd hjx hzb hN2 hNl hb hb1
      by_cases h9 : 9000 < N2
      · rw [if_pos h9] at hz
        subst hz
        have h9I : decide (9000 < (N2 : Int)) = true := decide_eq_true (by omega)
        clear h9
        go_wp2_with fail
        refine (HKC.out _ HB1.out).mono ?_
        rintro e w5 ⟨rfl, hb5⟩
        have HB5 := Lib.hid (bj HB1.out hb5)
        clear hb5 HKC HB1
        go_wp2
        go_ret
        exact ⟨rfl, HB5.out⟩
      · rw [if_neg h9] at hz
        have h9I : decide (9000 < (N2 : Int)) = false := decide_eq_false (by omega)
        have HZ := Lib.hid (And.intro (show N2 ≤ 2199023255489 by omega) hz)
        clear h9 hz
        go_wp2_with fail
        refine (HKC.out _ HB1.out).mono ?_
        rintro e w5 ⟨rfl, hb5⟩
        have HB5 := Lib.hid (bj HB1.out hb5)
        clear hb5 HKC HB1
        go_wp2
        go_roundw
        case rel => exact ⟨j + 1, N2, by omega, by go_num, rfl, HZ.out.1, HZ.out.2, HB5.out⟩
        case measure => simp [intOf]; omega
    · obtain rfl : j = m := by omega
      rw [List.drop_of_length_le (by have := HN.out; omega), szL] at hz
      subst hz
      clear hNl
      go_wp2
      go_ret
      exact ⟨rfl, hb⟩
/-- the laws' size, of any expression -/
theorem size_tree (T : XT) : ∀ (w : World) (d : Nat), InT w w.heap.size T → d ≤ 201 →
    Calls Try.prog 22 #[exV T.ex, .int .i64 d] w fun e w' => e = .returned (.int .i64 (szT T d : Nat)) ∧ Below w.heap.size w w' := by
  induction T using xt_ind with
  | h op v tb nm n A c ks ih =>
    intro w d hin hd
    cases hin with
    | mk _ _ _ _ _ _ _ _ h0 h1 h2 h3 h4 hk hi =>
    show Calls Try.prog 22 #[exV ⟨op, v, tb, nm, n, A, ks.length, c⟩, .int .i64 d] w _
    rw [szT]
    by_cases h200 : 200 < d
    · rw [if_pos h200]
      exact size_deep op v tb nm n A ks.length c d w (by omega) h3
    rw [if_neg h200]
    rcases Nat.eq_zero_or_pos ks.length with hl | hl
    · obtain rfl := List.length_eq_zero_iff.1 hl
      rw [szL]
      exact size_leaf op v tb nm n A 0 c d w (by omega) h3 rfl
    · refine size_node op v tb nm n A ks.length c ks d (d + 1) w rfl (by omega) h3 rfl hl h4 hk (fun x hx => ?_) (fun j x hx W hW => ?_)
      · have := szT_le (hi x hx) (d + 1) (by omega)
        omega
      · have hm := List.mem_of_getElem? hx
        exact ih x hm W (d + 1) (int_step (hi x hm) hW) (by omega)
end Go.Proofs.Ytkgpcodccpckeaa
