/- Layer 5: Checkpoint. Conditions: those of each lemma. -/
import Derived.Test.YthipaabjmlgjmaaMwE
namespace Go.Proofs.Ythipaabjmlgjmaa
open Go.RowKit Go Go.Maps
set_option linter.unusedVariables false
set_option linter.unusedSimpArgs false
/-- the writes of a Checkpoint: of the first so many pages -/
def chkW (l : Lg) : Nat → List Sp
  | 0 => []
  | k + 1 => chkW l k ++ (match frL l.fs ((k : Int) + 1) with | some s => [.wr 0 ((k : Int) * 8) s] | none => [])
theorem chkW_len (l : Lg) : ∀ k, (chkW l k).length ≤ k
  | 0 => Nat.le_refl _
  | k + 1 => by
    have ih := chkW_len l k
    rw [chkW, List.length_append]
    split <;> simp <;> omega
def nxt (N : Nat) : Nat := (N + 1) % 18446744073709551616
def chkS (l : Lg) : List Sp := chkW l l.P ++ [.cut, .sm, .lay (bstr (headL (nxt l.N) 0 l.P)), .sy]
def chkL (l k : Lg) : Lg := { N := nxt l.N, F := 0, P := l.P, hd := k.hd, fs := [], e := startP (nxt l.N), torn := k.torn, off := k.off }
/-- what Checkpoint does, and what it answers -/
def chkD (d : Dk) (l : Lg) : (Dk × Lg) × Int :=
  if l.fs = [] then ((d, l), 0) else if (doneD (chkS l) d l).2 ≠ 0 then doneD (chkS l) d l
  else (((doneD (chkS l) d l).1.1, chkL l (doneD (chkS l) d l).1.2), 0)
theorem frL_mem {fs : List Fx} {n : Int} {s : ByteArray} (h : frL fs n = some s) : ∃ x ∈ fs, (x.pg : Int) = n ∧ x.dt = s := by
  unfold frL at h
  rcases hf : fs.reverse.find? (fun x => decide ((x.pg : Int) = n)) with _ | x
  · rw [hf] at h; cases h
  · rw [hf] at h
    have h1 := List.find?_some hf
    have h2 := List.mem_of_find?_eq_some hf
    exact ⟨x, List.mem_reverse.1 h2, of_decide_eq_true h1, by simpa using h⟩
/-- steps and the values that stand for them -/
def SpVs (W : World) (S : Nat → Prop) (q : Nat) (sps : List Sp) (vs : List Value) : Prop := vs.length = sps.length ∧ ∀ (j : Nat) sp, sps[j]? = some sp → ∃ v, vs[j]? = some v ∧ SpV W S q sp v
theorem spVs_below {W W' : World} {S : Nat → Prop} {q : Nat} {sps : List Sp} {vs : List Value} (h : SpVs W S q sps vs) (hb : Below W.heap.size W W') : SpVs W' S q sps vs := ⟨h.1, fun j sp hj => by
  obtain ⟨v, h1, h2⟩ := h.2 j sp hj
  exact ⟨v, h1, spV_fr (S := S) (fr_of hb) (fun b hb => .inl hb) sp v h2⟩⟩
theorem spVs_app {W : World} {S : Nat → Prop} {q : Nat} {a b : List Sp} {u v : List Value} (h : SpVs W S q a u) (k : SpVs W S q b v) : SpVs W S q (a ++ b) (u ++ v) := ⟨by rw [List.length_append, List.length_append, h.1, k.1], fun j sp hj => by
  rw [List.getElem?_append] at hj ⊢
  rw [h.1]
  split
  · rename_i hl
    rw [if_pos hl] at hj
    exact h.2 j sp hj
  · rename_i hl
    rw [if_neg hl] at hj
    exact k.2 _ sp hj⟩
theorem spV_blk {W W' : World} {S : Nat → Prop} {q : Nat} (hk : ∀ k t cs, Blk W k t cs → t ≠ 86 → Blk W' k t cs) : ∀ (sp : Sp) (v : Value), SpV W S q sp v → SpV W' S q sp v
  | .wr f a s, v, ⟨h0, k0, k1, k2, k3, hv, h1, h2, h3, h4, n⟩ => ⟨h0, k0, k1, k2, k3, hv, hk _ _ _ h1 (by decide), hk _ _ _ h2 (by decide), hk _ _ _ h3 (by decide), hk _ _ _ h4 (by decide), n⟩
  | .sy, v, h => h
  | .lay s, v, ⟨h0, k0, k1, hv, h1, h2, n⟩ => ⟨h0, k0, k1, hv, hk _ _ _ h1 (by decide), hk _ _ _ h2 (by decide), n⟩
  | .cut, v, h => h
  | .sm, v, ⟨k0, hv, h1, n1⟩ => ⟨k0, hv, hk _ _ _ h1 (by decide), n1⟩
theorem grown_blk {W W' : World} {base n k : Nat} {v : Value} {vs : List Value} (ho : W.ownsRow base 86 1 v n vs) (hg : W.grownBy W' v.ownBlock) {t : TypeId} {cs : Array Value} (hk : Blk W k t cs) (hne : t ≠ 86) : Blk W' k t cs :=
  (hg.block k hk.lt (fun e => row_ne_blk ho hk hne.symm e.symm)).trans hk
theorem spVs_grown {W W' : World} {S : Nat → Prop} {q base n : Nat} {v : Value} {us vs : List Value} {sps : List Sp} (h : SpVs W S q sps vs) (ho : W.ownsRow base 86 1 v n us) (hg : W.grownBy W' v.ownBlock) : SpVs W' S q sps vs := ⟨h.1, fun j sp hj => by
  obtain ⟨u, h1, h2⟩ := h.2 j sp hj
  exact ⟨u, h1, spV_blk (fun k t cs hk hne => grown_blk ho hg hk hne) sp u h2⟩⟩
/-- in the midst of a Checkpoint's steps -/
structure Ck (w : World) (S : Nat → Prop) (q : Nat) (l : Lg) (k : Nat) (A : Option Addr) (n c : Nat) (vs : List Value) (W : World) : Prop where
  bel : Below w.heap.size w W
  bx : PtrBlk W w.heap.size q
  row : W.ownsRow (w.heap.size + 1) 86 1 (.slice A n c) n vs
  sp : SpVs W S q (chkW l k) vs
  len : n = vs.length
theorem ck_below {w W W' : World} {S : Nat → Prop} {q : Nat} {l : Lg} {k n c : Nat} {A : Option Addr} {vs : List Value} (h : Ck w S q l k A n c vs W) (hb : Below W.heap.size W W') : Ck w S q l k A n c vs W' := ⟨bj h.bel hb, blk_step h.bx hb, own_lies h.row hb, spVs_below h.sp hb, h.len⟩
theorem two_one (a b : Value) (ha : a.oneCell' = true) (hb : b.oneCell' = true) : ∀ u ∈ [a, b], u.oneCell' = true := by
  intro u hu
  simp at hu
  rcases hu with rfl | rfl
  · exact ha
  · exact hb
theorem lgAt_clear {w : World} {S Sd : Nat → Prop} {g q : Nat} {A : Option Addr} {c : Nat} {d : Dk} {N : Nat} {l : Lg} (h : LgAt w S Sd g q A c d N l) : LgAt (w.setCell ⟨q, 5, none⟩ (.slice none 0 0)) S Sd g q none 0 d N { l with fs := [] } := by
  have hf := fr_set (S := fun b => b = q) (fr_refl _ w) (p := ⟨q, 5, none⟩) (.inl rfl) (.slice none 0 0)
  have hb := h.blk.set_ 5 (.slice none 0 0)
  exact { dk := dkS_keep h.dk hf (fun b hb e => h.nq (e ▸ hb)), blk := hb, row := World.ownsRow_nil _ _ _ _, nq := h.nq, nz := fun z hz => (by cases hz), sd := h.sd, sq := h.sq, sz := fun z hz => (by cases hz), lt := fun b hb => Nat.lt_of_lt_of_le (h.lt b hb) hf.size, fit := h.fit, ub := ⟨h.ub.1, h.ub.2.1, h.ub.2.2.1, Nat.zero_le _⟩, fok := fun x hx => (by cases hx) }
set_option maxRecDepth 100000 in
set_option maxHeartbeats 32000000 in
theorem check_any {S : Nat → Prop} {g q : Nat} {d : Dk} {N : Nat} {l : Lg} {w : World} (h : LgS w S g q d N l) (hoff : l.off = false) (ht : l.torn = false) (hN : N + 260 ≤ 1000000) :
    Calls Try.prog 17 #[lp q] w fun e w' => e = .returned (.int .i64 (chkD d l).2) ∧ LgR w S g q (chkD d l).1.1 (N + 260) (chkD d l).1.2 w' := by
  have HS0 := Lib.hid h
  have HUP := Lib.hid (lgS_to h 260 hN)
  have HT := Lib.hid ht
  obtain ⟨Sd, A0, c0, h0⟩ := h
  have H0 := Lib.hid h0
  have hfb := h0.ub.2.2.2
  have hpb := h0.ub.2.2.1
  obtain ⟨nf, hnf⟩ : ∃ nf, nf = l.fs.length := ⟨_, rfl⟩
  obtain ⟨P, hP⟩ : ∃ P, P = l.P := ⟨_, rfl⟩
  rw [← hnf] at hfb
  rw [← hP] at hpb
  have HNF := Lib.hid hnf
  have HP := Lib.hid hP
  have hnfI : (nf : Int) ≤ 256 := by omega
  have hPI : (P : Int) ≤ 256 := by omega
  have HC := Lib.hid (show ∀ W, Below w.heap.size w W → LgAt W S Sd g q A0 c0 d N l ∧ W.cell? ⟨q, 1, none⟩ = some (.int .u64 l.N) ∧ W.cell? ⟨q, 3, none⟩ = some (.int .i64 P) ∧ W.cell? ⟨q, 5, none⟩ = some (.slice A0 nf c0) ∧ W.cell? ⟨q, 9, none⟩ = some (.bool false) from fun W hb => by
    have hh := lgAt_below h0 hb
    obtain ⟨-, x1, -, x3, -, x5, -, -, -, x9⟩ := lg_cells hh
    rw [hoff] at x9
    rw [← hP] at x3
    rw [← hnf] at x5
    exact ⟨hh, x1, x3, x5, x9⟩)
  obtain ⟨RR, hRR⟩ : ∃ RR, chkD d l = RR := ⟨_, rfl⟩
  rw [hRR]
  rw [chkD] at hRR
  have HRR := Lib.hid hRR
  clear hRR h0 hnf hP hoff ht
  have hb0 := allocB (w := w) (o := .cells #[lp q] 24)
  have hbx0 := Blk.new w 24 #[lp q]
  generalize hW0 : w.alloc (.cells #[lp q] 24) = W0 at *
  have HB0 := Lib.hid hb0
  have HX0 := Lib.hid hbx0
  have y0 : W0.cell? ⟨w.heap.size, 0, none⟩ = some (lp q) := hbx0.cell 0
  obtain ⟨-, -, x3, x5, x9⟩ := HC.out W0 hb0
  clear hb0 hbx0
  subst hW0
  go_enter Try.func17, Try.ntmps17
  by_cases hz : nf = 0
  · subst hz
    have hfs : l.fs = [] := List.eq_nil_of_length_eq_zero HNF.out.symm
    have hRR := HRR.out
    rw [if_pos hfs] at hRR
    subst hRR
    clear HRR
    go_wp2_with fail
    go_ret
    exact ⟨rfl, lgR_below (lgR_refl HUP.out) HB0.out⟩
  have hzI : ((nf : Int) == 0) = false := by simp; omega
  have hfs : l.fs ≠ [] := fun e => hz (by rw [HNF.out, e]; rfl)
  have hRR := HRR.out
  rw [if_neg hfs] at hRR
  clear HRR hfs hz
  obtain ⟨DD, hDD⟩ : ∃ DD, doneD (chkS l) d l = DD := ⟨_, rfl⟩
  rw [hDD] at hRR
  have HRR := Lib.hid hRR
  have HDD := Lib.hid hDD
  clear hRR hDD
  go_wp2_with fail
  refine (mended_calm ⟨Sd, A0, c0, (HC.out _ HB0.out).1⟩ HT.out).mono ?_
  rintro e w1 ⟨rfl, rfl⟩
  have HCK := Lib.hid (show Ck w S q l 0 none 0 0 [] (w.alloc (.cells #[lp q] 24)) from ⟨HB0.out, HX0.out, World.ownsRow_nil _ _ _ _, ⟨rfl, fun j sp hj => by simp [chkW] at hj⟩, rfl⟩)
  generalize w.alloc (.cells #[lp q] 24) = W0 at *
  clear HB0 HX0 HUP
  go_wp2_with fail
  clear y0 x3 x5 x9
  go_loopw [3, 4, 5, 6] (fun t3 t4 _ _ W => ∃ (j A1 : _) (n1 c1 : Nat) (vs : List Value), j ≤ P ∧ t4 = .int .i64 ((j : Int) + 1) ∧ t3 = .slice A1 n1 c1 ∧ Ck w S q l j A1 n1 c1 vs W) (fun _ t4 _ _ _ => P + 1 - (intOf t4).toNat)
  case atStart => exact ⟨0, none, 0, 0, [], Nat.zero_le _, rfl, rfl, HCK.out⟩
  case round =>
    clear HCK
    obtain ⟨j, A1, n1, c1, vs, hj, rfl, rfl, hck⟩ := hrel
    have HCK := Lib.hid hck
    clear hck
    have y0 : wr.cell? ⟨w.heap.size, 0, none⟩ = some (lp q) := HCK.out.bx.cell 0
    obtain ⟨-, -, x3, -⟩ := HC.out wr HCK.out.bel
    by_cases hjP : j < P
    rotate_left
    · obtain rfl : j = P := by omega
      have hle : ¬ ((j : Int) + 1 ≤ (j : Int)) := by omega
      go_wp2_with fail
      obtain ⟨n0, hn0⟩ : ∃ n0, n0 = l.N := ⟨_, rfl⟩
      obtain ⟨NX, hNX0⟩ : ∃ NX, NX = nxt l.N := ⟨_, rfl⟩
      have HL0 := Lib.hid hn0
      have HNE := Lib.hid hNX0
      have HNX := Lib.hid (show IntKind.u64.wrap ((n0 : Int) + 1) = (NX : Int) from by rw [IntKind.wrap_u64, hNX0, hn0]; unfold nxt; omega)
      have HNL := Lib.hid (show NX < 18446744073709551616 from by rw [hNX0]; unfold nxt; omega)
      clear hn0 hNX0 x3 y0 hle
      have HPB := Lib.hid hpb
      refine wp_region_noPanic ?_
      refine wp_region_any (by kernel_rfl) ?_
      refine facts_sw [0, 1, 2, 3, 4, 5, 6, 7, 8, 9, 10, 11, 12] (fun i => match i with | 1 => [0] | 2 => [1] | 3 => [2] | 4 => [3] | 5 => [4] | 7 => [6] | 8 => [7] | 9 => [8] | 10 => [9] | 11 => [5, 10] | _ => []) 99 99 (fun i v W => match i with | 0 => v = lp q | 1 => v = lp q | 2 => v = .pointer (some ⟨q, 1, none⟩) | 3 => v = .pointer (some ⟨q, 1, none⟩) | 4 => v = .int .u64 n0 | 5 => v = .int .u64 (NX : Int) | 6 => v = lp q | 7 => v = lp q | 8 => v = .pointer (some ⟨q, 1, none⟩) | 9 => v = .pointer (some ⟨q, 3, none⟩) | 10 => v = .int .i64 (j : Int) | 11 => v = .agg #[.int .u64 (NX : Int), .int .i64 0, .int .i64 (j : Int)] | 12 => ∃ k, v = .pointer (some ⟨k, 0, none⟩) ∧ wr.heap.size ≤ k ∧ Blk W k 45 #[.int .u64 0, .int .i64 0, .int .i64 0] | _ => True) (fun W W' => Below W.heap.size W W') (fun _ _ W => Below wr.drew.heap.size wr.drew W) _ _ _ 1 _ #[true, true, true, true, true, true, true, true, true, true, true, true, true, false] (fun i v W W' h hs => match i, h with | 0, h => h | 1, h => h | 2, h => h | 3, h => h | 4, h => h | 5, h => h | 6, h => h | 7, h => h | 8, h => h | 9, h => h | 10, h => h | 11, h => h | 12, ⟨k, h1, h2, h3⟩ => ⟨k, h1, h2, blk_step h3 hs⟩ | 13, h => h | _ + 14, h => h) (by kernel_rfl) (by rfl) (Below.refl _ _) ?hstep ?hend
      case hstep =>
        intro i hi b_ c_ hbp hcq hbd hcd x W hd hI K hK
        simp only [List.mem_cons, List.not_mem_nil, or_false] at hi
        rcases hi with rfl | rfl | rfl | rfl | rfl | rfl | rfl | rfl | rfl | rfl | rfl | rfl | rfl
        · generalize hA : putsA _ _ x [0, 1, 2, 3, 4, 5, 6, 7, 8, 9, 10, 11, 12] = A_ at *
          have e1 : A_.tmps[1]? = some (.pointer (some ⟨w.heap.size, 0, none⟩)) := by rw [← hA]; exact putsA_at 1 _ (by decide +kernel)
          clear hA hd
          have z0 : W.cell? ⟨w.heap.size, 0, none⟩ = some (lp q) := (ck_below HCK.out (undrew hI)).bx.cell 0
          refine wpOp_step rfl (fun K' hK' => ?_)
          go_simp
          exact hK' _ _ (hK _ _ rfl (Below.refl _ _) hI)
        · generalize hA : putsA _ _ x [0, 1, 2, 3, 4, 5, 6, 7, 8, 9, 10, 11, 12] = A_ at *
          have e57 : A_.tmps[57]? = some (x 0) := by rw [← hA]; exact putsA_in (i := 0) 57 (by rfl) (by show (57 : Nat) < 103; decide) _ (by decide +kernel) (by decide)
          have f0 : x 0 = lp q := hd 0 (by decide)
          rw [f0] at e57
          clear hA hd
          refine wpOp_step rfl (fun K' hK' => ?_)
          go_simp
          exact hK' _ _ (hK _ _ rfl (Below.refl _ _) hI)
        · generalize hA : putsA _ _ x [0, 1, 2, 3, 4, 5, 6, 7, 8, 9, 10, 11, 12] = A_ at *
          have e58 : A_.tmps[58]? = some (x 1) := by rw [← hA]; exact putsA_in (i := 1) 58 (by rfl) (by show (58 : Nat) < 103; decide) _ (by decide +kernel) (by decide)
          have f1 : x 1 = lp q := hd 1 (by decide)
          rw [f1] at e58
          clear hA hd
          refine wpOp_step rfl (fun K' hK' => ?_)
          go_simp
          exact hK' _ _ (hK _ _ rfl (Below.refl _ _) hI)
        · generalize hA : putsA _ _ x [0, 1, 2, 3, 4, 5, 6, 7, 8, 9, 10, 11, 12] = A_ at *
          have e59 : A_.tmps[59]? = some (x 2) := by rw [← hA]; exact putsA_in (i := 2) 59 (by rfl) (by show (59 : Nat) < 103; decide) _ (by decide +kernel) (by decide)
          have f2 : x 2 = .pointer (some ⟨q, 1, none⟩) := hd 2 (by decide)
          rw [f2] at e59
          clear hA hd
          refine wpOp_step rfl (fun K' hK' => ?_)
          go_simp
          exact hK' _ _ (hK _ _ rfl (Below.refl _ _) hI)
        · generalize hA : putsA _ _ x [0, 1, 2, 3, 4, 5, 6, 7, 8, 9, 10, 11, 12] = A_ at *
          have e60 : A_.tmps[60]? = some (x 3) := by rw [← hA]; exact putsA_in (i := 3) 60 (by rfl) (by show (60 : Nat) < 103; decide) _ (by decide +kernel) (by decide)
          have f3 : x 3 = .pointer (some ⟨q, 1, none⟩) := hd 3 (by decide)
          rw [f3] at e60
          clear hA hd
          obtain ⟨-, z1, z3, -⟩ := HC.out W (ck_below HCK.out (undrew hI)).bel
          rw [← HL0.out] at z1
          refine wpOp_step rfl (fun K' hK' => ?_)
          go_simp
          exact hK' _ _ (hK _ _ rfl (Below.refl _ _) hI)
        · generalize hA : putsA _ _ x [0, 1, 2, 3, 4, 5, 6, 7, 8, 9, 10, 11, 12] = A_ at *
          have e61 : A_.tmps[61]? = some (x 4) := by rw [← hA]; exact putsA_in (i := 4) 61 (by rfl) (by show (61 : Nat) < 103; decide) _ (by decide +kernel) (by decide)
          have f4 : x 4 = .int .u64 n0 := hd 4 (by decide)
          rw [f4] at e61
          clear hA hd
          have hNX := HNX.out
          refine wpOp_step rfl (fun K' hK' => ?_)
          go_simp
          exact hK' _ _ (hK _ _ (by first | rfl | exact congrArg (Value.int .u64) hNX) (Below.refl _ _) hI)
        · generalize hA : putsA _ _ x [0, 1, 2, 3, 4, 5, 6, 7, 8, 9, 10, 11, 12] = A_ at *
          have e1 : A_.tmps[1]? = some (.pointer (some ⟨w.heap.size, 0, none⟩)) := by rw [← hA]; exact putsA_at 1 _ (by decide +kernel)
          clear hA hd
          have z0 : W.cell? ⟨w.heap.size, 0, none⟩ = some (lp q) := (ck_below HCK.out (undrew hI)).bx.cell 0
          refine wpOp_step rfl (fun K' hK' => ?_)
          go_simp
          exact hK' _ _ (hK _ _ rfl (Below.refl _ _) hI)
        · generalize hA : putsA _ _ x [0, 1, 2, 3, 4, 5, 6, 7, 8, 9, 10, 11, 12] = A_ at *
          have e63 : A_.tmps[63]? = some (x 6) := by rw [← hA]; exact putsA_in (i := 6) 63 (by rfl) (by show (63 : Nat) < 103; decide) _ (by decide +kernel) (by decide)
          have f6 : x 6 = lp q := hd 6 (by decide)
          rw [f6] at e63
          clear hA hd
          refine wpOp_step rfl (fun K' hK' => ?_)
          go_simp
          exact hK' _ _ (hK _ _ rfl (Below.refl _ _) hI)
        · generalize hA : putsA _ _ x [0, 1, 2, 3, 4, 5, 6, 7, 8, 9, 10, 11, 12] = A_ at *
          have e64 : A_.tmps[64]? = some (x 7) := by rw [← hA]; exact putsA_in (i := 7) 64 (by rfl) (by show (64 : Nat) < 103; decide) _ (by decide +kernel) (by decide)
          have f7 : x 7 = lp q := hd 7 (by decide)
          rw [f7] at e64
          clear hA hd
          refine wpOp_step rfl (fun K' hK' => ?_)
          go_simp
          exact hK' _ _ (hK _ _ rfl (Below.refl _ _) hI)
        · generalize hA : putsA _ _ x [0, 1, 2, 3, 4, 5, 6, 7, 8, 9, 10, 11, 12] = A_ at *
          have e65 : A_.tmps[65]? = some (x 8) := by rw [← hA]; exact putsA_in (i := 8) 65 (by rfl) (by show (65 : Nat) < 103; decide) _ (by decide +kernel) (by decide)
          have f8 : x 8 = .pointer (some ⟨q, 1, none⟩) := hd 8 (by decide)
          rw [f8] at e65
          clear hA hd
          refine wpOp_step rfl (fun K' hK' => ?_)
          go_simp
          exact hK' _ _ (hK _ _ rfl (Below.refl _ _) hI)
        · generalize hA : putsA _ _ x [0, 1, 2, 3, 4, 5, 6, 7, 8, 9, 10, 11, 12] = A_ at *
          have e66 : A_.tmps[66]? = some (x 9) := by rw [← hA]; exact putsA_in (i := 9) 66 (by rfl) (by show (66 : Nat) < 103; decide) _ (by decide +kernel) (by decide)
          have f9 : x 9 = .pointer (some ⟨q, 3, none⟩) := hd 9 (by decide)
          rw [f9] at e66
          clear hA hd
          obtain ⟨-, z1, z3, -⟩ := HC.out W (ck_below HCK.out (undrew hI)).bel
          rw [← HL0.out] at z1
          refine wpOp_step rfl (fun K' hK' => ?_)
          go_simp
          exact hK' _ _ (hK _ _ rfl (Below.refl _ _) hI)
        · generalize hA : putsA _ _ x [0, 1, 2, 3, 4, 5, 6, 7, 8, 9, 10, 11, 12] = A_ at *
          have e62 : A_.tmps[62]? = some (x 5) := by rw [← hA]; exact putsA_in (i := 5) 62 (by rfl) (by show (62 : Nat) < 103; decide) _ (by decide +kernel) (by decide)
          have f5 : x 5 = .int .u64 (NX : Int) := hd 5 (by decide)
          rw [f5] at e62
          have e67 : A_.tmps[67]? = some (x 10) := by rw [← hA]; exact putsA_in (i := 10) 67 (by rfl) (by show (67 : Nat) < 103; decide) _ (by decide +kernel) (by decide)
          have f10 : x 10 = .int .i64 (j : Int) := hd 10 (by decide)
          rw [f10] at e67
          clear hA hd
          refine wpOp_step rfl (fun K' hK' => ?_)
          go_simp
          exact hK' _ _ (hK _ _ rfl (Below.refl _ _) hI)
        · generalize hA : putsA _ _ x [0, 1, 2, 3, 4, 5, 6, 7, 8, 9, 10, 11, 12] = A_ at *
          clear hA hd
          refine wpOp_step rfl (fun K' hK' => ?_)
          go_simp
          exact hK' _ _ (hK _ _ ⟨W.heap.size, rfl, (undrew hI).size, Blk.new _ _ _⟩ allocB (bj hI allocB))
      case hend =>
        intro x W b_ c_ hf hpf hqf hI
        have f0 : x 0 = lp q := hf 0 (by decide)
        have f1 : x 1 = lp q := hf 1 (by decide)
        have f2 : x 2 = .pointer (some ⟨q, 1, none⟩) := hf 2 (by decide)
        have f3 : x 3 = .pointer (some ⟨q, 1, none⟩) := hf 3 (by decide)
        have f4 : x 4 = .int .u64 n0 := hf 4 (by decide)
        have f5 : x 5 = .int .u64 (NX : Int) := hf 5 (by decide)
        have f6 : x 6 = lp q := hf 6 (by decide)
        have f7 : x 7 = lp q := hf 7 (by decide)
        have f8 : x 8 = .pointer (some ⟨q, 1, none⟩) := hf 8 (by decide)
        have f9 : x 9 = .pointer (some ⟨q, 3, none⟩) := hf 9 (by decide)
        have f10 : x 10 = .int .i64 (j : Int) := hf 10 (by decide)
        have f11 : x 11 = .agg #[.int .u64 (NX : Int), .int .i64 0, .int .i64 (j : Int)] := hf 11 (by decide)
        obtain ⟨k15, f12, hk15, hb15⟩ := hf 12 (by decide)
        replace f12 : x 12 = .pointer (some ⟨k15, 0, none⟩) := f12
        rw [putsA_lit _ _ [0, 1, 2, 3, 4, 5, 6, 7, 8, 9, 10, 11, 12] ((7, 12) :: (57, 0) :: (58, 1) :: (59, 2) :: (60, 3) :: (61, 4) :: (62, 5) :: (63, 6) :: (64, 7) :: (65, 8) :: (66, 9) :: (67, 10) :: (68, 11) :: []) (by kernel_rfl)]
        simp only [setAll, ↓reduceIte, Nat.reduceAdd, Nat.reduceEqDiff]
        rw [f0, f1, f2, f3, f4, f5, f6, f7, f8, f9, f10, f11, f12]
        clear hf hpf hqf f0 f1 f2 f3 f4 f5 f6 f7 f8 f9 f10 f11 f12
        obtain ⟨z0, z1, z2⟩ := trip_at hb15
        have r0 := hb15.frozen 0
        have r1 := hb15.frozen 1
        have r2 := hb15.frozen 2
        have HKB := Lib.hid (show Blk (((W.setCell ⟨k15, 0, none⟩ (.int .u64 (NX : Int))).setCell ⟨k15, 1, none⟩ (.int .i64 0)).setCell ⟨k15, 2, none⟩ (.int .i64 (j : Int))) k15 45 #[.int .u64 (NX : Int), .int .i64 0, .int .i64 (j : Int)] from ((hb15.set_ 0 _).set_ 1 _).set_ 2 _)
        have HBW := Lib.hid (show Below wr.heap.size wr (((W.setCell ⟨k15, 0, none⟩ (.int .u64 (NX : Int))).setCell ⟨k15, 1, none⟩ (.int .i64 0)).setCell ⟨k15, 2, none⟩ (.int .i64 (j : Int))) from (((undrew hI).setCell (p := ⟨k15, 0, none⟩) hk15 _).setCell (p := ⟨k15, 1, none⟩) hk15 _).setCell (p := ⟨k15, 2, none⟩) hk15 _)
        have HK15 := Lib.hid hk15
        clear hb15 hk15 hI
        refine wpAny_ready (rs := [13]) (by kernel_rfl) (by simp) ?_
        refine AllReady.cons rfl (fun K hK => ?_) AllReady.nil
        go_simp
        refine hK _ _ ?_
        clear hK K z0 z1 z2 r0 r1 r2
        refine wpAny_done (by kernel_rfl) ?_ _
        refine NoPanic.normal ?_
        clear x
        generalize (((W.setCell ⟨k15, 0, none⟩ (.int .u64 (NX : Int))).setCell ⟨k15, 1, none⟩ (.int .i64 0)).setCell ⟨k15, 2, none⟩ (.int .i64 (j : Int))) = W4 at *
        have HCK4 := Lib.hid (ck_below HCK.out HBW.out)
        have HQ15 := Lib.hid (show w.heap.size + 1 ≤ k15 from Nat.le_trans HCK.out.bx.lt HK15.out)
        clear HCK HBW HK15
        obtain ⟨k0, k1, k2⟩ := trip_at HKB.out
        have HPH := Lib.hid (show Calls Try.prog 37 #[.agg #[.int .u64 (NX : Int), .int .i64 0, .int .i64 (j : Int)]] W4 fun e w' => e = .returned (.tuple #[.string (bstr (headL NX 0 j)), .int .i64 0]) ∧ Below W4.heap.size W4 w' from putHead_ok NX 0 j W4 HNL.out (by omega) hpb)
        go_upto_region 16 with (go_at_call 37; refine (HPH.out).mono ?_; rintro e w5 ⟨rfl, hb5⟩)
        have HCK5 := Lib.hid (ck_below HCK4.out hb5)
        have HG15 := Lib.hid (blk_step HKB.out hb5)
        clear hb5 HCK4 HKB HPH k0 k1 k2
        have y5 : w5.cell? ⟨w.heap.size, 0, none⟩ = some (lp q) := HCK5.out.bx.cell 0
        obtain ⟨i0, hi, hz0, hz1, hz2⟩ := info_parts st_info
        have hn1 : n1 ≤ 256 := by
          have h1 := HCK5.out.sp.1
          have h2 := chkW_len l j
          have h3 := HCK5.out.len
          omega
        have hkw : Blk (w5.alloc (.cells #[(.func (.func 45) #[lp q] #[]), (.func (.func 46) #[] #[lp w.heap.size])] 86)) w5.heap.size 86 #[(.func (.func 45) #[lp q] #[]), (.func (.func 46) #[] #[lp w.heap.size])] := Blk.new _ _ _
        have HKW := Lib.hid hkw
        have HCK6 := Lib.hid (ck_below HCK5.out (allocB (o := .cells #[(.func (.func 45) #[lp q] #[]), (.func (.func 46) #[] #[lp w.heap.size])] 86)))
        have HG6 := Lib.hid (blk_step HG15.out (allocB (o := .cells #[(.func (.func 45) #[lp q] #[]), (.func (.func 46) #[] #[lp w.heap.size])] 86)))
        have hrd : Reads (w5.alloc (.cells #[(.func (.func 45) #[lp q] #[]), (.func (.func 46) #[] #[lp w.heap.size])] 86)) (w5.alloc (.cells #[(.func (.func 45) #[lp q] #[]), (.func (.func 46) #[] #[lp w.heap.size])] 86)).heap.size 1 (some ⟨w5.heap.size, 0, none⟩) 2 [(.func (.func 45) #[lp q] #[]), (.func (.func 46) #[] #[lp w.heap.size])] := ⟨rfl, fun _ => ⟨_, rfl, hkw.lt, fun i u hu => by
          match i with
          | 0 => cases hu; exact HKW.out.cell 0
          | 1 => cases hu; rw [Addr.add_mid]; exact HKW.out.cell 1
          | i + 2 => simp at hu⟩⟩
        have hszw : w.heap.size + 1 ≤ w5.heap.size + 1 := by have := HCK5.out.bx.lt; omega
        clear hkw
        go_upto_region 17 with (at_builtin; refine wpList_append_any _ rfl (.tmp 74) (.tmp 78) 84 rfl (w.heap.size + 1) 86 i0 _ 1 8 Try.underlying84 hi hz0 hz1 hz2 rfl (by omega) _ n1 vs rfl HCK6.out.row _ (some ⟨w5.heap.size, 0, none⟩) 2 2 [(.func (.func 45) #[lp q] #[]), (.func (.func 46) #[] #[lp w.heap.size])] rfl hrd (by intro u hu; simp at hu; rcases hu with rfl | rfl <;> rfl) (by simp only [maxLen]; omega) (by omega) (by simp only [World.alloc, Array.size_push]; exact hszw) ?_; intro v8 w8 hown8 hg8 hat8; obtain ⟨A8, c8, rfl⟩ := own_form hown8; (have HO8 := Lib.hid hown8); (have HG8 := Lib.hid hg8); clear hown8 hg8 hat8 hrd)
        have hgb : ∀ k t cs, Blk (w5.alloc (.cells #[(.func (.func 45) #[lp q] #[]), (.func (.func 46) #[] #[lp w.heap.size])] 86)) k t cs → t ≠ 86 → Blk w8 k t cs := fun k t cs hk hne => grown_blk HCK6.out.row HG8.out hk hne
        have HB8 := Lib.hid (show Below w.heap.size w w8 from HCK6.out.bel.grown HG8.out HCK6.out.bel.size (fun k hk => by have := (HCK6.out.row.lt k hk).1; omega))
        have HX8 := Lib.hid (show PtrBlk w8 w.heap.size q from hgb _ _ _ HCK6.out.bx (by decide))
        have HGC := Lib.hid (hgb _ _ _ HG6.out (by decide))
        have HSP8 := Lib.hid (show SpVs w8 S q (chkW l j ++ [.cut, .sm]) (vs ++ [(.func (.func 45) #[lp q] #[]), (.func (.func 46) #[] #[lp w.heap.size])]) from spVs_app (spVs_grown HCK6.out.sp HCK6.out.row HG8.out) ⟨rfl, fun i sp hi => by
          match i with
          | 0 => cases hi; exact ⟨_, rfl, rfl⟩
          | 1 => cases hi; exact ⟨_, rfl, w.heap.size, rfl, HX8.out, fun e => by have := H0.out.lt _ e; omega⟩
          | i + 2 => simp at hi⟩)
        have HN1 := Lib.hid (And.intro hn1 HCK6.out.len)
        clear hgb HCK6 HG6 HCK5 HG15 HKW y5 HG8 hn1
        obtain ⟨⟨d9, l9⟩, z9⟩ := DD
        have hn1 : n1 ≤ 256 := HN1.out.1
        have HLAY := Lib.hid (wlay_any q (bstr (headL NX 0 j)) w8.drew)
        have y8 : w8.drew.cell? ⟨w.heap.size, 0, none⟩ = some (lp q) := HX8.out.cell 0
        have HSL := Lib.hid (show ∀ b, S b → b < w.heap.size from H0.out.lt)
        have HDONE := Lib.hid (show ∀ (w10 : World) (A : Option Addr) (c : Nat), Below w.heap.size w w10 → w10.ownsRow (w.heap.size + 1) 86 1 (.slice A (n1 + 2 + 2) c) (n1 + 2 + 2) (vs ++ [(.func (.func 45) #[lp q] #[]), (.func (.func 46) #[] #[lp w.heap.size])] ++ [layV w8.heap.size, syV q]) → SpVs w10 S q (chkW l j ++ [.cut, .sm] ++ [.lay (bstr (headL NX 0 j)), .sy]) (vs ++ [(.func (.func 45) #[lp q] #[]), (.func (.func 46) #[] #[lp w.heap.size])] ++ [layV w8.heap.size, syV q]) → Calls Try.prog 42 #[lp q, .slice A (n1 + 2 + 2) c] w10 fun e w' => e = .returned (.int .i64 z9) ∧ LgR w10 S g q d9 (N + 260) l9 w' from fun w10 A c hb ho hv => by
          have hcs : chkS l = chkW l j ++ [.cut, .sm] ++ [.lay (bstr (headL NX 0 j)), .sy] := by
            unfold chkS
            rw [← HP.out, ← HNE.out, List.append_assoc]
            rfl
          have hlen : n1 + 2 + 2 = (chkS l).length := by
            rw [hcs, ← hv.1, List.length_append, List.length_append, ← HN1.out.2]
            rfl
          have h := wdone_any ⟨Sd, A0, c0, (HC.out w10 hb).1⟩ A (n1 + 2 + 2) c (chkS l) (by rw [hcs]; exact sps_own ho (fun b hb => Nat.lt_succ_of_lt (HSL.out b hb)) hv.2) hlen (by omega)
          rw [HDD.out] at h
          exact h.mono fun e w' he => ⟨he.1, lgR_to he.2 (by omega) hN⟩)
        clear HDD
        have HAPP := Lib.hid (show ∀ (w9 : World) (gB capB : Nat) (w10 : World), LayB w9 q w8.heap.size (bstr (headL NX 0 j)) → Below w8.heap.size w8 w9 → w10.ownsRow (w.heap.size + 1) 86 1 (.slice (some ⟨gB, 0, none⟩) (n1 + 2 + 2) capB) (n1 + 2 + 2) (vs ++ [(.func (.func 45) #[lp q] #[]), (.func (.func 46) #[] #[lp w.heap.size])] ++ [layV w8.heap.size, syV q]) → w9.grownBy w10 (Value.slice A8 (n1 + 2) c8).ownBlock → PtrBlk w10 w.heap.size q ∧ Blk w10 k15 45 #[.int .u64 (NX : Int), .int .i64 0, .int .i64 (j : Int)] ∧ Below w.heap.size w w10 ∧ Calls Try.prog 42 #[lp q, .slice (some ⟨gB, 0, none⟩) (n1 + 2 + 2) capB] w10 fun e w' => e = .returned (.int .i64 z9) ∧ LgR w10 S g q d9 (N + 260) l9 w' from fun w9 gB capB w10 hlay hb9 hownB hgB => by
          have hb10 : Below w.heap.size w w10 := (HB8.out.trans (hb9.mono HB8.out.size)).grown hgB (Nat.le_trans HB8.out.size hb9.size) (fun k hk => by have := (HO8.out.lt k hk).1; omega)
          have hgb : ∀ k t cs, Blk w9 k t cs → t ≠ 86 → Blk w10 k t cs := fun k t cs hk hne => grown_blk (own_lies HO8.out hb9) hgB hk hne
          refine ⟨hgb _ _ _ (blk_step HX8.out hb9) (by decide), hgb _ _ _ (blk_step HGC.out hb9) (by decide), hb10, HDONE.out w10 (some ⟨gB, 0, none⟩) capB hb10 hownB (spVs_app (spVs_grown (spVs_below HSP8.out hb9) (own_lies HO8.out hb9) hgB) ⟨rfl, fun i sp hi => ?_⟩)⟩
          match i with
          | 0 => cases hi; exact ⟨_, rfl, by rw [headL_size]; omega, w8.heap.size, w8.heap.size + 1, rfl, hgb _ _ _ hlay.1 (by decide), hgb _ _ _ hlay.2.1 (by decide), fun e => by have h1 := HSL.out _ e; have h2 := HB8.out.size; omega, fun e => by have h1 := HSL.out _ e; have h2 := HB8.out.size; omega⟩
          | 1 => cases hi; exact ⟨_, rfl, rfl⟩
          | i + 2 => simp at hi)
        go_region_law (first
          | (refine step_append_lies _ (by rfl) (.tmp 81) (.tmp 84) 84 (by rfl) (w.heap.size + 1) 86 i0 _ 1 8 Try.underlying84 hi hz0 hz1 hz2 rfl (by omega) (.slice A8 (n1 + 2) c8) (n1 + 2) (vs ++ [(.func (.func 45) #[lp q] #[]), (.func (.func 46) #[] #[lp w.heap.size])]) (by rfl) (own_lies HO8.out HL9.out.2) ⟨w8.heap.size + 2, 0, none⟩ 2 2 [layV w8.heap.size, syV q] (by rfl) (by rfl) (World.news_of_block (cs := #[layV w8.heap.size, syV q]) (t := 86) (fr := (0, 0)) HL9.out.1.2.2) (two_one _ _ rfl rfl) (by omega) (by simp only [maxLen]; omega) (by omega) HZ9.out _ (by rfl) ?_; intro gB capB w10 hownB hgB hatB hltB; (have HF10 := Lib.hid (HAPP.out w9 gB capB w10 HL9.out.1 HL9.out.2 hownB hgB)); (have y10 : w10.cell? ⟨w.heap.size, 0, none⟩ = some (lp q) := HF10.out.1.cell 0); clear hownB hgB hatB hltB)
          | (go_simp; go_at_call 43; (with_reducible refine (HLAY.out).mono ?_); rintro e w9 ⟨rfl, hlay, hb9⟩; (have HL9 := Lib.hid (And.intro hlay (undrew hb9))); (have HZ9 := Lib.hid (show w.heap.size + 1 ≤ w9.heap.size from Nat.le_trans HX8.out.lt (undrew hb9).size)); (have y9 : w9.cell? ⟨w.heap.size, 0, none⟩ = some (lp q) := (blk_step HX8.out (undrew hb9)).cell 0); clear hlay hb9)
          | (go_simp; go_at_call 42; (with_reducible refine (HF10.out.2.2.2).mono ?_); rintro e w11 ⟨rfl, hR⟩; (have HR11 := Lib.hid hR); clear hR))
        all_goals
          clear HAPP HDONE HL9 HZ9 HSP8 HO8 HX8 HGC y8 y9 y10 HLAY hi hz0 hz1 hz2 hszw hn1 HN1 HC hnfI hpb hPI hj hjP hzI hfb
          obtain ⟨S9, ⟨Sd9, A9, c9, h9⟩, f9, s9⟩ := HR11.out
          have HB10 := Lib.hid HF10.out.2.2.1
          have HR9 := Lib.hid (lgR_above HB10.out HR11.out)
          have hx11 : PtrBlk w11 w.heap.size q := fr_blk f9 HF10.out.1 (fun e => by have := HSL.out _ e; omega)
          have hg11 : Blk w11 k15 45 #[.int .u64 (NX : Int), .int .i64 0, .int .i64 (j : Int)] := fr_blk f9 HF10.out.2.1 (fun e => by have h1 := HSL.out _ e; have h2 := HQ15.out; omega)
          have HSQ := Lib.hid (show S q from H0.out.sq)
          have hqw : q < w.heap.size := HSL.out q HSQ.out
          have HFW := Lib.hid (And.intro (fr_trans (fr_of (S := S) HB10.out) f9 (fun b hb => .inl hb)) (show ∀ b, S9 b → S b ∨ w.heap.size ≤ b from fun b hb => (s9 b hb).imp id (fun h => Nat.le_trans HB10.out.size h)))
          have H9 := Lib.hid h9
          have HX11 := Lib.hid hx11
          have HG11 := Lib.hid hg11
          clear h9 f9 s9 hx11 hg11 HF10 HR11 HB10 HB8
          by_cases hz9 : z9 = 0
          rotate_left
          · have hzb : (z9 != 0) = true := by simp [hz9]
            have hRR := HRR.out
            rw [if_pos hz9] at hRR
            subst hRR
            clear HRR hz9
            go_wp2
            go_ret
            exact ⟨rfl, HR9.out⟩
          · subst hz9
            have hRR : RR = ((d9, chkL l l9), 0) := by rw [← HRR.out]; simp
            subst hRR
            clear HRR HR9
            have y0 : w11.cell? ⟨w.heap.size, 0, none⟩ = some (lp q) := HX11.out.cell 0
            obtain ⟨t0, t1, t2⟩ := trip_at HG11.out
            obtain ⟨-, x1, x2, x3, -, x5, -⟩ := lg_cells H9.out
            have r1 := H9.out.blk.frozen 1
            have r2 := H9.out.blk.frozen 2
            have r3 := H9.out.blk.frozen 3
            have r5 := H9.out.blk.frozen 5
            have hnq : ¬ (w.heap.size = q) := by omega
            have hnk : ¬ (k15 = q) := by have := HQ15.out; omega
            have HWX := Lib.hid (show LgAt ((((w11.setCell ⟨q, 1, none⟩ (.int .u64 (NX : Int))).setCell ⟨q, 2, none⟩ (.int .i64 0)).setCell ⟨q, 3, none⟩ (.int .i64 (j : Int))).setCell ⟨q, 5, none⟩ (.slice none 0 0)) S9 Sd9 g q none 0 d9 (N + 260) { N := NX, F := 0, P := j, hd := l9.hd, fs := [], e := l9.e, torn := l9.torn, off := l9.off } from lgAt_clear (lgAt_head H9.out NX 0 j HNL.out (by omega) HPB.out))
            have HXX := Lib.hid (show PtrBlk ((((w11.setCell ⟨q, 1, none⟩ (.int .u64 (NX : Int))).setCell ⟨q, 2, none⟩ (.int .i64 0)).setCell ⟨q, 3, none⟩ (.int .i64 (j : Int))).setCell ⟨q, 5, none⟩ (.slice none 0 0)) w.heap.size q from (((HX11.out.far (p := ⟨q, 1, none⟩) hnq _).far (p := ⟨q, 2, none⟩) hnq _).far (p := ⟨q, 3, none⟩) hnq _).far (p := ⟨q, 5, none⟩) hnq _)
            have HGX := Lib.hid (show Blk ((((w11.setCell ⟨q, 1, none⟩ (.int .u64 (NX : Int))).setCell ⟨q, 2, none⟩ (.int .i64 0)).setCell ⟨q, 3, none⟩ (.int .i64 (j : Int))).setCell ⟨q, 5, none⟩ (.slice none 0 0)) k15 45 #[.int .u64 (NX : Int), .int .i64 0, .int .i64 (j : Int)] from (((HG11.out.far (p := ⟨q, 1, none⟩) hnk _).far (p := ⟨q, 2, none⟩) hnk _).far (p := ⟨q, 3, none⟩) hnk _).far (p := ⟨q, 5, none⟩) hnk _)
            have HFX := Lib.hid (show Fr S w ((((w11.setCell ⟨q, 1, none⟩ (.int .u64 (NX : Int))).setCell ⟨q, 2, none⟩ (.int .i64 0)).setCell ⟨q, 3, none⟩ (.int .i64 (j : Int))).setCell ⟨q, 5, none⟩ (.slice none 0 0)) from fr_set (fr_set (fr_set (fr_set HFW.out.1 (p := ⟨q, 1, none⟩) (.inl HSQ.out) _) (p := ⟨q, 2, none⟩) (.inl HSQ.out) _) (p := ⟨q, 3, none⟩) (.inl HSQ.out) _) (p := ⟨q, 5, none⟩) (.inl HSQ.out) _)
            clear H9 HX11 HG11
            go_upto_region 22 with fail
            generalize (((w11.setCell ⟨q, 1, none⟩ (.int .u64 (NX : Int))).setCell ⟨q, 2, none⟩ (.int .i64 0)).setCell ⟨q, 3, none⟩ (.int .i64 (j : Int))).setCell ⟨q, 5, none⟩ (.slice none 0 0) = WX at *
            clear y0 t0 t1 t2 x1 x2 x3 x5 r1 r2 r3 r5 hnq hnk hqw
            have HSTA := Lib.hid (fun W => start_any NX W HNL.out)
            have HCL := Lib.hid (show chkL l l9 = { N := NX, F := 0, P := j, hd := l9.hd, fs := [], e := startP NX, torn := l9.torn, off := l9.off } from by unfold chkL; rw [← HNE.out, ← HP.out])
            have HFS := Lib.hid (fit_start NX)
            generalize startP NX = E at *
            obtain ⟨E1, E2⟩ := E
            simp only at HSTA
            refine wp_region_noPanic ?_
            refine wp_region_any (by kernel_rfl) ?_
            refine facts_sw [0, 1, 2, 3, 4, 5] (fun i => match i with | 2 => [1] | 3 => [2] | 4 => [0] | 5 => [4] | _ => []) 99 99 (fun i v W => match i with | 0 => v = lp q | 1 => v = .pointer (some ⟨k15, 0, none⟩) | 2 => v = .int .u64 (NX : Int) | 3 => v = .agg #[.int .u32 E1, .int .u32 E2] | 4 => v = lp q | 5 => v = .pointer (some ⟨q, 6, none⟩) | _ => True) (fun W W' => Below W.heap.size W W') (fun _ _ W => Below WX.drew.heap.size WX.drew W) _ _ _ 1 _ #[true, true, true, true, true, true, false] (fun i v W W' h hs => match i, h with | 0, h => h | 1, h => h | 2, h => h | 3, h => h | 4, h => h | 5, h => h | 6, h => h | _ + 7, h => h) (by kernel_rfl) (by rfl) (Below.refl _ _) ?hstep ?hend
            case hstep =>
              intro i hi b_ c_ hbp hcq hbd hcd x W hd hI K hK
              simp only [List.mem_cons, List.not_mem_nil, or_false] at hi
              rcases hi with rfl | rfl | rfl | rfl | rfl | rfl
              · generalize hA : putsA _ _ x [0, 1, 2, 3, 4, 5] = A_ at *
                have e1 : A_.tmps[1]? = some (.pointer (some ⟨w.heap.size, 0, none⟩)) := by rw [← hA]; exact putsA_at 1 _ (by decide +kernel)
                clear hA hd
                have z0 : W.cell? ⟨w.heap.size, 0, none⟩ = some (lp q) := (blk_step HXX.out (undrew hI)).cell 0
                refine wpOp_step rfl (fun K' hK' => ?_)
                go_simp
                exact hK' _ _ (hK _ _ rfl (Below.refl _ _) hI)
              · generalize hA : putsA _ _ x [0, 1, 2, 3, 4, 5] = A_ at *
                have e7 : A_.tmps[7]? = some (.pointer (some ⟨k15, 0, none⟩)) := by rw [← hA]; exact putsA_at 7 _ (by decide +kernel)
                clear hA hd
                refine wpOp_step rfl (fun K' hK' => ?_)
                go_simp
                exact hK' _ _ (hK _ _ rfl (Below.refl _ _) hI)
              · generalize hA : putsA _ _ x [0, 1, 2, 3, 4, 5] = A_ at *
                have e98 : A_.tmps[98]? = some (x 1) := by rw [← hA]; exact putsA_in (i := 1) 98 (by rfl) (by show (98 : Nat) < 103; decide) _ (by decide +kernel) (by decide)
                have f1 : x 1 = .pointer (some ⟨k15, 0, none⟩) := hd 1 (by decide)
                rw [f1] at e98
                clear hA hd
                have z0 : W.cell? ⟨k15, 0, none⟩ = some (.int .u64 (NX : Int)) := (blk_step HGX.out (undrew hI)).cell 0
                refine wpOp_step rfl (fun K' hK' => ?_)
                go_simp
                exact hK' _ _ (hK _ _ rfl (Below.refl _ _) hI)
              · generalize hA : putsA _ _ x [0, 1, 2, 3, 4, 5] = A_ at *
                have e99 : A_.tmps[99]? = some (x 2) := by rw [← hA]; exact putsA_in (i := 2) 99 (by rfl) (by show (99 : Nat) < 103; decide) _ (by decide +kernel) (by decide)
                have f2 : x 2 = .int .u64 (NX : Int) := hd 2 (by decide)
                rw [f2] at e99
                clear hA hd
                refine wpOp_step rfl (fun K' hK' => ?_)
                go_simp
                refine (HSTA.out W).mono ?_
                rintro e w6 ⟨rfl, hb6⟩
                exact hK' _ _ (hK _ _ rfl hb6 (bj hI hb6))
              · generalize hA : putsA _ _ x [0, 1, 2, 3, 4, 5] = A_ at *
                have e97 : A_.tmps[97]? = some (x 0) := by rw [← hA]; exact putsA_in (i := 0) 97 (by rfl) (by show (97 : Nat) < 103; decide) _ (by decide +kernel) (by decide)
                have f0 : x 0 = lp q := hd 0 (by decide)
                rw [f0] at e97
                clear hA hd
                refine wpOp_step rfl (fun K' hK' => ?_)
                go_simp
                exact hK' _ _ (hK _ _ rfl (Below.refl _ _) hI)
              · generalize hA : putsA _ _ x [0, 1, 2, 3, 4, 5] = A_ at *
                have e101 : A_.tmps[101]? = some (x 4) := by rw [← hA]; exact putsA_in (i := 4) 101 (by rfl) (by show (101 : Nat) < 103; decide) _ (by decide +kernel) (by decide)
                have f4 : x 4 = lp q := hd 4 (by decide)
                rw [f4] at e101
                clear hA hd
                refine wpOp_step rfl (fun K' hK' => ?_)
                go_simp
                exact hK' _ _ (hK _ _ rfl (Below.refl _ _) hI)
            case hend =>
              intro x W b_ c_ hf hpf hqf hI
              have f0 : x 0 = lp q := hf 0 (by decide)
              have f1 : x 1 = .pointer (some ⟨k15, 0, none⟩) := hf 1 (by decide)
              have f2 : x 2 = .int .u64 (NX : Int) := hf 2 (by decide)
              have f3 : x 3 = .agg #[.int .u32 E1, .int .u32 E2] := hf 3 (by decide)
              have f4 : x 4 = lp q := hf 4 (by decide)
              have f5 : x 5 = .pointer (some ⟨q, 6, none⟩) := hf 5 (by decide)
              rw [putsA_lit _ _ [0, 1, 2, 3, 4, 5] ((97, 0) :: (98, 1) :: (99, 2) :: (100, 3) :: (101, 4) :: (102, 5) :: []) (by kernel_rfl)]
              simp only [setAll, ↓reduceIte, Nat.reduceAdd, Nat.reduceEqDiff]
              rw [f0, f1, f2, f3, f4, f5]
              clear hf hpf hqf f0 f1 f2 f3 f4 f5
              have h22 := lgAt_below HWX.out (undrew hI)
              obtain ⟨-, -, -, -, -, -, x6, x7, -⟩ := lg_cells h22
              have r6 := h22.blk.frozen 6
              have r7 := h22.blk.frozen 7
              have HFIN := Lib.hid (show LgR w S g q d9 (N + 260) (chkL l l9) ((W.setCell ⟨q, 6, none⟩ (.int .u32 E1)).setCell ⟨q, 7, none⟩ (.int .u32 E2)) from by
                rw [HCL.out]
                exact ⟨_, ⟨_, _, _, lgAt_end h22 (E1, E2) HFS.out⟩, fr_set (fr_set (fr_step HFX.out (undrew hI)) (p := ⟨q, 6, none⟩) (.inl HSQ.out) _) (p := ⟨q, 7, none⟩) (.inl HSQ.out) _, HFW.out.2⟩)
              clear h22 hI
              refine wpAny_ready (rs := [6]) (by kernel_rfl) (by simp) ?_
              refine AllReady.cons rfl (fun K hK => ?_) AllReady.nil
              go_simp
              refine hK _ _ ?_
              clear hK K
              refine wpAny_done (by kernel_rfl) ?_ _
              refine NoPanic.normal ?_
              clear x x6 x7 r6 r7
              go_wp2_with fail
              go_ret
              exact ⟨rfl, HFIN.out⟩
    · have hle : (j : Int) + 1 ≤ (P : Int) := by omega
      have hFR : ∀ W, Below w.heap.size w W → Calls Try.prog 30 #[lp q, .int .i64 ((j : Int) + 1), .int .i64 (nf : Int)] W fun e w' => e = .returned (frV (frL l.fs ((j : Int) + 1))) ∧ W = w' := fun W hb => by
        have h := framed_any ⟨Sd, A0, c0, (HC.out W hb).1⟩ ((j : Int) + 1) nf (Nat.le_of_eq HNF.out)
        rw [List.take_of_length_le (Nat.le_of_eq HNF.out.symm)] at h
        exact h
      have hwj : IntKind.i64.wrap ((j : Int) + 1 + 1) = (j : Int) + 1 + 1 := by rw [IntKind.wrap_i64]; omega
      have HWJ := Lib.hid hwj
      have hjj : P + 1 - (j + 1 + 1) < P + 1 - (j + 1) := by omega
      rcases hfr : frL l.fs ((j : Int) + 1) with _ | s
      · have HCW := Lib.hid (show chkW l (j + 1) = chkW l j from by rw [chkW, hfr, List.append_nil])
        rw [hfr] at hFR
        have HFR := Lib.hid hFR
        clear hFR hfr
        go_wp2_with fail
        refine wp_region_noPanic ?_
        refine wp_region_any (by kernel_rfl) ?_
        refine facts_sw [0, 1, 2, 3, 4, 5, 6, 7, 8, 9, 10, 11, 12] (fun i => match i with | 3 => [2] | 4 => [3] | 5 => [4] | 6 => [5] | 7 => [0, 1, 6] | 8 => [7] | 9 => [8] | 10 => [8] | 11 => [9] | 12 => [10] | _ => []) 99 99 (fun i v W => match i with | 0 => v = lp q | 1 => v = .int .i64 ((j : Int) + 1) | 2 => v = lp q | 3 => v = lp q | 4 => v = .pointer (some ⟨q, 5, none⟩) | 5 => v = .slice A0 nf c0 | 6 => v = .int .i64 (nf : Int) | 7 => v = .tuple #[.string ⟨#[]⟩, .bool false] | 8 => v = .tuple #[.string ⟨#[]⟩, .bool false] | 9 => v = .string ⟨#[]⟩ | 10 => v = .bool false | 11 => v = .string ⟨#[]⟩ | 12 => v = .bool false | _ => True) (fun W W' => Below W.heap.size W W') (fun _ _ W => Below wr.drew.heap.size wr.drew W) _ _ _ 0 _ #[true, true, true, true, true, true, true, true, true, true, true, true, true] (fun i v W W' h hs => match i, h with | 0, h => h | 1, h => h | 2, h => h | 3, h => h | 4, h => h | 5, h => h | 6, h => h | 7, h => h | 8, h => h | 9, h => h | 10, h => h | 11, h => h | 12, h => h | _ + 13, h => h) (by kernel_rfl) (by rfl) (Below.refl _ _) ?hstep ?hend
        case hstep =>
          intro i hi b_ c_ hbp hcq hbd hcd x W hd hI K hK
          simp only [List.mem_cons, List.not_mem_nil, or_false] at hi
          rcases hi with rfl | rfl | rfl | rfl | rfl | rfl | rfl | rfl | rfl | rfl | rfl | rfl | rfl
          · generalize hA : putsA _ _ x [0, 1, 2, 3, 4, 5, 6, 7, 8, 9, 10, 11, 12] = A_ at *
            have e1 : A_.tmps[1]? = some (.pointer (some ⟨w.heap.size, 0, none⟩)) := by rw [← hA]; exact putsA_at 1 _ (by decide +kernel)
            clear hA hd
            have z0 : W.cell? ⟨w.heap.size, 0, none⟩ = some (lp q) := (ck_below HCK.out (undrew hI)).bx.cell 0
            refine wpOp_step rfl (fun K' hK' => ?_)
            go_simp
            exact hK' _ _ (hK _ _ rfl (Below.refl _ _) hI)
          · generalize hA : putsA _ _ x [0, 1, 2, 3, 4, 5, 6, 7, 8, 9, 10, 11, 12] = A_ at *
            have e4 : A_.tmps[4]? = some (.int .i64 ((j : Int) + 1)) := by rw [← hA]; exact putsA_at 4 _ (by decide +kernel)
            clear hA hd
            refine wpOp_step rfl (fun K' hK' => ?_)
            go_simp
            exact hK' _ _ (hK _ _ rfl (Below.refl _ _) hI)
          · generalize hA : putsA _ _ x [0, 1, 2, 3, 4, 5, 6, 7, 8, 9, 10, 11, 12] = A_ at *
            have e1 : A_.tmps[1]? = some (.pointer (some ⟨w.heap.size, 0, none⟩)) := by rw [← hA]; exact putsA_at 1 _ (by decide +kernel)
            clear hA hd
            have z0 : W.cell? ⟨w.heap.size, 0, none⟩ = some (lp q) := (ck_below HCK.out (undrew hI)).bx.cell 0
            refine wpOp_step rfl (fun K' hK' => ?_)
            go_simp
            exact hK' _ _ (hK _ _ rfl (Below.refl _ _) hI)
          · generalize hA : putsA _ _ x [0, 1, 2, 3, 4, 5, 6, 7, 8, 9, 10, 11, 12] = A_ at *
            have e40 : A_.tmps[40]? = some (x 2) := by rw [← hA]; exact putsA_in (i := 2) 40 (by rfl) (by show (40 : Nat) < 103; decide) _ (by decide +kernel) (by decide)
            have f2 : x 2 = lp q := hd 2 (by decide)
            rw [f2] at e40
            clear hA hd
            refine wpOp_step rfl (fun K' hK' => ?_)
            go_simp
            exact hK' _ _ (hK _ _ rfl (Below.refl _ _) hI)
          · generalize hA : putsA _ _ x [0, 1, 2, 3, 4, 5, 6, 7, 8, 9, 10, 11, 12] = A_ at *
            have e41 : A_.tmps[41]? = some (x 3) := by rw [← hA]; exact putsA_in (i := 3) 41 (by rfl) (by show (41 : Nat) < 103; decide) _ (by decide +kernel) (by decide)
            have f3 : x 3 = lp q := hd 3 (by decide)
            rw [f3] at e41
            clear hA hd
            refine wpOp_step rfl (fun K' hK' => ?_)
            go_simp
            exact hK' _ _ (hK _ _ rfl (Below.refl _ _) hI)
          · generalize hA : putsA _ _ x [0, 1, 2, 3, 4, 5, 6, 7, 8, 9, 10, 11, 12] = A_ at *
            have e42 : A_.tmps[42]? = some (x 4) := by rw [← hA]; exact putsA_in (i := 4) 42 (by rfl) (by show (42 : Nat) < 103; decide) _ (by decide +kernel) (by decide)
            have f4 : x 4 = .pointer (some ⟨q, 5, none⟩) := hd 4 (by decide)
            rw [f4] at e42
            clear hA hd
            obtain ⟨-, -, -, z5, -⟩ := HC.out W (ck_below HCK.out (undrew hI)).bel
            refine wpOp_step rfl (fun K' hK' => ?_)
            go_simp
            exact hK' _ _ (hK _ _ rfl (Below.refl _ _) hI)
          · generalize hA : putsA _ _ x [0, 1, 2, 3, 4, 5, 6, 7, 8, 9, 10, 11, 12] = A_ at *
            have e43 : A_.tmps[43]? = some (x 5) := by rw [← hA]; exact putsA_in (i := 5) 43 (by rfl) (by show (43 : Nat) < 103; decide) _ (by decide +kernel) (by decide)
            have f5 : x 5 = .slice A0 nf c0 := hd 5 (by decide)
            rw [f5] at e43
            clear hA hd
            refine wpOp_step rfl (fun K' hK' => ?_)
            go_simp
            exact hK' _ _ (hK _ _ rfl (Below.refl _ _) hI)
          · generalize hA : putsA _ _ x [0, 1, 2, 3, 4, 5, 6, 7, 8, 9, 10, 11, 12] = A_ at *
            have e38 : A_.tmps[38]? = some (x 0) := by rw [← hA]; exact putsA_in (i := 0) 38 (by rfl) (by show (38 : Nat) < 103; decide) _ (by decide +kernel) (by decide)
            have f0 : x 0 = lp q := hd 0 (by decide)
            rw [f0] at e38
            have e39 : A_.tmps[39]? = some (x 1) := by rw [← hA]; exact putsA_in (i := 1) 39 (by rfl) (by show (39 : Nat) < 103; decide) _ (by decide +kernel) (by decide)
            have f1 : x 1 = .int .i64 ((j : Int) + 1) := hd 1 (by decide)
            rw [f1] at e39
            have e44 : A_.tmps[44]? = some (x 6) := by rw [← hA]; exact putsA_in (i := 6) 44 (by rfl) (by show (44 : Nat) < 103; decide) _ (by decide +kernel) (by decide)
            have f6 : x 6 = .int .i64 (nf : Int) := hd 6 (by decide)
            rw [f6] at e44
            clear hA hd
            refine wpOp_step rfl (fun K' hK' => ?_)
            go_simp
            refine (HFR.out W (ck_below HCK.out (undrew hI)).bel).mono ?_
            rintro e w6 ⟨rfl, rfl⟩
            exact hK' _ _ (hK _ _ rfl (Below.refl _ _) hI)
          · generalize hA : putsA _ _ x [0, 1, 2, 3, 4, 5, 6, 7, 8, 9, 10, 11, 12] = A_ at *
            have e45 : A_.tmps[45]? = some (x 7) := by rw [← hA]; exact putsA_in (i := 7) 45 (by rfl) (by show (45 : Nat) < 103; decide) _ (by decide +kernel) (by decide)
            have f7 : x 7 = .tuple #[.string ⟨#[]⟩, .bool false] := hd 7 (by decide)
            rw [f7] at e45
            clear hA hd
            refine wpOp_step rfl (fun K' hK' => ?_)
            go_simp
            exact hK' _ _ (hK _ _ rfl (Below.refl _ _) hI)
          · generalize hA : putsA _ _ x [0, 1, 2, 3, 4, 5, 6, 7, 8, 9, 10, 11, 12] = A_ at *
            have e37 : A_.tmps[37]? = some (x 8) := by rw [← hA]; exact putsA_in (i := 8) 37 (by rfl) (by show (37 : Nat) < 103; decide) _ (by decide +kernel) (by decide)
            have f8 : x 8 = .tuple #[.string ⟨#[]⟩, .bool false] := hd 8 (by decide)
            rw [f8] at e37
            clear hA hd
            refine wpOp_step rfl (fun K' hK' => ?_)
            go_simp
            exact hK' _ _ (hK _ _ rfl (Below.refl _ _) hI)
          · generalize hA : putsA _ _ x [0, 1, 2, 3, 4, 5, 6, 7, 8, 9, 10, 11, 12] = A_ at *
            have e37 : A_.tmps[37]? = some (x 8) := by rw [← hA]; exact putsA_in (i := 8) 37 (by rfl) (by show (37 : Nat) < 103; decide) _ (by decide +kernel) (by decide)
            have f8 : x 8 = .tuple #[.string ⟨#[]⟩, .bool false] := hd 8 (by decide)
            rw [f8] at e37
            clear hA hd
            refine wpOp_step rfl (fun K' hK' => ?_)
            go_simp
            exact hK' _ _ (hK _ _ rfl (Below.refl _ _) hI)
          · generalize hA : putsA _ _ x [0, 1, 2, 3, 4, 5, 6, 7, 8, 9, 10, 11, 12] = A_ at *
            have e46 : A_.tmps[46]? = some (x 9) := by rw [← hA]; exact putsA_in (i := 9) 46 (by rfl) (by show (46 : Nat) < 103; decide) _ (by decide +kernel) (by decide)
            have f9 : x 9 = .string ⟨#[]⟩ := hd 9 (by decide)
            rw [f9] at e46
            clear hA hd
            refine wpOp_step rfl (fun K' hK' => ?_)
            go_simp
            exact hK' _ _ (hK _ _ rfl (Below.refl _ _) hI)
          · generalize hA : putsA _ _ x [0, 1, 2, 3, 4, 5, 6, 7, 8, 9, 10, 11, 12] = A_ at *
            have e47 : A_.tmps[47]? = some (x 10) := by rw [← hA]; exact putsA_in (i := 10) 47 (by rfl) (by show (47 : Nat) < 103; decide) _ (by decide +kernel) (by decide)
            have f10 : x 10 = .bool false := hd 10 (by decide)
            rw [f10] at e47
            clear hA hd
            refine wpOp_step rfl (fun K' hK' => ?_)
            go_simp
            exact hK' _ _ (hK _ _ rfl (Below.refl _ _) hI)
        case hend =>
          intro x W b_ c_ hf hpf hqf hI
          have f0 : x 0 = lp q := hf 0 (by decide)
          have f1 : x 1 = .int .i64 ((j : Int) + 1) := hf 1 (by decide)
          have f2 : x 2 = lp q := hf 2 (by decide)
          have f3 : x 3 = lp q := hf 3 (by decide)
          have f4 : x 4 = .pointer (some ⟨q, 5, none⟩) := hf 4 (by decide)
          have f5 : x 5 = .slice A0 nf c0 := hf 5 (by decide)
          have f6 : x 6 = .int .i64 (nf : Int) := hf 6 (by decide)
          have f7 : x 7 = .tuple #[.string ⟨#[]⟩, .bool false] := hf 7 (by decide)
          have f8 : x 8 = .tuple #[.string ⟨#[]⟩, .bool false] := hf 8 (by decide)
          have f9 : x 9 = .string ⟨#[]⟩ := hf 9 (by decide)
          have f10 : x 10 = .bool false := hf 10 (by decide)
          have f11 : x 11 = .string ⟨#[]⟩ := hf 11 (by decide)
          have f12 : x 12 = .bool false := hf 12 (by decide)
          rw [putsA_lit _ _ [0, 1, 2, 3, 4, 5, 6, 7, 8, 9, 10, 11, 12] ((5, 11) :: (6, 12) :: (37, 8) :: (38, 0) :: (39, 1) :: (40, 2) :: (41, 3) :: (42, 4) :: (43, 5) :: (44, 6) :: (45, 7) :: (46, 9) :: (47, 10) :: []) (by kernel_rfl)]
          simp only [setAll, ↓reduceIte, Nat.reduceAdd, Nat.reduceEqDiff]
          rw [f0, f1, f2, f3, f4, f5, f6, f7, f8, f9, f10, f11, f12]
          clear hf hpf hqf f0 f1 f2 f3 f4 f5 f6 f7 f8 f9 f10 f11 f12
          refine wpAny_done (by kernel_rfl) ?_ _
          refine NoPanic.normal ?_
          have hck1 := ck_below HCK.out (undrew hI)
          have HCK1 := Lib.hid hck1
          have y1 : W.cell? ⟨w.heap.size, 0, none⟩ = some (lp q) := hck1.bx.cell 0
          clear hI hck1 x HCK y0 x3
          go_wp2_with fail
          go_roundw
          case rel => exact ⟨j + 1, A1, n1, c1, vs, by omega, by first | rfl | simp | (rw [HWJ.out]; simp), rfl, ⟨HCK1.out.bel, HCK1.out.bx, HCK1.out.row, by rw [HCW.out]; exact HCK1.out.sp, HCK1.out.len⟩⟩
          case measure => first | (simp [intOf]; omega) | (simp [intOf, HWJ.out]; omega)
      · obtain ⟨xf, hxf, -, hxd⟩ := frL_mem hfr
        have HSS := Lib.hid (show s.size = 512 from by rw [← hxd]; exact (H0.out.fok xf hxf).2.2.2)
        have HCW := Lib.hid (show chkW l (j + 1) = chkW l j ++ [.wr 0 ((j : Int) * 8) s] from by rw [chkW, hfr])
        rw [hfr] at hFR
        have HFR := Lib.hid hFR
        clear hFR hfr hxf hxd
        go_wp2_with fail
        refine wp_region_noPanic ?_
        refine wp_region_any (by kernel_rfl) ?_
        refine facts_sw [0, 1, 2, 3, 4, 5, 6, 7, 8, 9, 10, 11, 12] (fun i => match i with | 3 => [2] | 4 => [3] | 5 => [4] | 6 => [5] | 7 => [0, 1, 6] | 8 => [7] | 9 => [8] | 10 => [8] | 11 => [9] | 12 => [10] | _ => []) 99 99 (fun i v W => match i with | 0 => v = lp q | 1 => v = .int .i64 ((j : Int) + 1) | 2 => v = lp q | 3 => v = lp q | 4 => v = .pointer (some ⟨q, 5, none⟩) | 5 => v = .slice A0 nf c0 | 6 => v = .int .i64 (nf : Int) | 7 => v = .tuple #[.string s, .bool true] | 8 => v = .tuple #[.string s, .bool true] | 9 => v = .string s | 10 => v = .bool true | 11 => v = .string s | 12 => v = .bool true | _ => True) (fun W W' => Below W.heap.size W W') (fun _ _ W => Below wr.drew.heap.size wr.drew W) _ _ _ 0 _ #[true, true, true, true, true, true, true, true, true, true, true, true, true] (fun i v W W' h hs => match i, h with | 0, h => h | 1, h => h | 2, h => h | 3, h => h | 4, h => h | 5, h => h | 6, h => h | 7, h => h | 8, h => h | 9, h => h | 10, h => h | 11, h => h | 12, h => h | _ + 13, h => h) (by kernel_rfl) (by rfl) (Below.refl _ _) ?hstep ?hend
        case hstep =>
          intro i hi b_ c_ hbp hcq hbd hcd x W hd hI K hK
          simp only [List.mem_cons, List.not_mem_nil, or_false] at hi
          rcases hi with rfl | rfl | rfl | rfl | rfl | rfl | rfl | rfl | rfl | rfl | rfl | rfl | rfl
          · generalize hA : putsA _ _ x [0, 1, 2, 3, 4, 5, 6, 7, 8, 9, 10, 11, 12] = A_ at *
            have e1 : A_.tmps[1]? = some (.pointer (some ⟨w.heap.size, 0, none⟩)) := by rw [← hA]; exact putsA_at 1 _ (by decide +kernel)
            clear hA hd
            have z0 : W.cell? ⟨w.heap.size, 0, none⟩ = some (lp q) := (ck_below HCK.out (undrew hI)).bx.cell 0
            refine wpOp_step rfl (fun K' hK' => ?_)
            go_simp
            exact hK' _ _ (hK _ _ rfl (Below.refl _ _) hI)
          · generalize hA : putsA _ _ x [0, 1, 2, 3, 4, 5, 6, 7, 8, 9, 10, 11, 12] = A_ at *
            have e4 : A_.tmps[4]? = some (.int .i64 ((j : Int) + 1)) := by rw [← hA]; exact putsA_at 4 _ (by decide +kernel)
            clear hA hd
            refine wpOp_step rfl (fun K' hK' => ?_)
            go_simp
            exact hK' _ _ (hK _ _ rfl (Below.refl _ _) hI)
          · generalize hA : putsA _ _ x [0, 1, 2, 3, 4, 5, 6, 7, 8, 9, 10, 11, 12] = A_ at *
            have e1 : A_.tmps[1]? = some (.pointer (some ⟨w.heap.size, 0, none⟩)) := by rw [← hA]; exact putsA_at 1 _ (by decide +kernel)
            clear hA hd
            have z0 : W.cell? ⟨w.heap.size, 0, none⟩ = some (lp q) := (ck_below HCK.out (undrew hI)).bx.cell 0
            refine wpOp_step rfl (fun K' hK' => ?_)
            go_simp
            exact hK' _ _ (hK _ _ rfl (Below.refl _ _) hI)
          · generalize hA : putsA _ _ x [0, 1, 2, 3, 4, 5, 6, 7, 8, 9, 10, 11, 12] = A_ at *
            have e40 : A_.tmps[40]? = some (x 2) := by rw [← hA]; exact putsA_in (i := 2) 40 (by rfl) (by show (40 : Nat) < 103; decide) _ (by decide +kernel) (by decide)
            have f2 : x 2 = lp q := hd 2 (by decide)
            rw [f2] at e40
            clear hA hd
            refine wpOp_step rfl (fun K' hK' => ?_)
            go_simp
            exact hK' _ _ (hK _ _ rfl (Below.refl _ _) hI)
          · generalize hA : putsA _ _ x [0, 1, 2, 3, 4, 5, 6, 7, 8, 9, 10, 11, 12] = A_ at *
            have e41 : A_.tmps[41]? = some (x 3) := by rw [← hA]; exact putsA_in (i := 3) 41 (by rfl) (by show (41 : Nat) < 103; decide) _ (by decide +kernel) (by decide)
            have f3 : x 3 = lp q := hd 3 (by decide)
            rw [f3] at e41
            clear hA hd
            refine wpOp_step rfl (fun K' hK' => ?_)
            go_simp
            exact hK' _ _ (hK _ _ rfl (Below.refl _ _) hI)
          · generalize hA : putsA _ _ x [0, 1, 2, 3, 4, 5, 6, 7, 8, 9, 10, 11, 12] = A_ at *
            have e42 : A_.tmps[42]? = some (x 4) := by rw [← hA]; exact putsA_in (i := 4) 42 (by rfl) (by show (42 : Nat) < 103; decide) _ (by decide +kernel) (by decide)
            have f4 : x 4 = .pointer (some ⟨q, 5, none⟩) := hd 4 (by decide)
            rw [f4] at e42
            clear hA hd
            obtain ⟨-, -, -, z5, -⟩ := HC.out W (ck_below HCK.out (undrew hI)).bel
            refine wpOp_step rfl (fun K' hK' => ?_)
            go_simp
            exact hK' _ _ (hK _ _ rfl (Below.refl _ _) hI)
          · generalize hA : putsA _ _ x [0, 1, 2, 3, 4, 5, 6, 7, 8, 9, 10, 11, 12] = A_ at *
            have e43 : A_.tmps[43]? = some (x 5) := by rw [← hA]; exact putsA_in (i := 5) 43 (by rfl) (by show (43 : Nat) < 103; decide) _ (by decide +kernel) (by decide)
            have f5 : x 5 = .slice A0 nf c0 := hd 5 (by decide)
            rw [f5] at e43
            clear hA hd
            refine wpOp_step rfl (fun K' hK' => ?_)
            go_simp
            exact hK' _ _ (hK _ _ rfl (Below.refl _ _) hI)
          · generalize hA : putsA _ _ x [0, 1, 2, 3, 4, 5, 6, 7, 8, 9, 10, 11, 12] = A_ at *
            have e38 : A_.tmps[38]? = some (x 0) := by rw [← hA]; exact putsA_in (i := 0) 38 (by rfl) (by show (38 : Nat) < 103; decide) _ (by decide +kernel) (by decide)
            have f0 : x 0 = lp q := hd 0 (by decide)
            rw [f0] at e38
            have e39 : A_.tmps[39]? = some (x 1) := by rw [← hA]; exact putsA_in (i := 1) 39 (by rfl) (by show (39 : Nat) < 103; decide) _ (by decide +kernel) (by decide)
            have f1 : x 1 = .int .i64 ((j : Int) + 1) := hd 1 (by decide)
            rw [f1] at e39
            have e44 : A_.tmps[44]? = some (x 6) := by rw [← hA]; exact putsA_in (i := 6) 44 (by rfl) (by show (44 : Nat) < 103; decide) _ (by decide +kernel) (by decide)
            have f6 : x 6 = .int .i64 (nf : Int) := hd 6 (by decide)
            rw [f6] at e44
            clear hA hd
            refine wpOp_step rfl (fun K' hK' => ?_)
            go_simp
            refine (HFR.out W (ck_below HCK.out (undrew hI)).bel).mono ?_
            rintro e w6 ⟨rfl, rfl⟩
            exact hK' _ _ (hK _ _ rfl (Below.refl _ _) hI)
          · generalize hA : putsA _ _ x [0, 1, 2, 3, 4, 5, 6, 7, 8, 9, 10, 11, 12] = A_ at *
            have e45 : A_.tmps[45]? = some (x 7) := by rw [← hA]; exact putsA_in (i := 7) 45 (by rfl) (by show (45 : Nat) < 103; decide) _ (by decide +kernel) (by decide)
            have f7 : x 7 = .tuple #[.string s, .bool true] := hd 7 (by decide)
            rw [f7] at e45
            clear hA hd
            refine wpOp_step rfl (fun K' hK' => ?_)
            go_simp
            exact hK' _ _ (hK _ _ rfl (Below.refl _ _) hI)
          · generalize hA : putsA _ _ x [0, 1, 2, 3, 4, 5, 6, 7, 8, 9, 10, 11, 12] = A_ at *
            have e37 : A_.tmps[37]? = some (x 8) := by rw [← hA]; exact putsA_in (i := 8) 37 (by rfl) (by show (37 : Nat) < 103; decide) _ (by decide +kernel) (by decide)
            have f8 : x 8 = .tuple #[.string s, .bool true] := hd 8 (by decide)
            rw [f8] at e37
            clear hA hd
            refine wpOp_step rfl (fun K' hK' => ?_)
            go_simp
            exact hK' _ _ (hK _ _ rfl (Below.refl _ _) hI)
          · generalize hA : putsA _ _ x [0, 1, 2, 3, 4, 5, 6, 7, 8, 9, 10, 11, 12] = A_ at *
            have e37 : A_.tmps[37]? = some (x 8) := by rw [← hA]; exact putsA_in (i := 8) 37 (by rfl) (by show (37 : Nat) < 103; decide) _ (by decide +kernel) (by decide)
            have f8 : x 8 = .tuple #[.string s, .bool true] := hd 8 (by decide)
            rw [f8] at e37
            clear hA hd
            refine wpOp_step rfl (fun K' hK' => ?_)
            go_simp
            exact hK' _ _ (hK _ _ rfl (Below.refl _ _) hI)
          · generalize hA : putsA _ _ x [0, 1, 2, 3, 4, 5, 6, 7, 8, 9, 10, 11, 12] = A_ at *
            have e46 : A_.tmps[46]? = some (x 9) := by rw [← hA]; exact putsA_in (i := 9) 46 (by rfl) (by show (46 : Nat) < 103; decide) _ (by decide +kernel) (by decide)
            have f9 : x 9 = .string s := hd 9 (by decide)
            rw [f9] at e46
            clear hA hd
            refine wpOp_step rfl (fun K' hK' => ?_)
            go_simp
            exact hK' _ _ (hK _ _ rfl (Below.refl _ _) hI)
          · generalize hA : putsA _ _ x [0, 1, 2, 3, 4, 5, 6, 7, 8, 9, 10, 11, 12] = A_ at *
            have e47 : A_.tmps[47]? = some (x 10) := by rw [← hA]; exact putsA_in (i := 10) 47 (by rfl) (by show (47 : Nat) < 103; decide) _ (by decide +kernel) (by decide)
            have f10 : x 10 = .bool true := hd 10 (by decide)
            rw [f10] at e47
            clear hA hd
            refine wpOp_step rfl (fun K' hK' => ?_)
            go_simp
            exact hK' _ _ (hK _ _ rfl (Below.refl _ _) hI)
        case hend =>
          intro x W b_ c_ hf hpf hqf hI
          have f0 : x 0 = lp q := hf 0 (by decide)
          have f1 : x 1 = .int .i64 ((j : Int) + 1) := hf 1 (by decide)
          have f2 : x 2 = lp q := hf 2 (by decide)
          have f3 : x 3 = lp q := hf 3 (by decide)
          have f4 : x 4 = .pointer (some ⟨q, 5, none⟩) := hf 4 (by decide)
          have f5 : x 5 = .slice A0 nf c0 := hf 5 (by decide)
          have f6 : x 6 = .int .i64 (nf : Int) := hf 6 (by decide)
          have f7 : x 7 = .tuple #[.string s, .bool true] := hf 7 (by decide)
          have f8 : x 8 = .tuple #[.string s, .bool true] := hf 8 (by decide)
          have f9 : x 9 = .string s := hf 9 (by decide)
          have f10 : x 10 = .bool true := hf 10 (by decide)
          have f11 : x 11 = .string s := hf 11 (by decide)
          have f12 : x 12 = .bool true := hf 12 (by decide)
          rw [putsA_lit _ _ [0, 1, 2, 3, 4, 5, 6, 7, 8, 9, 10, 11, 12] ((5, 11) :: (6, 12) :: (37, 8) :: (38, 0) :: (39, 1) :: (40, 2) :: (41, 3) :: (42, 4) :: (43, 5) :: (44, 6) :: (45, 7) :: (46, 9) :: (47, 10) :: []) (by kernel_rfl)]
          simp only [setAll, ↓reduceIte, Nat.reduceAdd, Nat.reduceEqDiff]
          rw [f0, f1, f2, f3, f4, f5, f6, f7, f8, f9, f10, f11, f12]
          clear hf hpf hqf f0 f1 f2 f3 f4 f5 f6 f7 f8 f9 f10 f11 f12
          refine wpAny_done (by kernel_rfl) ?_ _
          refine NoPanic.normal ?_
          have hck1 := ck_below HCK.out (undrew hI)
          have HCK1 := Lib.hid hck1
          have y1 : W.cell? ⟨w.heap.size, 0, none⟩ = some (lp q) := hck1.bx.cell 0
          clear hI hck1 x HCK y0 x3
          go_wp2_with fail
          refine wp_region_noPanic ?_
          refine wp_region_any (by kernel_rfl) ?_
          refine facts_sw [0, 1, 2, 3, 4, 5, 6] (fun i => match i with | 3 => [2] | 5 => [1, 3, 4] | 6 => [5] | _ => []) 99 99 (fun i v W => match i with | 0 => v = .slice A1 n1 c1 | 1 => v = lp q | 2 => v = .int .i64 ((j : Int) + 1) | 3 => v = .int .i64 ((j : Int) * 8) | 4 => v = .string s | 5 => ∃ k, v = wrV k ∧ w.heap.size ≤ k ∧ WrB W q k 0 ((j : Int) * 8) s | 6 => ∃ k k1, v = .slice (some ⟨k, 0, none⟩) 1 1 ∧ w.heap.size ≤ k1 ∧ Blk W k 86 #[wrV k1] ∧ WrB W q k1 0 ((j : Int) * 8) s | _ => True) (fun W W' => Below W.heap.size W W') (fun _ _ W' => Below W.drew.heap.size W.drew W') _ _ _ 2 _ #[true, true, true, true, true, true, true, false, false] (fun i v W W' h hs => match i, h with | 0, h => h | 1, h => h | 2, h => h | 3, h => h | 4, h => h | 5, ⟨k, h1, h2, h3⟩ => ⟨k, h1, h2, wrB_below h3 hs⟩ | 6, ⟨k, k1, h1, h3, h4, h5⟩ => ⟨k, k1, h1, h3, blk_step h4 hs, wrB_below h5 hs⟩ | 7, h => h | 8, h => h | _ + 9, h => h) (by kernel_rfl) (by rfl) (Below.refl _ _) ?hstep ?hend
          case hstep =>
            intro i hi b_ c_ hbp hcq hbd hcd x W hd hI K hK
            simp only [List.mem_cons, List.not_mem_nil, or_false] at hi
            rcases hi with rfl | rfl | rfl | rfl | rfl | rfl | rfl
            · generalize hA : putsA _ _ x [0, 1, 2, 3, 4, 5, 6] = A_ at *
              have e3 : A_.tmps[3]? = some (.slice A1 n1 c1) := by rw [← hA]; exact putsA_at 3 _ (by decide +kernel)
              clear hA hd
              refine wpOp_step rfl (fun K' hK' => ?_)
              go_simp
              exact hK' _ _ (hK _ _ rfl (Below.refl _ _) hI)
            · generalize hA : putsA _ _ x [0, 1, 2, 3, 4, 5, 6] = A_ at *
              have e1 : A_.tmps[1]? = some (.pointer (some ⟨w.heap.size, 0, none⟩)) := by rw [← hA]; exact putsA_at 1 _ (by decide +kernel)
              clear hA hd
              have z0 : W.cell? ⟨w.heap.size, 0, none⟩ = some (lp q) := (ck_below HCK1.out (undrew hI)).bx.cell 0
              refine wpOp_step rfl (fun K' hK' => ?_)
              go_simp
              exact hK' _ _ (hK _ _ rfl (Below.refl _ _) hI)
            · generalize hA : putsA _ _ x [0, 1, 2, 3, 4, 5, 6] = A_ at *
              have e4 : A_.tmps[4]? = some (.int .i64 ((j : Int) + 1)) := by rw [← hA]; exact putsA_at 4 _ (by decide +kernel)
              clear hA hd
              refine wpOp_step rfl (fun K' hK' => ?_)
              go_simp
              exact hK' _ _ (hK _ _ rfl (Below.refl _ _) hI)
            · generalize hA : putsA _ _ x [0, 1, 2, 3, 4, 5, 6] = A_ at *
              have e51 : A_.tmps[51]? = some (x 2) := by rw [← hA]; exact putsA_in (i := 2) 51 (by rfl) (by show (51 : Nat) < 103; decide) _ (by decide +kernel) (by decide)
              have f2 : x 2 = .int .i64 ((j : Int) + 1) := hd 2 (by decide)
              rw [f2] at e51
              clear hA hd
              refine wpOp_step rfl (fun K' hK' => ?_)
              go_simp
              refine (pageAt_any ((j : Int) + 1) W (by omega) (by omega)).mono ?_
              rintro e w6 ⟨rfl, rfl⟩
              exact hK' _ _ (hK _ _ (congrArg (Value.int .i64) (show ((j : Int) + 1 - 1) * 8 = (j : Int) * 8 by omega)) (Below.refl _ _) hI)
            · generalize hA : putsA _ _ x [0, 1, 2, 3, 4, 5, 6] = A_ at *
              have e5 : A_.tmps[5]? = some (.string s) := by rw [← hA]; exact putsA_at 5 _ (by decide +kernel)
              clear hA hd
              refine wpOp_step rfl (fun K' hK' => ?_)
              go_simp
              exact hK' _ _ (hK _ _ rfl (Below.refl _ _) hI)
            · generalize hA : putsA _ _ x [0, 1, 2, 3, 4, 5, 6] = A_ at *
              have e50 : A_.tmps[50]? = some (x 1) := by rw [← hA]; exact putsA_in (i := 1) 50 (by rfl) (by show (50 : Nat) < 103; decide) _ (by decide +kernel) (by decide)
              have f1 : x 1 = lp q := hd 1 (by decide)
              rw [f1] at e50
              have e52 : A_.tmps[52]? = some (x 3) := by rw [← hA]; exact putsA_in (i := 3) 52 (by rfl) (by show (52 : Nat) < 103; decide) _ (by decide +kernel) (by decide)
              have f3 : x 3 = .int .i64 ((j : Int) * 8) := hd 3 (by decide)
              rw [f3] at e52
              have e53 : A_.tmps[53]? = some (x 4) := by rw [← hA]; exact putsA_in (i := 4) 53 (by rfl) (by show (53 : Nat) < 103; decide) _ (by decide +kernel) (by decide)
              have f4 : x 4 = .string s := hd 4 (by decide)
              rw [f4] at e53
              clear hA hd
              refine wpOp_step rfl (fun K' hK' => ?_)
              go_simp
              refine (wwrite_any q 0 ((j : Int) * 8) s W).mono ?_
              rintro e w6 ⟨rfl, hwr, hb6⟩
              exact hK' _ _ (hK _ _ ⟨W.heap.size, rfl, (ck_below HCK1.out (undrew hI)).bel.size, hwr⟩ hb6 (bj hI hb6))
            · generalize hA : putsA _ _ x [0, 1, 2, 3, 4, 5, 6] = A_ at *
              have e54 : A_.tmps[54]? = some (x 5) := by rw [← hA]; exact putsA_in (i := 5) 54 (by rfl) (by show (54 : Nat) < 103; decide) _ (by decide +kernel) (by decide)
              obtain ⟨k5, f5, hk5, hw5⟩ := hd 5 (by decide)
              replace f5 : x 5 = wrV k5 := f5
              rw [f5] at e54
              clear hA hd
              refine wpOp_step rfl (fun K' hK' => ?_)
              go_simp
              exact hK' _ _ (hK _ _ ⟨W.heap.size, k5, rfl, hk5, Blk.new _ _ _, wrB_below hw5 allocB⟩ allocB (bj hI allocB))
          case hend =>
            intro x W b_ c_ hf hpf hqf hI
            have f0 : x 0 = .slice A1 n1 c1 := hf 0 (by decide)
            have f1 : x 1 = lp q := hf 1 (by decide)
            have f2 : x 2 = .int .i64 ((j : Int) + 1) := hf 2 (by decide)
            have f3 : x 3 = .int .i64 ((j : Int) * 8) := hf 3 (by decide)
            have f4 : x 4 = .string s := hf 4 (by decide)
            obtain ⟨k5, f5, hk5, hw5⟩ := hf 5 (by decide)
            replace f5 : x 5 = wrV k5 := f5
            obtain ⟨k6, j6, f6, hj6, hb6, hw6⟩ := hf 6 (by decide)
            replace f6 : x 6 = .slice (some ⟨k6, 0, none⟩) 1 1 := f6
            rw [putsA_lit _ _ [0, 1, 2, 3, 4, 5, 6] ((49, 0) :: (50, 1) :: (51, 2) :: (52, 3) :: (53, 4) :: (54, 5) :: (55, 6) :: []) (by kernel_rfl)]
            simp only [setAll, ↓reduceIte, Nat.reduceAdd, Nat.reduceEqDiff]
            rw [f0, f1, f2, f3, f4, f5, f6]
            clear hf hpf hqf f0 f1 f2 f3 f4 f5 f6
            have HCK2 := Lib.hid (ck_below HCK1.out (undrew hI))
            have HW6 := Lib.hid (And.intro hw6 hj6)
            have HK6 := Lib.hid hb6
            have HSL := Lib.hid (show ∀ b, S b → b < w.heap.size from H0.out.lt)
            clear hI hw6 hj6 hb6 HCK1 y1 hk5 hw5
            obtain ⟨i0, hi, hz0, hz1, hz2⟩ := info_parts st_info
            have hn1 : n1 ≤ 256 := by
              have h1 := HCK2.out.sp.1
              have h2 := chkW_len l j
              have h3 := HCK2.out.len
              omega
            refine wpAny_ready (rs := [7]) (by kernel_rfl) (by simp) ?_
            refine AllReady.cons rfl (fun K hK => ?_) AllReady.nil
            refine step_append_lies _ (by rfl) (.tmp 49) (.tmp 55) 84 (by rfl) (w.heap.size + 1) 86 i0 _ 1 8 Try.underlying84 hi hz0 hz1 hz2 rfl (by omega) _ n1 vs rfl HCK2.out.row ⟨k6, 0, none⟩ 1 1 [wrV j6] rfl rfl (fun i u hu => by
              match i with
              | 0 => cases hu; exact HK6.out.cell 0
              | i + 1 => simp at hu) (by intro u hu; simp at hu; rcases hu with rfl; rfl) (by omega) (by simp only [maxLen]; omega) (by omega) HCK2.out.bx.lt _ rfl ?_
            intro gA capA w6 hownA hgA _ hltA
            refine hK _ _ ?_
            clear hK K
            have HCK3 := Lib.hid (show Ck w S q l (j + 1) (some ⟨gA, 0, none⟩) (n1 + 1) capA (vs ++ [wrV j6]) w6 from by
              have hgb : ∀ k t cs, Blk W k t cs → t ≠ 86 → Blk w6 k t cs := fun k t cs hk hne => grown_blk HCK2.out.row hgA hk hne
              refine ⟨HCK2.out.bel.grown hgA HCK2.out.bel.size (fun k hk => by have := (HCK2.out.row.lt k hk).1; omega), hgb _ _ _ HCK2.out.bx (by decide), hownA, ?_, by rw [List.length_append, HCK2.out.len]; rfl⟩
              rw [HCW.out]
              refine spVs_app (spVs_grown HCK2.out.sp HCK2.out.row hgA) ⟨rfl, fun i sp hi => ?_⟩
              match i with
              | 0 =>
                cases hi
                exact ⟨_, rfl, wrB_spV (show WrB w6 q j6 0 ((j : Int) * 8) s from ⟨hgb _ _ _ HW6.out.1.1 (by decide), hgb _ _ _ HW6.out.1.2.1 (by decide), hgb _ _ _ HW6.out.1.2.2.1 (by decide), hgb _ _ _ HW6.out.1.2.2.2 (by decide)⟩) (by have := HSS.out; omega) (fun b hb => Nat.lt_of_lt_of_le (HSL.out b hb) HW6.out.2)⟩
              | i + 1 => simp at hi)
            clear hownA hgA HCK2 HW6 HK6 hn1
            refine wpAny_ready (rs := [8]) (by kernel_rfl) (by simp) ?_
            refine AllReady.cons rfl (fun K hK => ?_) AllReady.nil
            go_simp
            refine hK _ _ ?_
            clear hK K
            refine wpAny_done (by kernel_rfl) ?_ _
            refine NoPanic.normal ?_
            clear x
            have y2 : w6.cell? ⟨w.heap.size, 0, none⟩ = some (lp q) := HCK3.out.bx.cell 0
            go_wp2_with fail
            go_roundw
            case rel => exact ⟨j + 1, _, _, _, _, by omega, by first | rfl | simp | (rw [HWJ.out]; simp), rfl, HCK3.out⟩
            case measure => first | (simp [intOf]; omega) | (simp [intOf, HWJ.out]; omega)
end Go.Proofs.Ythipaabjmlgjmaa
