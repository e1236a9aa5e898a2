/- What a column comes to; a sum's small example. Conditions: those of each lemma. -/
import Derived.Test.YtkgpcodccpckeaaEv8
import Derived.Test.YtkgpcodccpckeaaEv6
import Derived.OwnWalk
namespace Go.Proofs.Ytkgpcodccpckeaa
open Go.RowKit
set_option linter.unusedVariables false
set_option linter.unusedSimpArgs false
theorem sccol0 (b o rn rc : Nat) (p q : Int) (s : ByteArray) (g : Nat) (w : World) (hg : Blk w g 42 #[.slice (some ⟨b, o, none⟩) rn rc]) (h0 : w.cell? ⟨b, o, none⟩ = some (.int .u8 p)) (h1 : w.cell? ⟨b, o + 1, none⟩ = some (.int .i64 q)) (h2 : w.cell? ⟨b, o + 2, none⟩ = some (.string s)) (hn : 0 < rn) (hrn : rn ≤ 1000) : Calls Try.prog 43 #[.int .i64 0, .pointer (some ⟨g, 0, none⟩)] w fun e w' => e = .returned (.agg #[.int .u8 p, .int .i64 q, .string s]) ∧ Below w.heap.size w w' :=
  sccol_any b o 0 rn rc (p, q, s) g w hg (by simpa using h0) (by simpa using h1) (by simpa using h2) hn hrn
set_option maxRecDepth 100000 in
set_option maxHeartbeats 4000000 in
theorem come_col (b o rn rc : Nat) (p q : Int) (s : ByteArray) (g : Nat) (w : World) (hg : Blk w g 42 #[.slice (some ⟨b, o, none⟩) rn rc]) (h0 : w.cell? ⟨b, o, none⟩ = some (.int .u8 p)) (h1 : w.cell? ⟨b, o + 1, none⟩ = some (.int .i64 q)) (h2 : w.cell? ⟨b, o + 2, none⟩ = some (.string s)) (hn : 0 < rn) (hrn : rn ≤ 1000) :
    Calls Try.prog 34 #[scV 43 ⟨g, 0, none⟩ none 0 0, exV (colX 0)] w fun e w' => e = .returned (.tuple #[.agg #[.int .u8 p, .int .i64 q, .string s], .int .i64 0]) ∧ Below w.heap.size w w' := by
  have hb : b < w.heap.size := World.block_lt_of_cell? w _ h0
  have hC : Hid (∀ W, Below w.heap.size w W → Calls Try.prog 43 #[.int .i64 0, .pointer (some ⟨g, 0, none⟩)] W fun e w' => e = .returned (.agg #[.int .u8 p, .int .i64 q, .string s]) ∧ Below W.heap.size W w') := Lib.hid fun W hbw =>
    sccol0 b o rn rc p q s g W (blk_step hg hbw) ((hbw.cell (p := ⟨b, o, none⟩) hb).trans h0) ((hbw.cell (p := ⟨b, o + 1, none⟩) hb).trans h1) ((hbw.cell (p := ⟨b, o + 2, none⟩) hb).trans h2) hn hrn
  have HZ := Lib.hid (blk_new ((w.alloc (.cells #[.func (.func 43) #[] #[.pointer (some ⟨g, 0, none⟩)], .slice none 0 0] 62)).alloc (.cells (exC (colX 0)) 29)) (w.heap.size + 1 + 1) 23 #[.int .u8 0, .int .i64 0, .string ⟨#[]⟩] (by simp))
  clear hg h0 h1 h2 hb hn
  go_enter Try.func34, Try.ntmps34
  go_wp2_with fail
  refine (hC.out _ bj3).mono ?_
  rintro e w4 ⟨rfl, hb4⟩
  have hz := blk_step HZ.out hb4
  have hB := bj bj3 hb4
  obtain ⟨y0, y1, y2, f0, f1, f2⟩ := cell3 hz
  clear hb4
  go_wp2
  obtain ⟨e0, e1, e2, _, _, _⟩ := cell3 (blk3_set hz (.int .u8 p) (.int .i64 q) (.string s))
  exact bodyPost_ret (v := .tuple #[.agg #[.int .u8 p, .int .i64 q, .string s], .int .i64 0]) (by simp [results, Try.results34, go_sem, e0, e1, e2]) rfl ⟨rfl, below3_at hB (by omega) _ _ _⟩
/-- total's answer, sum, and list -/
def Tt (w : World) (k : Int) (bb o : Nat) (W : World) : Prop := Blk W w.heap.size 23 #[.int .u8 0, .int .i64 0, .string ⟨#[]⟩] ∧ Blk W (w.heap.size + 1) 87 #[.int .u64 0, .int .u64 k] ∧ W.cell? ⟨bb, o, none⟩ = some (.int .u8 1) ∧ W.cell? ⟨bb, o + 1, none⟩ = some (.int .i64 3) ∧ W.cell? ⟨bb, o + 2, none⟩ = some (.string ⟨#[]⟩) ∧ W.cell? ⟨bb, o + 3, none⟩ = some (.int .u8 1) ∧ W.cell? ⟨bb, o + 3 + 1, none⟩ = some (.int .i64 4) ∧ W.cell? ⟨bb, o + 3 + 2, none⟩ = some (.string ⟨#[]⟩) ∧ bb < w.heap.size ∧ Below w.heap.size w W
theorem tt_below {w W W' : World} {k : Int} {bb o : Nat} (h : Tt w k bb o W) (hb : Below W.heap.size W W') : Tt w k bb o W' := by
  have hlt : bb < W.heap.size := Nat.lt_of_lt_of_le h.2.2.2.2.2.2.2.2.1 h.2.2.2.2.2.2.2.2.2.size
  exact ⟨blk_step h.1 hb, blk_step h.2.1 hb, (hb.cell (p := ⟨bb, o, none⟩) hlt).trans h.2.2.1, (hb.cell (p := ⟨bb, o + 1, none⟩) hlt).trans h.2.2.2.1, (hb.cell (p := ⟨bb, o + 2, none⟩) hlt).trans h.2.2.2.2.1, (hb.cell (p := ⟨bb, o + 3, none⟩) hlt).trans h.2.2.2.2.2.1, (hb.cell (p := ⟨bb, o + 3 + 1, none⟩) hlt).trans h.2.2.2.2.2.2.1, (hb.cell (p := ⟨bb, o + 3 + 2, none⟩) hlt).trans h.2.2.2.2.2.2.2.1, h.2.2.2.2.2.2.2.2.1, bj h.2.2.2.2.2.2.2.2.2 hb⟩
theorem tt_drew {w W : World} {k : Int} {bb o : Nat} (h : Tt w k bb o W) : Tt w k bb o W.drew := ⟨h.1.drew, h.2.1.drew, h.2.2.1, h.2.2.2.1, h.2.2.2.2.1, h.2.2.2.2.2.1, h.2.2.2.2.2.2.1, h.2.2.2.2.2.2.2.1, h.2.2.2.2.2.2.2.2.1, h.2.2.2.2.2.2.2.2.2.drew⟩
theorem tt_set {w W : World} {k : Int} {bb o : Nat} (h : Tt w k bb o W) (k' : Int) : Tt w k' bb o ((W.setCell ⟨w.heap.size + 1, 0, none⟩ (.int .u64 0)).setCell ⟨w.heap.size + 1, 1, none⟩ (.int .u64 k')) := by
  have hb : Below w.heap.size W ((W.setCell ⟨w.heap.size + 1, 0, none⟩ (.int .u64 0)).setCell ⟨w.heap.size + 1, 1, none⟩ (.int .u64 k')) := ((Below.refl _ W).setCell (Nat.le_succ _) _).setCell (Nat.le_succ _) _
  have hlt := h.2.2.2.2.2.2.2.2.1
  exact ⟨(h.1.far (by simp) _).far (by simp) _, blk2 h.2.1, (hb.cell (p := ⟨bb, o, none⟩) hlt).trans h.2.2.1, (hb.cell (p := ⟨bb, o + 1, none⟩) hlt).trans h.2.2.2.1, (hb.cell (p := ⟨bb, o + 2, none⟩) hlt).trans h.2.2.2.2.1, (hb.cell (p := ⟨bb, o + 3, none⟩) hlt).trans h.2.2.2.2.2.1, (hb.cell (p := ⟨bb, o + 3 + 1, none⟩) hlt).trans h.2.2.2.2.2.2.1, (hb.cell (p := ⟨bb, o + 3 + 2, none⟩) hlt).trans h.2.2.2.2.2.2.2.1, hlt, (h.2.2.2.2.2.2.2.2.2.setCell (Nat.le_succ _) _).setCell (Nat.le_succ _) _⟩
set_option maxRecDepth 100000 in
set_option maxHeartbeats 8000000 in
theorem total_works (bb o c : Nat) (w : World) (hV : Vals w w.heap.size (some ⟨bb, o, none⟩) [(1, 3, ⟨#[]⟩), (1, 4, ⟨#[]⟩)]) :
    Calls Try.prog 60 #[.slice (some ⟨bb, o, none⟩) 2 c] w fun e w' => e = .returned (.tuple #[.agg #[.int .u8 1, .int .i64 7, .string ⟨#[]⟩], .int .i64 0]) ∧ Below w.heap.size w w' := by
  obtain ⟨b', o', he, hlt, hc⟩ := vals_get hV (by simp)
  simp only [Option.some.injEq, Addr.mk.injEq, and_true] at he
  obtain ⟨rfl, rfl⟩ := he
  obtain ⟨l0, l1, l2⟩ := hc 0 _ rfl
  obtain ⟨l3, l4, l5⟩ := hc 1 _ rfl
  simp only [Nat.zero_mul, Nat.one_mul, Nat.add_zero] at l0 l1 l2 l3 l4 l5
  have H0 : Tt w 0 bb o ((w.alloc (.cells #[.int .u8 0, .int .i64 0, .string ⟨#[]⟩] 23)).alloc (.cells #[.int .u64 0, .int .u64 0] 87)) := by
    have hb : Below w.heap.size w ((w.alloc (.cells #[.int .u8 0, .int .i64 0, .string ⟨#[]⟩] 23)).alloc (.cells #[.int .u64 0, .int .u64 0] 87)) := bj one_alloc one_alloc
    exact ⟨(Blk.new _ _ _).alloc _, blk_new _ _ _ _ (by simp), (hb.cell (p := ⟨bb, o, none⟩) hlt).trans l0, (hb.cell (p := ⟨bb, o + 1, none⟩) hlt).trans l1, (hb.cell (p := ⟨bb, o + 2, none⟩) hlt).trans l2, (hb.cell (p := ⟨bb, o + 3, none⟩) hlt).trans l3, (hb.cell (p := ⟨bb, o + 3 + 1, none⟩) hlt).trans l4, (hb.cell (p := ⟨bb, o + 3 + 2, none⟩) hlt).trans l5, hlt, hb⟩
  have HS := Lib.hid H0
  clear H0 hV hc l0 l1 l2 l3 l4 l5
  go_enter Try.func60, Try.ntmps60
  go_wp2
  go_loopw [9] (fun i wr => (i = .int .i64 0 ∧ Tt w 0 bb o wr) ∨ (i = .int .i64 1 ∧ Tt w 3 bb o wr) ∨ (i = .int .i64 2 ∧ Tt w 7 bb o wr)) (fun i _ => 2 - (intOf i).toNat)
  case atStart => exact .inl ⟨rfl, HS.out⟩
  case round =>
    rcases hrel with ⟨rfl, hy⟩ | ⟨rfl, hy⟩ | ⟨rfl, hy⟩
    · have HY := Lib.hid (tt_below hy (one_alloc (o := .cells #[.int .u8 1, .int .i64 3, .string ⟨#[]⟩] 23)))
      obtain ⟨_, _, l0, l1, l2, l3, l4, l5, _, _⟩ := hy
      have hv := Lib.hid (Blk.new wr 23 #[.int .u8 1, .int .i64 3, .string ⟨#[]⟩])
      have HO := Lib.hid (only_any 1 (some ⟨wr.heap.size + 1, 0, none⟩) [1] 1 1 ((wr.alloc (.cells #[.int .u8 1, .int .i64 3, .string ⟨#[]⟩] 23)).alloc (.cells #[.int .u8 1] 5)) (u8s_blk (blk_new _ _ _ _ (by simp)) (fun j x hx => by match j, hx with | 0, hx => (simp at hx; subst hx; rfl) | j + 1, hx => simp at hx)) rfl (by omega))
      go_wp2_with fail
      refine (HO.out).mono ?_
      rintro e w5 ⟨rfl, rfl⟩
      have HY2 := Lib.hid (tt_drew (tt_below HY.out (one_alloc (o := .cells #[.int .u8 1] 5))))
      have HV2 := Lib.hid ((hv.out.alloc (.cells #[.int .u8 1] 5)).drew)
      have HWD := Lib.hid (fun W (h : Tt w 0 bb o W) => (widened_3 W).mono fun e w' he => And.intro he.1 (tt_below h he.2))
      have HPL := Lib.hid (fun W (h : Tt w 0 bb o W) => (plus_0_3 W).mono fun e w' he => And.intro he.1 (tt_below h he.2))
      clear HO
      rw [show onlyB 1 [1] = true from rfl]
      go_wp2_with fail
      obtain ⟨v0, v1, v2, _, _, _⟩ := cell3 HV2.out
      obtain ⟨p0, p1⟩ := pair_at HY2.out.2.1
      have hs := HY2.out
      go_region_with (first
        | (go_at_call 64; (with_reducible refine (HWD.out _ (by first | exact HY2.out | assumption)).mono ?_); rintro e w6 ⟨rfl, hs⟩; obtain ⟨p0, p1⟩ := pair_at hs.2.1)
        | (go_at_call 67; (with_reducible refine (HPL.out _ (by assumption)).mono ?_); rintro e w7 ⟨rfl, hs⟩; obtain ⟨p0, p1⟩ := pair_at hs.2.1; (have f0 := hs.2.1.frozen 0); (have f1 := hs.2.1.frozen 1)))
      all_goals
        have HY3 := Lib.hid (tt_set hs 3)
        clear hs
        go_wp2
        go_roundw
        case rel => exact .inr (.inl ⟨by first | rfl | go_num, HY3.out⟩)
        case measure => simp [intOf]
    · have HY := Lib.hid (tt_below hy (one_alloc (o := .cells #[.int .u8 1, .int .i64 4, .string ⟨#[]⟩] 23)))
      obtain ⟨_, _, l0, l1, l2, l3, l4, l5, _, _⟩ := hy
      have hv := Lib.hid (Blk.new wr 23 #[.int .u8 1, .int .i64 4, .string ⟨#[]⟩])
      have HO := Lib.hid (only_any 1 (some ⟨wr.heap.size + 1, 0, none⟩) [1] 1 1 ((wr.alloc (.cells #[.int .u8 1, .int .i64 4, .string ⟨#[]⟩] 23)).alloc (.cells #[.int .u8 1] 5)) (u8s_blk (blk_new _ _ _ _ (by simp)) (fun j x hx => by match j, hx with | 0, hx => (simp at hx; subst hx; rfl) | j + 1, hx => simp at hx)) rfl (by omega))
      go_wp2_with fail
      refine (HO.out).mono ?_
      rintro e w5 ⟨rfl, rfl⟩
      have HY2 := Lib.hid (tt_drew (tt_below HY.out (one_alloc (o := .cells #[.int .u8 1] 5))))
      have HV2 := Lib.hid ((hv.out.alloc (.cells #[.int .u8 1] 5)).drew)
      have HWD := Lib.hid (fun W (h : Tt w 3 bb o W) => (widened_4 W).mono fun e w' he => And.intro he.1 (tt_below h he.2))
      have HPL := Lib.hid (fun W (h : Tt w 3 bb o W) => (plus_3_4 W).mono fun e w' he => And.intro he.1 (tt_below h he.2))
      clear HO
      rw [show onlyB 1 [1] = true from rfl]
      go_wp2_with fail
      obtain ⟨v0, v1, v2, _, _, _⟩ := cell3 HV2.out
      obtain ⟨p0, p1⟩ := pair_at HY2.out.2.1
      have hs := HY2.out
      go_region_with (first
        | (go_at_call 64; (with_reducible refine (HWD.out _ (by first | exact HY2.out | assumption)).mono ?_); rintro e w6 ⟨rfl, hs⟩; obtain ⟨p0, p1⟩ := pair_at hs.2.1)
        | (go_at_call 67; (with_reducible refine (HPL.out _ (by assumption)).mono ?_); rintro e w7 ⟨rfl, hs⟩; obtain ⟨p0, p1⟩ := pair_at hs.2.1; (have f0 := hs.2.1.frozen 0); (have f1 := hs.2.1.frozen 1)))
      all_goals
        have HY3 := Lib.hid (tt_set hs 7)
        clear hs
        go_wp2
        go_roundw
        case rel => exact .inr (.inr ⟨by first | rfl | go_num, HY3.out⟩)
        case measure => simp [intOf]
    · have HY := Lib.hid hy
      obtain ⟨p0, p1⟩ := pair_at hy.2.1
      have HV7 := Lib.hid (fun W (h : Tt w 7 bb o W) => (value_7 W).mono fun e w' he => And.intro he.1 (tt_below h he.2))
      clear hy
      go_wp2_with fail
      refine (HV7.out _ HY.out).mono ?_
      rintro e w8 ⟨rfl, hs⟩
      obtain ⟨y0, y1, y2, f0, f1, f2⟩ := cell3 hs.1
      go_wp2
      obtain ⟨e0, e1, e2, _, _, _⟩ := cell3 (blk3_set hs.1 (.int .u8 1) (.int .i64 7) (.string ⟨#[]⟩))
      exact bodyPost_ret (v := .tuple #[.agg #[.int .u8 1, .int .i64 7, .string ⟨#[]⟩], .int .i64 0]) (by simp [results, Try.results60, go_sem, e0, e1, e2]) rfl ⟨rfl, below3_set hs.2.2.2.2.2.2.2.2.2 _ _ _⟩
end Go.Proofs.Ytkgpcodccpckeaa
