/- scope.group at the laws' own example: the sum of 3 and 4. Conditions: where the rows stand. -/
import Derived.Test.YtkgpcodccpckeaaEv9
import Derived.Test.YtkgpcodccpckeaaRows2
namespace Go.Proofs.Ytkgpcodccpckeaa
open Go.RowKit
set_option linter.unusedVariables false
set_option linter.unusedSimpArgs false
/-- the rows of the example, and the kid: where they stand -/
def Lo (w : World) (rb r0 r1 kb B : Nat) : Prop := w.cell? ⟨rb, 0, none⟩ = some (.slice (some ⟨r0, 0, none⟩) 1 1) ∧ w.cell? ⟨rb, 1, none⟩ = some (.slice (some ⟨r1, 0, none⟩) 1 1) ∧ (w.cell? ⟨r0, 0, none⟩ = some (.int .u8 1) ∧ w.cell? ⟨r0, 1, none⟩ = some (.int .i64 3) ∧ w.cell? ⟨r0, 2, none⟩ = some (.string ⟨#[]⟩)) ∧ (w.cell? ⟨r1, 0, none⟩ = some (.int .u8 1) ∧ w.cell? ⟨r1, 1, none⟩ = some (.int .i64 4) ∧ w.cell? ⟨r1, 2, none⟩ = some (.string ⟨#[]⟩)) ∧ Cells8 w kb 0 (colX 0) ∧ rb < B ∧ r0 < B ∧ r1 < B ∧ kb < B
theorem lo_below {w W : World} {rb r0 r1 kb B : Nat} (h : Lo w rb r0 r1 kb B) (hb : Below B w W) : Lo W rb r0 r1 kb B :=
  ⟨(hb.cell (p := ⟨rb, 0, none⟩) h.2.2.2.2.2.1).trans h.1, (hb.cell (p := ⟨rb, 1, none⟩) h.2.2.2.2.2.1).trans h.2.1,
   ⟨(hb.cell (p := ⟨r0, 0, none⟩) h.2.2.2.2.2.2.1).trans h.2.2.1.1, (hb.cell (p := ⟨r0, 1, none⟩) h.2.2.2.2.2.2.1).trans h.2.2.1.2.1, (hb.cell (p := ⟨r0, 2, none⟩) h.2.2.2.2.2.2.1).trans h.2.2.1.2.2⟩,
   ⟨(hb.cell (p := ⟨r1, 0, none⟩) h.2.2.2.2.2.2.2.1).trans h.2.2.2.1.1, (hb.cell (p := ⟨r1, 1, none⟩) h.2.2.2.2.2.2.2.1).trans h.2.2.2.1.2.1, (hb.cell (p := ⟨r1, 2, none⟩) h.2.2.2.2.2.2.2.1).trans h.2.2.2.1.2.2⟩,
   cells8_below h.2.2.2.2.1 hb h.2.2.2.2.2.2.2.2, h.2.2.2.2.2⟩
theorem come_col1 (r : Nat) (n : Int) (g : Nat) (W : World) (h1 : Blk W g 42 #[.slice (some ⟨r, 0, none⟩) 1 1]) (x0 : W.cell? ⟨r, 0, none⟩ = some (.int .u8 1)) (x1 : W.cell? ⟨r, 1, none⟩ = some (.int .i64 n)) (x2 : W.cell? ⟨r, 2, none⟩ = some (.string ⟨#[]⟩)) :
    Calls Try.prog 34 #[.agg #[.func (.func 43) #[] #[.pointer (some ⟨g, 0, none⟩)], .slice none 0 0], .agg #[.int .u8 2, .int .u8 0, .int .i64 0, .string ⟨#[]⟩, .string ⟨#[]⟩, .string ⟨#[]⟩, .int .i64 0, .slice none 0 0]] W fun e w' => e = .returned (.tuple #[.agg #[.int .u8 1, .int .i64 n, .string ⟨#[]⟩], .int .i64 0]) ∧ Below W.heap.size W w' :=
  come_col r 0 1 1 1 n ⟨#[]⟩ g W h1 x0 (by rw [Nat.zero_add]; exact x1) (by rw [Nat.zero_add]; exact x2) (by omega) (by omega)
/-- group's boxes and answer -/
def Gp (w : World) (kf : FuncId) (p : Addr) (rb rc : Nat) (kb kc : Nat) (W : World) : Prop := Blk W w.heap.size 62 #[.func (.func kf) #[] #[.pointer (some p)], .slice (some ⟨rb, 0, none⟩) 2 rc] ∧ Blk W (w.heap.size + 1) 29 (exC (nodeX 21 (some ⟨kb, 0, none⟩) 1 kc)) ∧ Blk W (w.heap.size + 1 + 1) 23 #[.int .u8 0, .int .i64 0, .string ⟨#[]⟩] ∧ Below w.heap.size w W
theorem gp_below {w W W' : World} {kf : FuncId} {p : Addr} {rb rc kb kc : Nat} (h : Gp w kf p rb rc kb kc W) (hb : Below W.heap.size W W') : Gp w kf p rb rc kb kc W' := ⟨blk_step h.1 hb, blk_step h.2.1 hb, blk_step h.2.2.1 hb, bj h.2.2.2 hb⟩
theorem gp_drew {w W : World} {kf : FuncId} {p : Addr} {rb rc kb kc : Nat} (h : Gp w kf p rb rc kb kc W) : Gp w kf p rb rc kb kc W.drew := ⟨h.1.drew, h.2.1.drew, h.2.2.1.drew, h.2.2.2.drew⟩
theorem gp_grown {w W W' : World} {kf : FuncId} {p : Addr} {rb rc kb kc : Nat} (h : Gp w kf p rb rc kb kc W) {row : Option Nat} (hg : W.grownBy W' row) (hr : ∀ z, row = some z → w.heap.size + 1 + 1 + 1 ≤ z) : Gp w kf p rb rc kb kc W' :=
  ⟨h.1.grown hg (fun e => by have := hr _ e.symm; omega), h.2.1.grown hg (fun e => by have := hr _ e.symm; omega), h.2.2.1.grown hg (fun e => by have := hr _ e.symm; omega), h.2.2.2.grown hg h.2.2.2.size (fun z hz => by have := hr z hz; omega)⟩
theorem gp_set3 {w W : World} {kf : FuncId} {p : Addr} {rb rc kb kc g : Nat} (h : Gp w kf p rb rc kb kc W) (hg : w.heap.size + 1 + 1 < g) (x y z : Value) : Gp w kf p rb rc kb kc (((W.setCell ⟨g, 0, none⟩ x).setCell ⟨g, 1, none⟩ y).setCell ⟨g, 2, none⟩ z) :=
  ⟨((h.1.far (by simp; omega) _).far (by simp; omega) _).far (by simp; omega) _, ((h.2.1.far (by simp; omega) _).far (by simp; omega) _).far (by simp; omega) _, ((h.2.2.1.far (by simp; omega) _).far (by simp; omega) _).far (by simp; omega) _, below3_at h.2.2.2 (by omega) _ _ _⟩
theorem gp_S {w W : World} {kf : FuncId} {p : Addr} {rb rc kb kc : Nat} {r0 r1 : Nat} (h : Gp w kf p rb rc kb kc W) (hl : Lo w rb r0 r1 kb w.heap.size) : W.cell? ⟨w.heap.size + 1, 7, none⟩ = some (.slice (some ⟨kb, 0, none⟩) 1 kc) ∧ W.cell? ⟨kb, 0, none⟩ = some (.int .u8 2) ∧ W.cell? ⟨kb, 1, none⟩ = some (.int .u8 0) ∧ W.cell? ⟨kb, 2, none⟩ = some (.int .i64 0) ∧ W.cell? ⟨kb, 3, none⟩ = some (.string ⟨#[]⟩) ∧ W.cell? ⟨kb, 4, none⟩ = some (.string ⟨#[]⟩) ∧ W.cell? ⟨kb, 5, none⟩ = some (.string ⟨#[]⟩) ∧ W.cell? ⟨kb, 6, none⟩ = some (.int .i64 0) ∧ W.cell? ⟨kb, 7, none⟩ = some (.slice none 0 0) := by
  obtain ⟨_, _, _, _, ⟨c0, c1, c2, c3, c4, c5, c6, c7⟩, _⟩ := lo_below hl h.2.2.2
  exact ⟨h.2.1.cell 7, c0, c1, c2, c3, c4, c5, c6, c7⟩
theorem gp_S3 {w W : World} {kf : FuncId} {p : Addr} {rb rc kb kc : Nat} {r0 r1 g : Nat} (h : Gp w kf p rb rc kb kc W) (hl : Lo w rb r0 r1 kb w.heap.size) (hg : w.heap.size + 1 + 1 < g) (x y z : Value) : (((W.setCell ⟨g, 0, none⟩ x).setCell ⟨g, 1, none⟩ y).setCell ⟨g, 2, none⟩ z).cell? ⟨w.heap.size + 1, 7, none⟩ = some (.slice (some ⟨kb, 0, none⟩) 1 kc) ∧ (((W.setCell ⟨g, 0, none⟩ x).setCell ⟨g, 1, none⟩ y).setCell ⟨g, 2, none⟩ z).cell? ⟨kb, 0, none⟩ = some (.int .u8 2) ∧ (((W.setCell ⟨g, 0, none⟩ x).setCell ⟨g, 1, none⟩ y).setCell ⟨g, 2, none⟩ z).cell? ⟨kb, 1, none⟩ = some (.int .u8 0) ∧ (((W.setCell ⟨g, 0, none⟩ x).setCell ⟨g, 1, none⟩ y).setCell ⟨g, 2, none⟩ z).cell? ⟨kb, 2, none⟩ = some (.int .i64 0) ∧ (((W.setCell ⟨g, 0, none⟩ x).setCell ⟨g, 1, none⟩ y).setCell ⟨g, 2, none⟩ z).cell? ⟨kb, 3, none⟩ = some (.string ⟨#[]⟩) ∧ (((W.setCell ⟨g, 0, none⟩ x).setCell ⟨g, 1, none⟩ y).setCell ⟨g, 2, none⟩ z).cell? ⟨kb, 4, none⟩ = some (.string ⟨#[]⟩) ∧ (((W.setCell ⟨g, 0, none⟩ x).setCell ⟨g, 1, none⟩ y).setCell ⟨g, 2, none⟩ z).cell? ⟨kb, 5, none⟩ = some (.string ⟨#[]⟩) ∧ (((W.setCell ⟨g, 0, none⟩ x).setCell ⟨g, 1, none⟩ y).setCell ⟨g, 2, none⟩ z).cell? ⟨kb, 6, none⟩ = some (.int .i64 0) ∧ (((W.setCell ⟨g, 0, none⟩ x).setCell ⟨g, 1, none⟩ y).setCell ⟨g, 2, none⟩ z).cell? ⟨kb, 7, none⟩ = some (.slice none 0 0) := gp_S (gp_set3 h hg x y z) hl
theorem gp_Sd {w W : World} {kf : FuncId} {p : Addr} {rb rc kb kc : Nat} {r0 r1 : Nat} (h : Gp w kf p rb rc kb kc W) (hl : Lo w rb r0 r1 kb w.heap.size) (q : Obj) : ((W.alloc q).drew).cell? ⟨w.heap.size + 1, 7, none⟩ = some (.slice (some ⟨kb, 0, none⟩) 1 kc) ∧ ((W.alloc q).drew).cell? ⟨kb, 0, none⟩ = some (.int .u8 2) ∧ ((W.alloc q).drew).cell? ⟨kb, 1, none⟩ = some (.int .u8 0) ∧ ((W.alloc q).drew).cell? ⟨kb, 2, none⟩ = some (.int .i64 0) ∧ ((W.alloc q).drew).cell? ⟨kb, 3, none⟩ = some (.string ⟨#[]⟩) ∧ ((W.alloc q).drew).cell? ⟨kb, 4, none⟩ = some (.string ⟨#[]⟩) ∧ ((W.alloc q).drew).cell? ⟨kb, 5, none⟩ = some (.string ⟨#[]⟩) ∧ ((W.alloc q).drew).cell? ⟨kb, 6, none⟩ = some (.int .i64 0) ∧ ((W.alloc q).drew).cell? ⟨kb, 7, none⟩ = some (.slice none 0 0) := gp_S (gp_drew (gp_below h one_alloc)) hl
theorem gp_Sa {w W : World} {kf : FuncId} {p : Addr} {rb rc kb kc : Nat} {r0 r1 : Nat} (h : Gp w kf p rb rc kb kc W) (hl : Lo w rb r0 r1 kb w.heap.size) (q : Obj) : (W.alloc q).cell? ⟨w.heap.size + 1, 7, none⟩ = some (.slice (some ⟨kb, 0, none⟩) 1 kc) ∧ (W.alloc q).cell? ⟨kb, 0, none⟩ = some (.int .u8 2) ∧ (W.alloc q).cell? ⟨kb, 1, none⟩ = some (.int .u8 0) ∧ (W.alloc q).cell? ⟨kb, 2, none⟩ = some (.int .i64 0) ∧ (W.alloc q).cell? ⟨kb, 3, none⟩ = some (.string ⟨#[]⟩) ∧ (W.alloc q).cell? ⟨kb, 4, none⟩ = some (.string ⟨#[]⟩) ∧ (W.alloc q).cell? ⟨kb, 5, none⟩ = some (.string ⟨#[]⟩) ∧ (W.alloc q).cell? ⟨kb, 6, none⟩ = some (.int .i64 0) ∧ (W.alloc q).cell? ⟨kb, 7, none⟩ = some (.slice none 0 0) := gp_S (gp_below h one_alloc) hl
set_option maxRecDepth 100000 in
set_option maxHeartbeats 8000000 in
theorem group_works (kf : FuncId) (p : Addr) (rb rc kb kc r0 r1 : Nat) (w : World) (hl : Lo w rb r0 r1 kb w.heap.size) :
    Calls Try.prog 44 #[scV kf p (some ⟨rb, 0, none⟩) 2 rc, exV (nodeX 21 (some ⟨kb, 0, none⟩) 1 kc)] w fun e w' => e = .returned (.tuple #[.agg #[.int .u8 1, .int .i64 7, .string ⟨#[]⟩], .int .i64 0]) ∧ Below w.heap.size w w' := by
  obtain ⟨iv, hv1, hv2, hv3, hv4⟩ := info_parts (show (Try.prog.info? 23).map (fun i => (i.zero, i.size, i.bytes)) = some (some (.agg #[.int .u8 0, .int .i64 0, .string ⟨#[]⟩]), 3, 32) by kernel_rfl)
  have HL := Lib.hid hl
  have HS : Hid (Gp w kf p rb rc kb kc (((w.alloc (.cells #[.func (.func kf) #[] #[.pointer (some p)], .slice (some ⟨rb, 0, none⟩) 2 rc] 62)).alloc (.cells (exC (nodeX 21 (some ⟨kb, 0, none⟩) 1 kc)) 29)).alloc (.cells #[.int .u8 0, .int .i64 0, .string ⟨#[]⟩] 23))) := Lib.hid ⟨((Blk.new _ _ _).alloc _).alloc _, (blk_new _ _ _ _ (by simp)).alloc _, blk_new _ _ _ _ (by simp), bj3⟩
  clear hl
  go_enter Try.func44, Try.ntmps44
  go_wp2
  go_loopw [6, 22] (fun v i wr => (i = .int .i64 0 ∧ v = .slice none 0 0 ∧ Gp w kf p rb rc kb kc wr) ∨ (i = .int .i64 1 ∧ ∃ A c, v = .slice A 1 c ∧ wr.ownsRow (w.heap.size + 1 + 1 + 1) 23 3 (.slice A 1 c) 1 (valCs [(1, 3, ⟨#[]⟩)]) ∧ Gp w kf p rb rc kb kc wr) ∨ (i = .int .i64 2 ∧ ∃ A c, v = .slice A 2 c ∧ wr.ownsRow (w.heap.size + 1 + 1 + 1) 23 3 (.slice A 2 c) 2 (valCs [(1, 3, ⟨#[]⟩), (1, 4, ⟨#[]⟩)]) ∧ Gp w kf p rb rc kb kc wr)) (fun _ i _ => 2 - (intOf i).toNat)
  case atStart => exact .inl ⟨rfl, rfl, HS.out⟩
  case round =>
    rcases hrel with ⟨rfl, rfl, hy⟩ | ⟨rfl, A, c, rfl, how, hy⟩ | ⟨rfl, A, c, rfl, how, hy⟩
    · obtain ⟨l0, l1, ⟨x0, x1, x2⟩, ⟨x3, x4, x5⟩, _, _, q0, q1, _⟩ := lo_below HL.out hy.2.2.2
      obtain ⟨g0, g1⟩ := pair_at hy.1
      have g7 := (gp_S hy HL.out).1
      have HX := Lib.hid (And.intro x0 (And.intro x1 x2))
      have HRL := Lib.hid q0
      have HY := Lib.hid hy
      clear hy x0 x1 x2 x3 x4 x5
      go_upto_region 7 with fail
      go_cut [9, 10] (fun s9 s10 wx => ∃ g, s9 = .pointer (some ⟨g, 0, none⟩) ∧ s10 = .int .i64 0 ∧ Blk wx g 23 #[.int .u8 1, .int .i64 3, .string ⟨#[]⟩] ∧ Gp w kf p rb rc kb kc wx ∧ Below wr.heap.size wr wx)
      case first =>
        have HOF : Hid (∀ W, (Gp w kf p rb rc kb kc W ∧ Below wr.heap.size wr W) → Calls Try.prog 33 #[.slice (some ⟨r0, 0, none⟩) 1 1] W fun e w' => ∃ g, e = .returned (.agg #[.func (.func 43) #[] #[.pointer (some ⟨g, 0, none⟩)], .slice none 0 0]) ∧ Blk w' g 42 #[.slice (some ⟨r0, 0, none⟩) 1 1] ∧ (Gp w kf p rb rc kb kc w' ∧ Below wr.heap.size wr w') ∧ Below W.heap.size W w') := Lib.hid fun W h => (scof_any _ 1 1 W).mono fun e w' he => by
          obtain ⟨g, h1, h2, h3⟩ := he
          exact ⟨g, h1, h2, ⟨gp_below h.1 h3, bj h.2 h3⟩, h3⟩
        have HCM : Hid (∀ g W, Blk W g 42 #[.slice (some ⟨r0, 0, none⟩) 1 1] → (Gp w kf p rb rc kb kc W ∧ Below wr.heap.size wr W) → Calls Try.prog 34 #[.agg #[.func (.func 43) #[] #[.pointer (some ⟨g, 0, none⟩)], .slice none 0 0], .agg #[.int .u8 2, .int .u8 0, .int .i64 0, .string ⟨#[]⟩, .string ⟨#[]⟩, .string ⟨#[]⟩, .int .i64 0, .slice none 0 0]] W fun e w' => e = .returned (.tuple #[.agg #[.int .u8 1, .int .i64 3, .string ⟨#[]⟩], .int .i64 0]) ∧ (Gp w kf p rb rc kb kc w' ∧ Below wr.heap.size wr w') ∧ Below W.heap.size W w') := Lib.hid fun g W h1 h => by
          have hb := h.2
          have hlt : r0 < wr.heap.size := Nat.lt_of_lt_of_le HRL.out HY.out.2.2.2.size
          have x0 := (hb.cell (p := ⟨r0, 0, none⟩) hlt).trans HX.out.1
          have x1 := (hb.cell (p := ⟨r0, 1, none⟩) hlt).trans HX.out.2.1
          have x2 := (hb.cell (p := ⟨r0, 2, none⟩) hlt).trans HX.out.2.2
          have hc := come_col1 r0 3 g W h1 x0 x1 x2
          refine hc.mono fun e w' he => ?_
          exact ⟨he.1, ⟨gp_below h.1 he.2, bj h.2 he.2⟩, he.2⟩
        have hlt9 : Hid (w.heap.size + 1 + 1 < wr.heap.size) := Lib.hid HY.out.2.2.1.lt
        have hle9 : Hid (wr.heap.size ≤ wr.heap.size) := Lib.hid (Nat.le_refl _)
        have hs : Gp w kf p rb rc kb kc wr.drew ∧ Below wr.heap.size wr wr.drew := ⟨gp_drew HY.out, (Below.refl _ _).drew⟩
        go_wp2_with fail
        go_region_held3 (fun W => W.cell? ⟨w.heap.size + 1, 7, none⟩ = some (.slice (some ⟨kb, 0, none⟩) 1 kc) ∧ W.cell? ⟨kb, 0, none⟩ = some (.int .u8 2) ∧ W.cell? ⟨kb, 1, none⟩ = some (.int .u8 0) ∧ W.cell? ⟨kb, 2, none⟩ = some (.int .i64 0) ∧ W.cell? ⟨kb, 3, none⟩ = some (.string ⟨#[]⟩) ∧ W.cell? ⟨kb, 4, none⟩ = some (.string ⟨#[]⟩) ∧ W.cell? ⟨kb, 5, none⟩ = some (.string ⟨#[]⟩) ∧ W.cell? ⟨kb, 6, none⟩ = some (.int .i64 0) ∧ W.cell? ⟨kb, 7, none⟩ = some (.slice none 0 0))
          (first | (with_reducible exact gp_S3 hs.1 HL.out hlt9.out _ _ _) | (with_reducible exact gp_Sd HY.out HL.out _) | (with_reducible exact gp_Sa hs.1 HL.out _) | (with_reducible exact gp_S hs.1 HL.out))
          (first
            | (go_at_call 33; (first
                | ((with_reducible refine (HOF.out _ hs).mono ?_); rintro e w6 ⟨gg, rfl, hgg, hs, hbb⟩)
                | ((with_reducible refine (HOF.out _ ⟨gp_drew (gp_below HY.out one_alloc), (one_alloc (w := wr) (o := .cells #[.int .u8 0, .int .i64 0, .string ⟨#[]⟩] 23)).drew⟩).mono ?_); rintro e w6 ⟨gg, rfl, hgg, hs, hbb⟩; (have hz : Blk w6 wr.heap.size 23 #[.int .u8 0, .int .i64 0, .string ⟨#[]⟩] := blk_at' hbb); obtain ⟨y0, y1, y2, f0, f1, f2⟩ := cell3 hz)))
            | (go_at_call 34; (first
                | ((with_reducible refine (HCM.out _ _ hgg hs).mono ?_); rintro e w7 ⟨rfl, hs, hbb2⟩; (try (replace hz := blk_step hz hbb2; obtain ⟨y0, y1, y2, f0, f1, f2⟩ := cell3 hz)))
                | ((have hlt9 : Hid (w.heap.size + 1 + 1 < w6.heap.size) := Lib.hid hs.1.2.2.1.lt); (have hle9 : Hid (wr.heap.size ≤ w6.heap.size) := Lib.hid hs.2.size); (with_reducible refine (HCM.out _ _ (hgg.alloc _) ⟨gp_below hs.1 one_alloc, bj hs.2 one_alloc⟩).mono ?_); rintro e w7 ⟨rfl, hs, hbb2⟩; (have hz : Blk w7 w6.heap.size 23 #[.int .u8 0, .int .i64 0, .string ⟨#[]⟩] := blk_at hbb2); obtain ⟨y0, y1, y2, f0, f1, f2⟩ := cell3 hz))))
        all_goals
          go_wp2_with fail
          go_meet
          first
            | (with_reducible exact ⟨_, rfl, rfl, Blk.new _ _ _, gp_below hs.1 one_alloc, bj hs.2 one_alloc⟩)
            | (with_reducible exact ⟨_, rfl, rfl, (Blk.new _ _ _).drew, gp_drew (gp_below hs.1 one_alloc), (bj hs.2 one_alloc).drew⟩)
            | (with_reducible exact ⟨_, rfl, rfl, blk3_set hz _ _ _, gp_set3 hs.1 hlt9.out _ _ _, ((hs.2.setCell hle9.out _).setCell hle9.out _).setCell hle9.out _⟩)
      case rest =>
        obtain ⟨g, rfl, rfl, hv, hg, hbw⟩ := hcut
        have HN := Lib.hid (null_any (some ⟨wc.heap.size, 0, none⟩) [(1, 3, ⟨#[]⟩)] 1 1 (wc.alloc (.cells (valC (1, 3, ⟨#[]⟩)) 23)) (vals_of1 (Blk.new _ _ _)) rfl (by omega))
        obtain ⟨v0, v1, v2, _, _, _⟩ := cell3 hv
        have HV := Lib.hid hv
        have HG := Lib.hid hg
        have HBW := Lib.hid hbw
        clear hv hg hbw HY HX
        go_wp2_with fail
        refine (HN.out).mono ?_
        rintro e w5 ⟨rfl, hb5⟩
        rw [show ([(1, 3, ⟨#[]⟩)] : List Val).any nullV = false from rfl]
        have hba := bj one_alloc hb5
        have hv5 := blk_step HV.out hba
        obtain ⟨v0, v1, v2, _, _, _⟩ := cell3 hv5
        have HG5 := Lib.hid (gp_below HG.out hba)
        have hbb := bj HBW.out hba
        have HO : Hid (w5.ownsRow (w.heap.size + 1 + 1 + 1) 23 3 (.slice none 0 0) 0 (valCs [])) := Lib.hid (World.ownsRow_nil _ _ _ _)
        have hrd := reads3g w5 w5.heap.size (1, 3, ⟨#[]⟩) 23 rfl
        have HO2 := Lib.hid (own_below HO.out (one_alloc (w := w5) (o := .cells (valC (1, 3, ⟨#[]⟩)) 23)))
        have HG6 := Lib.hid (gp_below HG5.out (one_alloc (w := w5) (o := .cells (valC (1, 3, ⟨#[]⟩)) 23)))
        have HBS : Hid (w.heap.size + 1 + 1 + 1 ≤ (w5.alloc (.cells (valC (1, 3, ⟨#[]⟩)) 23)).heap.size) := Lib.hid (by have := HG6.out.2.2.1.lt; omega)
        clear hb5 hba hv5 hbb
        go_wp2_with (at_builtin; refine wpList_append_any _ rfl (.tmp 44) (.tmp 46) 42 rfl (w.heap.size + 1 + 1 + 1) 23 iv _ 3 32 Try.underlying42 hv1 hv2 hv3 hv4 rfl (by omega) _ 0 (valCs []) rfl HO2.out (w5.heap.size + 1) (some ⟨w5.heap.size, 0, none⟩) 1 1 [Value.int .u8 1, .int .i64 3, .string ⟨#[]⟩] rfl hrd (by intro u hu; simp at hu; rcases hu with rfl | rfl | rfl <;> rfl) (by simp only [maxLen]; omega) (by omega) HBS.out ?_; intro z1 w8 hown1 hg1 hat1; obtain ⟨A1, c1, rfl⟩ := own_form hown1; (have HG8 := Lib.hid (gp_grown HG6.out hg1 (fun z hz => (HO2.out.lt z hz).1))); (have HO8 := Lib.hid hown1); clear hown1 hg1 hat1 hrd)
        go_wp2
        go_roundw
        case rel => exact .inr (.inl ⟨by first | rfl | go_num, A1, c1, rfl, HO8.out, HG8.out⟩)
        case measure => simp [intOf]
    · have HOW := Lib.hid how
      clear how
      obtain ⟨l0, l1, ⟨x0, x1, x2⟩, ⟨x3, x4, x5⟩, _, _, q0, q1, _⟩ := lo_below HL.out hy.2.2.2
      obtain ⟨g0, g1⟩ := pair_at hy.1
      have g7 := (gp_S hy HL.out).1
      have HX := Lib.hid (And.intro x3 (And.intro x4 x5))
      have HRL := Lib.hid q1
      have HY := Lib.hid hy
      clear hy x0 x1 x2 x3 x4 x5
      go_upto_region 7 with fail
      go_cut [9, 10] (fun s9 s10 wx => ∃ g, s9 = .pointer (some ⟨g, 0, none⟩) ∧ s10 = .int .i64 0 ∧ Blk wx g 23 #[.int .u8 1, .int .i64 4, .string ⟨#[]⟩] ∧ Gp w kf p rb rc kb kc wx ∧ Below wr.heap.size wr wx)
      case first =>
        have HOF : Hid (∀ W, (Gp w kf p rb rc kb kc W ∧ Below wr.heap.size wr W) → Calls Try.prog 33 #[.slice (some ⟨r1, 0, none⟩) 1 1] W fun e w' => ∃ g, e = .returned (.agg #[.func (.func 43) #[] #[.pointer (some ⟨g, 0, none⟩)], .slice none 0 0]) ∧ Blk w' g 42 #[.slice (some ⟨r1, 0, none⟩) 1 1] ∧ (Gp w kf p rb rc kb kc w' ∧ Below wr.heap.size wr w') ∧ Below W.heap.size W w') := Lib.hid fun W h => (scof_any _ 1 1 W).mono fun e w' he => by
          obtain ⟨g, h1, h2, h3⟩ := he
          exact ⟨g, h1, h2, ⟨gp_below h.1 h3, bj h.2 h3⟩, h3⟩
        have HCM : Hid (∀ g W, Blk W g 42 #[.slice (some ⟨r1, 0, none⟩) 1 1] → (Gp w kf p rb rc kb kc W ∧ Below wr.heap.size wr W) → Calls Try.prog 34 #[.agg #[.func (.func 43) #[] #[.pointer (some ⟨g, 0, none⟩)], .slice none 0 0], .agg #[.int .u8 2, .int .u8 0, .int .i64 0, .string ⟨#[]⟩, .string ⟨#[]⟩, .string ⟨#[]⟩, .int .i64 0, .slice none 0 0]] W fun e w' => e = .returned (.tuple #[.agg #[.int .u8 1, .int .i64 4, .string ⟨#[]⟩], .int .i64 0]) ∧ (Gp w kf p rb rc kb kc w' ∧ Below wr.heap.size wr w') ∧ Below W.heap.size W w') := Lib.hid fun g W h1 h => by
          have hb := h.2
          have hlt : r1 < wr.heap.size := Nat.lt_of_lt_of_le HRL.out HY.out.2.2.2.size
          have x0 := (hb.cell (p := ⟨r1, 0, none⟩) hlt).trans HX.out.1
          have x1 := (hb.cell (p := ⟨r1, 1, none⟩) hlt).trans HX.out.2.1
          have x2 := (hb.cell (p := ⟨r1, 2, none⟩) hlt).trans HX.out.2.2
          have hc := come_col1 r1 4 g W h1 x0 x1 x2
          refine hc.mono fun e w' he => ?_
          exact ⟨he.1, ⟨gp_below h.1 he.2, bj h.2 he.2⟩, he.2⟩
        have hlt9 : Hid (w.heap.size + 1 + 1 < wr.heap.size) := Lib.hid HY.out.2.2.1.lt
        have hle9 : Hid (wr.heap.size ≤ wr.heap.size) := Lib.hid (Nat.le_refl _)
        have hs : Gp w kf p rb rc kb kc wr.drew ∧ Below wr.heap.size wr wr.drew := ⟨gp_drew HY.out, (Below.refl _ _).drew⟩
        go_wp2_with fail
        go_region_held3 (fun W => W.cell? ⟨w.heap.size + 1, 7, none⟩ = some (.slice (some ⟨kb, 0, none⟩) 1 kc) ∧ W.cell? ⟨kb, 0, none⟩ = some (.int .u8 2) ∧ W.cell? ⟨kb, 1, none⟩ = some (.int .u8 0) ∧ W.cell? ⟨kb, 2, none⟩ = some (.int .i64 0) ∧ W.cell? ⟨kb, 3, none⟩ = some (.string ⟨#[]⟩) ∧ W.cell? ⟨kb, 4, none⟩ = some (.string ⟨#[]⟩) ∧ W.cell? ⟨kb, 5, none⟩ = some (.string ⟨#[]⟩) ∧ W.cell? ⟨kb, 6, none⟩ = some (.int .i64 0) ∧ W.cell? ⟨kb, 7, none⟩ = some (.slice none 0 0))
          (first | (with_reducible exact gp_S3 hs.1 HL.out hlt9.out _ _ _) | (with_reducible exact gp_Sd HY.out HL.out _) | (with_reducible exact gp_Sa hs.1 HL.out _) | (with_reducible exact gp_S hs.1 HL.out))
          (first
            | (go_at_call 33; (first
                | ((with_reducible refine (HOF.out _ hs).mono ?_); rintro e w6 ⟨gg, rfl, hgg, hs, hbb⟩)
                | ((with_reducible refine (HOF.out _ ⟨gp_drew (gp_below HY.out one_alloc), (one_alloc (w := wr) (o := .cells #[.int .u8 0, .int .i64 0, .string ⟨#[]⟩] 23)).drew⟩).mono ?_); rintro e w6 ⟨gg, rfl, hgg, hs, hbb⟩; (have hz : Blk w6 wr.heap.size 23 #[.int .u8 0, .int .i64 0, .string ⟨#[]⟩] := blk_at' hbb); obtain ⟨y0, y1, y2, f0, f1, f2⟩ := cell3 hz)))
            | (go_at_call 34; (first
                | ((with_reducible refine (HCM.out _ _ hgg hs).mono ?_); rintro e w7 ⟨rfl, hs, hbb2⟩; (try (replace hz := blk_step hz hbb2; obtain ⟨y0, y1, y2, f0, f1, f2⟩ := cell3 hz)))
                | ((have hlt9 : Hid (w.heap.size + 1 + 1 < w6.heap.size) := Lib.hid hs.1.2.2.1.lt); (have hle9 : Hid (wr.heap.size ≤ w6.heap.size) := Lib.hid hs.2.size); (with_reducible refine (HCM.out _ _ (hgg.alloc _) ⟨gp_below hs.1 one_alloc, bj hs.2 one_alloc⟩).mono ?_); rintro e w7 ⟨rfl, hs, hbb2⟩; (have hz : Blk w7 w6.heap.size 23 #[.int .u8 0, .int .i64 0, .string ⟨#[]⟩] := blk_at hbb2); obtain ⟨y0, y1, y2, f0, f1, f2⟩ := cell3 hz))))
        all_goals
          go_wp2_with fail
          go_meet
          first
            | (with_reducible exact ⟨_, rfl, rfl, Blk.new _ _ _, gp_below hs.1 one_alloc, bj hs.2 one_alloc⟩)
            | (with_reducible exact ⟨_, rfl, rfl, (Blk.new _ _ _).drew, gp_drew (gp_below hs.1 one_alloc), (bj hs.2 one_alloc).drew⟩)
            | (with_reducible exact ⟨_, rfl, rfl, blk3_set hz _ _ _, gp_set3 hs.1 hlt9.out _ _ _, ((hs.2.setCell hle9.out _).setCell hle9.out _).setCell hle9.out _⟩)
      case rest =>
        obtain ⟨g, rfl, rfl, hv, hg, hbw⟩ := hcut
        have HN := Lib.hid (null_any (some ⟨wc.heap.size, 0, none⟩) [(1, 4, ⟨#[]⟩)] 1 1 (wc.alloc (.cells (valC (1, 4, ⟨#[]⟩)) 23)) (vals_of1 (Blk.new _ _ _)) rfl (by omega))
        obtain ⟨v0, v1, v2, _, _, _⟩ := cell3 hv
        have HV := Lib.hid hv
        have HG := Lib.hid hg
        have HBW := Lib.hid hbw
        clear hv hg hbw HY HX
        go_wp2_with fail
        refine (HN.out).mono ?_
        rintro e w5 ⟨rfl, hb5⟩
        rw [show ([(1, 4, ⟨#[]⟩)] : List Val).any nullV = false from rfl]
        have hba := bj one_alloc hb5
        have hv5 := blk_step HV.out hba
        obtain ⟨v0, v1, v2, _, _, _⟩ := cell3 hv5
        have HG5 := Lib.hid (gp_below HG.out hba)
        have hbb := bj HBW.out hba
        have HO : Hid (w5.ownsRow (w.heap.size + 1 + 1 + 1) 23 3 (.slice A 1 c) 1 (valCs [(1, 3, ⟨#[]⟩)])) := Lib.hid (own_below HOW.out hbb)
        have hrd := reads3g w5 w5.heap.size (1, 4, ⟨#[]⟩) 23 rfl
        have HO2 := Lib.hid (own_below HO.out (one_alloc (w := w5) (o := .cells (valC (1, 4, ⟨#[]⟩)) 23)))
        have HG6 := Lib.hid (gp_below HG5.out (one_alloc (w := w5) (o := .cells (valC (1, 4, ⟨#[]⟩)) 23)))
        have HBS : Hid (w.heap.size + 1 + 1 + 1 ≤ (w5.alloc (.cells (valC (1, 4, ⟨#[]⟩)) 23)).heap.size) := Lib.hid (by have := HG6.out.2.2.1.lt; omega)
        clear hb5 hba hv5 hbb
        go_wp2_with (at_builtin; refine wpList_append_any _ rfl (.tmp 44) (.tmp 46) 42 rfl (w.heap.size + 1 + 1 + 1) 23 iv _ 3 32 Try.underlying42 hv1 hv2 hv3 hv4 rfl (by omega) _ 1 (valCs [(1, 3, ⟨#[]⟩)]) rfl HO2.out (w5.heap.size + 1) (some ⟨w5.heap.size, 0, none⟩) 1 1 [Value.int .u8 1, .int .i64 4, .string ⟨#[]⟩] rfl hrd (by intro u hu; simp at hu; rcases hu with rfl | rfl | rfl <;> rfl) (by simp only [maxLen]; omega) (by omega) HBS.out ?_; intro z1 w8 hown1 hg1 hat1; obtain ⟨A1, c1, rfl⟩ := own_form hown1; (have HG8 := Lib.hid (gp_grown HG6.out hg1 (fun z hz => (HO2.out.lt z hz).1))); (have HO8 := Lib.hid hown1); clear hown1 hg1 hat1 hrd)
        go_wp2
        go_roundw
        case rel => exact .inr (.inr ⟨by first | rfl | go_num, A1, c1, rfl, HO8.out, HG8.out⟩)
        case measure => simp [intOf]
    · have hvals := vals_of_own how rfl
      obtain ⟨bb, oo, rfl, hlt, hvc⟩ := vals_get hvals (by simp)
      have HT := Lib.hid (total_works bb oo c wr (.inr ⟨bb, oo, rfl, hlt, hvc⟩))
      have c0 := hy.2.1.cell 0
      have HY := Lib.hid hy
      clear how hy hvals hlt hvc
      go_wp2_with fail
      refine (HT.out).mono ?_
      rintro e w5 ⟨rfl, hb5⟩
      have hg := gp_below HY.out hb5
      obtain ⟨y0, y1, y2, f0, f1, f2⟩ := cell3 hg.2.2.1
      clear hb5
      go_wp2
      obtain ⟨e0, e1, e2, _, _, _⟩ := cell3 (blk3_set hg.2.2.1 (.int .u8 1) (.int .i64 7) (.string ⟨#[]⟩))
      exact bodyPost_ret (v := .tuple #[.agg #[.int .u8 1, .int .i64 7, .string ⟨#[]⟩], .int .i64 0]) (by simp [results, Try.results44, go_sem, e0, e1, e2]) rfl ⟨rfl, below3_at hg.2.2.2 (by omega) _ _ _⟩
end Go.Proofs.Ytkgpcodccpckeaa
