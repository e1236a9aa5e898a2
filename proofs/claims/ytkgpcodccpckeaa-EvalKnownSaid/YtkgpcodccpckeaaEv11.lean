/- What a sum comes to, eval.Fold, at the laws' own example. Conditions: where the rows stand. -/
import Derived.Test.YtkgpcodccpckeaaEv10
namespace Go.Proofs.Ytkgpcodccpckeaa
open Go.RowKit
set_option linter.unusedVariables false
set_option linter.unusedSimpArgs false
theorem lo_step {w W : World} {rb r0 r1 kb : Nat} (h : Lo w rb r0 r1 kb w.heap.size) (hb : Below w.heap.size w W) : Lo W rb r0 r1 kb W.heap.size := by
  obtain ⟨a, b, c, d, e, f1, f2, f3, f4⟩ := lo_below h hb
  have hs := hb.size
  exact ⟨a, b, c, d, e, by omega, by omega, by omega, by omega⟩
set_option maxRecDepth 100000 in
set_option maxHeartbeats 4000000 in
theorem come_sum (kf : FuncId) (p : Addr) (rb rc kb kc r0 r1 : Nat) (w : World) (hl : Lo w rb r0 r1 kb w.heap.size) :
    Calls Try.prog 34 #[scV kf p (some ⟨rb, 0, none⟩) 2 rc, exV (nodeX 21 (some ⟨kb, 0, none⟩) 1 kc)] w fun e w' => e = .returned (.tuple #[.agg #[.int .u8 1, .int .i64 7, .string ⟨#[]⟩], .int .i64 0]) ∧ Below w.heap.size w w' := by
  have HG := Lib.hid (fun W => grouped_any 21 W)
  have HGR := Lib.hid (fun W (hb : Below w.heap.size w W) => group_works kf p rb rc kb kc r0 r1 W (lo_step hl hb))
  have HZ := Lib.hid (blk_new ((w.alloc (.cells #[.func (.func kf) #[] #[.pointer (some p)], .slice (some ⟨rb, 0, none⟩) 2 rc] 62)).alloc (.cells (exC (nodeX 21 (some ⟨kb, 0, none⟩) 1 kc)) 29)) (w.heap.size + 1 + 1) 23 #[.int .u8 0, .int .i64 0, .string ⟨#[]⟩] (by simp))
  clear hl
  go_enter Try.func34, Try.ntmps34
  go_wp2_with fail
  refine (HG.out _).mono ?_
  rintro e w2 ⟨rfl, rfl⟩
  rw [show groupedB 21 = true from rfl]
  go_wp2_with fail
  refine (HGR.out _ bj3).mono ?_
  rintro e w4 ⟨rfl, hb4⟩
  have hz := blk_step HZ.out hb4
  have hB := bj bj3 hb4
  obtain ⟨y0, y1, y2, f0, f1, f2⟩ := cell3 hz
  clear hb4
  go_wp2
  obtain ⟨e0, e1, e2, _, _, _⟩ := cell3 (blk3_set hz (.int .u8 1) (.int .i64 7) (.string ⟨#[]⟩))
  exact bodyPost_ret (v := .tuple #[.agg #[.int .u8 1, .int .i64 7, .string ⟨#[]⟩], .int .i64 0]) (by simp [results, Try.results34, go_sem, e0, e1, e2]) rfl ⟨rfl, below3_at hB (by omega) _ _ _⟩
/-- Fold's boxes and answer -/
def Fq (w : World) (rb kb : Nat) (W : World) : Prop := Blk W w.heap.size 29 (exC (nodeX 21 (some ⟨kb, 0, none⟩) 1 1)) ∧ Blk W (w.heap.size + 1) 43 #[.slice (some ⟨rb, 0, none⟩) 2 2] ∧ Blk W (w.heap.size + 1 + 1) 23 #[.int .u8 0, .int .i64 0, .string ⟨#[]⟩] ∧ Below w.heap.size w W
theorem fq_below {w W W' : World} {rb kb : Nat} (h : Fq w rb kb W) (hb : Below W.heap.size W W') : Fq w rb kb W' := ⟨blk_step h.1 hb, blk_step h.2.1 hb, blk_step h.2.2.1 hb, bj h.2.2.2 hb⟩
theorem fq_new (w : World) (rb kb : Nat) : Fq w rb kb (((w.alloc (.cells (exC (nodeX 21 (some ⟨kb, 0, none⟩) 1 1)) 29)).alloc (.cells #[.slice (some ⟨rb, 0, none⟩) 2 2] 43)).alloc (.cells #[.int .u8 0, .int .i64 0, .string ⟨#[]⟩] 23)) :=
  ⟨((Blk.new _ _ _).alloc _).alloc _, (blk_new _ _ _ _ (by simp)).alloc _, blk_new _ _ _ _ (by simp), bj3⟩
set_option maxRecDepth 100000 in
set_option maxHeartbeats 4000000 in
theorem fold_works (rb kb r0 r1 : Nat) (w : World) (hl : Lo w rb r0 r1 kb w.heap.size) :
    Calls Try.prog 20 #[exV (nodeX 21 (some ⟨kb, 0, none⟩) 1 1), .slice (some ⟨rb, 0, none⟩) 2 2, .int .i64 1] w fun e w' => e = .returned (.tuple #[.agg #[.int .u8 1, .int .i64 7, .string ⟨#[]⟩], .int .i64 0]) ∧ Below w.heap.size w w' := by
  have HM : Hid (∀ W, Fq w rb kb W → Calls Try.prog 30 #[.agg #[.int .u8 21, .int .u8 0, .int .i64 0, .string ⟨#[]⟩, .string ⟨#[]⟩, .string ⟨#[]⟩, .int .i64 0, .slice (some ⟨kb, 0, none⟩) 1 1], .int .i64 1, .int .i64 1] W fun e w' => e = .returned (.bool true) ∧ Fq w rb kb w') := Lib.hid fun W h => by
    have hlo := lo_step hl h.2.2.2
    have hk := may_node 21 (0, 0, ⟨#[]⟩) ⟨#[]⟩ ⟨#[]⟩ 0 (some ⟨kb, 0, none⟩) 1 1 [colX 0] [true] 1 1 0 W true rfl rfl (by omega) (by omega) (by omega) (by omega) rfl rfl (by omega) (by omega)
      (.inr ⟨kb, 0, rfl, hlo.2.2.2.2.2.2.2.2, fun j x hx => by
        match j, hx with
        | 0, hx => simp at hx; subst hx; exact hlo.2.2.2.2.1
        | j + 1, hx => simp at hx⟩) (Lib.hid fun W' => fits_21 W')
      (fun j x b hx hbx W' hb' => by
        match j, hx, hbx with
        | 0, hx, hbx =>
          simp at hx hbx
          subst hx hbx
          exact may_col (0, 0, ⟨#[]⟩) ⟨#[]⟩ ⟨#[]⟩ 0 none 0 1 0 W' (by omega) (by omega) (by omega)
        | j + 1, hx, hbx => simp at hx)
    exact hk.mono fun e w' he => ⟨he.1, fq_below h he.2⟩
  have HCM : Hid (∀ W, Fq w rb kb W → Calls Try.prog 34 #[.agg #[.func (.func 35) #[] #[.pointer (some ⟨w.heap.size + 1, 0, none⟩)], .slice (some ⟨rb, 0, none⟩) 2 2], .agg #[.int .u8 21, .int .u8 0, .int .i64 0, .string ⟨#[]⟩, .string ⟨#[]⟩, .string ⟨#[]⟩, .int .i64 0, .slice (some ⟨kb, 0, none⟩) 1 1]] W fun e w' => e = .returned (.tuple #[.agg #[.int .u8 1, .int .i64 7, .string ⟨#[]⟩], .int .i64 0]) ∧ Fq w rb kb w') := Lib.hid fun W h => by
    have hk := come_sum 35 ⟨w.heap.size + 1, 0, none⟩ rb 2 kb 1 r0 r1 W (lo_step hl h.2.2.2)
    exact hk.mono fun e w' he => ⟨he.1, fq_below h he.2⟩
  have HL := Lib.hid hl
  have HS := Lib.hid (fq_new w rb kb)
  clear hl
  go_enter Try.func20, Try.ntmps20
  go_wp2_with fail
  refine (HM.out _ HS.out).mono ?_
  rintro e w2 ⟨rfl, hq⟩
  have r0c := cell1 hq.2.1
  have HQ := Lib.hid hq
  clear hq
  go_wp2
  go_loopw [18] (fun i wr => (i = .int .i64 0 ∧ Fq w rb kb wr) ∨ (i = .int .i64 1 ∧ Fq w rb kb wr) ∨ (i = .int .i64 2 ∧ Fq w rb kb wr)) (fun i _ => 2 - (intOf i).toNat)
  case atStart => exact .inl ⟨rfl, HQ.out⟩
  case round =>
    rcases hrel with ⟨rfl, hy⟩ | ⟨rfl, hy⟩ | ⟨rfl, hy⟩
    · obtain ⟨l0, l1, _⟩ := lo_below HL.out hy.2.2.2
      have HY := Lib.hid hy
      clear hy
      go_wp2
      go_roundw
      case rel => exact .inr (.inl ⟨by first | rfl | go_num, HY.out⟩)
      case measure => simp [intOf]
    · obtain ⟨l0, l1, _⟩ := lo_below HL.out hy.2.2.2
      have HY := Lib.hid hy
      clear hy
      go_wp2
      go_roundw
      case rel => exact .inr (.inr ⟨by first | rfl | go_num, HY.out⟩)
      case measure => simp [intOf]
    · have c1 := cell1 hy.2.1
      have hya := fq_below hy (one_alloc (o := .cells #[.func (.func 35) #[] #[.pointer (some ⟨w.heap.size + 1, 0, none⟩)], .slice (some ⟨rb, 0, none⟩) 2 2] 62))
      obtain ⟨k0, k1, k2, k3, k4, k5, k6, k7⟩ := cell8_all hya.1
      have HY := Lib.hid hya
      clear hy hya
      go_wp2_with fail
      refine (HCM.out _ HY.out).mono ?_
      rintro e w5 ⟨rfl, hs⟩
      obtain ⟨y0, y1, y2, f0, f1, f2⟩ := cell3 hs.2.2.1
      go_wp2
      obtain ⟨e0, e1, e2, _, _, _⟩ := cell3 (blk3_set hs.2.2.1 (.int .u8 1) (.int .i64 7) (.string ⟨#[]⟩))
      exact bodyPost_ret (v := .tuple #[.agg #[.int .u8 1, .int .i64 7, .string ⟨#[]⟩], .int .i64 0]) (by simp [results, Try.results20, go_sem, e0, e1, e2]) rfl ⟨rfl, below3_at hs.2.2.2 (by omega) _ _ _⟩
end Go.Proofs.Ytkgpcodccpckeaa
