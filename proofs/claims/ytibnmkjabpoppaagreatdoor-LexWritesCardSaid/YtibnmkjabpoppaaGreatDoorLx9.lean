/- Layer 13: word. Conditions: those of each lemma. -/
import Derived.Test.YtibnmkjabpoppaaGreatDoorLx8
namespace Go.Proofs.YtibnmkjabpoppaaGreatDoor
open Go Go.RowKit
set_option linter.unusedVariables false
set_option linter.unusedSimpArgs false
/-- what the taking of a word answers -/
def wrdT (p : Nat) (x : ByteArray) : Value := if isIn wordsB x = true then .tuple #[tokV 1 x 0 p, spotV 0 0] else .tuple #[tokV 0 ⟨#[]⟩ 0 0, spotV 6 p]
theorem below_low {B : Nat} {a b c : World} (h : Below B a b) (hB : B ≤ b.heap.size) (k : Below b.heap.size b c) : Below B a c := h.trans ⟨k.os, k.tape, k.output, k.size, fun i hi => k.block i (Nat.lt_of_lt_of_le hi hB)⟩
set_option maxRecDepth 100000 in
set_option maxHeartbeats 8000000 in
theorem word_any (g : Nat) (S : ByteArray) (p : Nat) (w : World) (h : Rd w g S p) (hT : Tb w) (h0 : g ≠ 1) (h1 : g ≠ 0) (hp : p ≤ S.size) (hS : S.size ≤ 140737488351232) : Calls Tryz.prog 43 #[.pointer (some ⟨g, 0, none⟩)] w fun r w' => r = .returned (wrdT p (S.extract p (p + wl ((bts S).drop p)))) ∧ Rd w' g S (p + wl ((bts S).drop p)) ∧ Bx g w w' := by
  have HRUN := Lib.hid (fun W hr => run_any g S p W hr hp hS)
  generalize hn : p + wl ((bts S).drop p) = n at *
  generalize hx : S.extract p n = x at *
  clear hn hx
  have HS := Lib.hid (fun W hT => isWord_any x W hT)
  obtain ⟨b, hb⟩ : ∃ b, isIn wordsB x = b := ⟨_, rfl⟩
  rw [hb] at HS
  have hlt := Blk.lt h
  have hne : w.heap.size ≠ g := by omega
  have hne2 : w.heap.size + 1 ≠ g := by omega
  have HD := Lib.hid (rd_step h (bj13 (one_alloc (o := tokA)) (one_alloc (o := spotA))))
  have HT := Lib.hid (tb_step hT (bj13 (one_alloc (o := tokA)) (one_alloc (o := spotA))))
  obtain ⟨hA, hB⟩ := two_blk w (.int .u8 0) (.string ⟨#[]⟩) (.int .u64 0) (.int .i64 0) (.int .i64 0) (.int .i64 0) 34 29
  have HA := Lib.hid hA
  have HB := Lib.hid hB
  have HW := Lib.hid (bj13 (one_alloc (w := w) (o := tokA)) (one_alloc (o := spotA)))
  obtain ⟨c0, c1, f0, f1⟩ := rd_cells HD.out
  clear hA hB h hT
  go_enter Tryz.func43, Tryz.ntmps43
  go_wp2_with fail
  refine (HRUN.out _ HD.out).mono ?_
  rintro e w1 ⟨rfl, hr1, hb1⟩
  have HD1 := Lib.hid hr1
  have HA1 := Lib.hid (bx_blk HA.out hb1 hne)
  have HB1 := Lib.hid (bx_blk HB.out hb1 hne2)
  have HT1 := Lib.hid (tb_bx HT.out hb1 h0 h1)
  have HX1 := Lib.hid (bx_trans (bx_of HW.out rfl) hb1)
  have hsz : w.heap.size ≤ w1.heap.size := HX1.out.2.2.2.1
  clear hr1 hb1 HD HA HB HT HW c0 c1 f0 f1 HRUN
  go_wp2_with fail
  refine (HS.out _ HT1.out).mono ?_
  rintro e w2 ⟨rfl, rfl⟩
  cases b with
  | true =>
    have hres : wrdT p x = .tuple #[tokV 1 x 0 p, spotV 0 0] := if_pos hb
    have HRES := Lib.hid hres
    clear hres hb
    obtain ⟨d0, d1, d2, d3⟩ := cell2b HB1.out
    obtain ⟨b0, b1, b2, b3⟩ := cell4b HA1.out
    have e0 := (HA1.out).frozen 0
    have e1 := (HA1.out).frozen 1
    have e2 := (HA1.out).frozen 2
    have e3 := (HA1.out).frozen 3
    go_wp2
    obtain ⟨hA, hB⟩ := two_set HA1.out HB1.out (by omega) (.int .u8 1) (.string x) (.int .u64 0) (.int .i64 p) (.int .i64 0) (.int .i64 0)
    have HB6 := two_below (g := w.heap.size) (h := w.heap.size + 1) (Below.refl w.heap.size w1) (Nat.le_refl _) (Nat.le_succ _) (.int .u8 1) (.string x) (.int .u64 0) (.int .i64 p) (.int .i64 0) (.int .i64 0)
    clear d0 d1 d2 d3 b0 b1 b2 b3 e0 e1 e2 e3
    obtain ⟨d0, d1, _, _⟩ := cell2b hB
    obtain ⟨c0, c1, c2, c3⟩ := cell4b hA
    exact bodyPost_ret (v := .tuple #[tokV 1 x 0 p, spotV 0 0]) (by simp [results, Tryz.results43, go_sem, c0, c1, c2, c3, d0, d1, tokV, spotV]) rfl ⟨by rw [HRES.out], Blk.below HD1.out HB6 hlt, bx_more HX1.out HB6⟩
  | false =>
    have hres : wrdT p x = .tuple #[tokV 0 ⟨#[]⟩ 0 0, spotV 6 p] := if_neg (by rw [hb]; decide)
    have HRES := Lib.hid hres
    clear hres hb
    go_wp2_with fail
    refine (wrong_any 6 p _).mono ?_
    rintro e w2 ⟨rfl, hb2⟩
    have HA2 := Lib.hid (Blk.below HA1.out hb2 (Blk.lt HA1.out))
    have HB2 := Lib.hid (Blk.below HB1.out hb2 (Blk.lt HB1.out))
    have HD2 := Lib.hid (rd_step HD1.out hb2)
    have HX2 := Lib.hid (bx_later HX1.out hb2)
    clear hb2
    obtain ⟨d0, d1, d2, d3⟩ := cell2b HB2.out
    obtain ⟨c0, c1, c2, c3⟩ := cell4b HA2.out
    have f0 := (HA2.out).frozen 0
    have f1 := (HA2.out).frozen 1
    have f2 := (HA2.out).frozen 2
    have f3 := (HA2.out).frozen 3
    unfold tokV spotV
    go_wp2
    obtain ⟨hA, hB⟩ := two_set HA2.out HB2.out (by omega) (.int .u8 0) (.string ⟨#[]⟩) (.int .u64 0) (.int .i64 0) (.int .i64 6) (.int .i64 p)
    have HB6 := two_below (g := w.heap.size) (h := w.heap.size + 1) (Below.refl w.heap.size w2) (Nat.le_refl _) (Nat.le_succ _) (.int .u8 0) (.string ⟨#[]⟩) (.int .u64 0) (.int .i64 0) (.int .i64 6) (.int .i64 p)
    clear c0 c1 c2 c3 d0 d1 d2 d3 f0 f1 f2 f3
    obtain ⟨d0, d1, _, _⟩ := cell2b hB
    obtain ⟨c0, c1, c2, c3⟩ := cell4b hA
    exact bodyPost_ret (v := .tuple #[tokV 0 ⟨#[]⟩ 0 0, spotV 6 p]) (by simp [results, Tryz.results43, go_sem, c0, c1, c2, c3, d0, d1, tokV, spotV]) rfl ⟨by rw [HRES.out], Blk.below HD2.out HB6 hlt, bx_more HX2.out HB6⟩
end Go.Proofs.YtibnmkjabpoppaaGreatDoor
