/- Layer 13: a token and a place as a function's answer; wrong, bad. Conditions: those of each lemma. -/
import Derived.Test.YtibnmkjabpoppaaGreatDoorLx6
namespace Go.Proofs.YtibnmkjabpoppaaGreatDoor
open Go Go.RowKit
set_option linter.unusedVariables false
set_option linter.unusedSimpArgs false
/-- a token, a place as values -/
def tokV (k : Nat) (s : ByteArray) (n : Nat) (p : Int) : Value := .agg #[.int .u8 k, .string s, .int .u64 n, .int .i64 p]
def spotV (e p : Int) : Value := .agg #[.int .i64 e, .int .i64 p]
theorem cell2b {W : World} {g : Nat} {t : TypeId} {a b : Value} (h : Blk W g t #[a, b]) : W.cell? ⟨g, 0, none⟩ = some a ∧ W.cell? ⟨g, 1, none⟩ = some b ∧ W.frozen? ⟨g, 0, none⟩ = false ∧ W.frozen? ⟨g, 1, none⟩ = false := ⟨h.cell 0, h.cell 1, h.frozen 0, h.frozen 1⟩
theorem cell4b {W : World} {g : Nat} {t : TypeId} {a b c d : Value} (h : Blk W g t #[a, b, c, d]) : W.cell? ⟨g, 0, none⟩ = some a ∧ W.cell? ⟨g, 1, none⟩ = some b ∧ W.cell? ⟨g, 2, none⟩ = some c ∧ W.cell? ⟨g, 3, none⟩ = some d := ⟨h.cell 0, h.cell 1, h.cell 2, h.cell 3⟩
theorem one_alloc {w : World} {o : Obj} : Below w.heap.size w (w.alloc o) := (Below.refl _ _).alloc (Nat.le_refl _) _
theorem bj13 {a b c : World} (h : Below a.heap.size a b) (k : Below b.heap.size b c) : Below a.heap.size a c := h.trans ⟨k.os, k.tape, k.output, k.size, fun i hi => k.block i (Nat.lt_of_lt_of_le hi h.size)⟩
theorem two_blk (w : World) (a b c d e f : Value) (t u : TypeId) : Blk ((w.alloc (.cells #[a, b, c, d] t)).alloc (.cells #[e, f] u)) w.heap.size t #[a, b, c, d] ∧ Blk ((w.alloc (.cells #[a, b, c, d] t)).alloc (.cells #[e, f] u)) (w.heap.size + 1) u #[e, f] := by
  refine ⟨(Blk.new w t _).alloc _, ?_⟩
  have h := Blk.new (w.alloc (.cells #[a, b, c, d] t)) u #[e, f]
  have e1 : (w.alloc (.cells #[a, b, c, d] t)).heap.size = w.heap.size + 1 := by simp
  rw [e1] at h
  exact h
set_option maxRecDepth 100000 in
set_option maxHeartbeats 8000000 in
theorem wrong_any (e p : Int) (w : World) : Calls Tryz.prog 41 #[.int .i64 e, .int .i64 p] w fun r w' => r = .returned (.tuple #[tokV 0 ⟨#[]⟩ 0 0, spotV e p]) ∧ Below w.heap.size w w' := by
  go_enter Tryz.func41, Tryz.ntmps41
  go_wp2
  obtain ⟨hA, hB⟩ := two_blk w (.int .u8 0) (.string ⟨#[]⟩) (.int .u64 0) (.int .i64 0) (.int .i64 e) (.int .i64 p) 34 29
  obtain ⟨c0, c1, c2, c3⟩ := cell4b hA
  obtain ⟨d0, d1, _, _⟩ := cell2b hB
  exact bodyPost_ret (v := .tuple #[tokV 0 ⟨#[]⟩ 0 0, spotV e p]) (by simp [results, Tryz.results41, go_sem, c0, c1, c2, c3, d0, d1, tokV, spotV]) rfl ⟨rfl, bj13 one_alloc one_alloc⟩
set_option maxRecDepth 100000 in
set_option maxHeartbeats 8000000 in
theorem rbad_any (e p : Int) (w : World) : Calls Tryz.prog 36 #[.int .i64 e, .int .i64 p] w fun r w' => r = .returned (.tuple #[tokV 0 ⟨#[]⟩ 0 0, .int .i64 0, spotV e p]) ∧ Below w.heap.size w w' := by
  go_enter Tryz.func36, Tryz.ntmps36
  go_wp2
  obtain ⟨hA, hB⟩ := two_blk w (.int .u8 0) (.string ⟨#[]⟩) (.int .u64 0) (.int .i64 0) (.int .i64 e) (.int .i64 p) 34 29
  obtain ⟨c0, c1, c2, c3⟩ := cell4b hA
  obtain ⟨d0, d1, _, _⟩ := cell2b hB
  exact bodyPost_ret (v := .tuple #[tokV 0 ⟨#[]⟩ 0 0, .int .i64 0, spotV e p]) (by simp [results, Tryz.results36, go_sem, c0, c1, c2, c3, d0, d1, tokV, spotV]) rfl ⟨rfl, bj13 one_alloc one_alloc⟩
/-- a token's block, a place's block behind the stores -/
theorem two_set {W : World} {g h : Nat} {t u : TypeId} {a b c d e f : Value} (hA : Blk W g t #[a, b, c, d]) (hB : Blk W h u #[e, f]) (hne : g ≠ h) (x y z o p q : Value) :
    Blk ((((((W.setCell ⟨g, 0, none⟩ x).setCell ⟨g, 1, none⟩ y).setCell ⟨g, 2, none⟩ z).setCell ⟨g, 3, none⟩ o).setCell ⟨h, 0, none⟩ p).setCell ⟨h, 1, none⟩ q) g t #[x, y, z, o] ∧
    Blk ((((((W.setCell ⟨g, 0, none⟩ x).setCell ⟨g, 1, none⟩ y).setCell ⟨g, 2, none⟩ z).setCell ⟨g, 3, none⟩ o).setCell ⟨h, 0, none⟩ p).setCell ⟨h, 1, none⟩ q) h u #[p, q] :=
  ⟨((((((hA.set_ 0 x).set_ 1 y).set_ 2 z).set_ 3 o).far (p := ⟨h, 0, none⟩) hne p).far (p := ⟨h, 1, none⟩) hne q), ((((((hB.far (p := ⟨g, 0, none⟩) (Ne.symm hne) x).far (p := ⟨g, 1, none⟩) (Ne.symm hne) y).far (p := ⟨g, 2, none⟩) (Ne.symm hne) z).far (p := ⟨g, 3, none⟩) (Ne.symm hne) o).set_ 0 p).set_ 1 q)⟩
theorem two_below {B g h : Nat} {w W : World} (hb : Below B w W) (hg : B ≤ g) (hh : B ≤ h) (x y z o p q : Value) : Below B w ((((((W.setCell ⟨g, 0, none⟩ x).setCell ⟨g, 1, none⟩ y).setCell ⟨g, 2, none⟩ z).setCell ⟨g, 3, none⟩ o).setCell ⟨h, 0, none⟩ p).setCell ⟨h, 1, none⟩ q) :=
  ((((((hb.setCell hg _).setCell hg _).setCell hg _).setCell hg _).setCell hh _).setCell hh _)
/-- the answer of a text's or a blob's token -/
def bytT (k : Nat) (s : ByteArray) (p : Int) : Value := if 1000 < s.size then .tuple #[tokV 0 ⟨#[]⟩ 0 0, spotV 3 p] else .tuple #[tokV k s 0 p, spotV 0 0]
theorem blk4_set {W : World} {g : Nat} {t : TypeId} {a b c d : Value} (h : Blk W g t #[a, b, c, d]) (x y z u : Value) : Blk ((((W.setCell ⟨g, 0, none⟩ x).setCell ⟨g, 1, none⟩ y).setCell ⟨g, 2, none⟩ z).setCell ⟨g, 3, none⟩ u) g t #[x, y, z, u] := (((h.set_ 0 x).set_ 1 y).set_ 2 z).set_ 3 u
set_option maxRecDepth 100000 in
set_option maxHeartbeats 8000000 in
theorem bytes_any (k : Nat) (s : ByteArray) (p : Int) (w : World) : Calls Tryz.prog 62 #[.int .u8 k, .string s, .int .i64 p] w fun r w' => r = .returned (bytT k s p) ∧ Below w.heap.size w w' := by
  by_cases hs : 1000 < s.size
  · have hI : (1000 : Int) < s.size := by omega
    unfold bytT
    rw [if_pos hs]
    clear hs
    go_enter Tryz.func62, Tryz.ntmps62
    go_wp2_with fail
    refine (wrong_any 3 p _).mono ?_
    rintro r w1 ⟨rfl, hb1⟩
    obtain ⟨hA, hB⟩ := two_blk w (.int .u8 0) (.string ⟨#[]⟩) (.int .u64 0) (.int .i64 0) (.int .i64 0) (.int .i64 0) 34 29
    have HA := Lib.hid (Blk.below hA hb1 (Blk.lt hA))
    have HB := Lib.hid (Blk.below hB hb1 (Blk.lt hB))
    have HW := Lib.hid (bj13 (bj13 one_alloc one_alloc) hb1)
    obtain ⟨d0, d1, d2, d3⟩ := cell2b HB.out
    obtain ⟨c0, c1, c2, c3⟩ := cell4b HA.out
    have f0 := (HA.out).frozen 0
    have f1 := (HA.out).frozen 1
    have f2 := (HA.out).frozen 2
    have f3 := (HA.out).frozen 3
    clear hA hB hb1
    unfold tokV spotV
    go_wp2
    obtain ⟨hA, hB⟩ := two_set HA.out HB.out (by omega) (.int .u8 0) (.string ⟨#[]⟩) (.int .u64 0) (.int .i64 0) (.int .i64 3) (.int .i64 p)
    clear c0 c1 c2 c3 d0 d1 d2 d3 f0 f1 f2 f3
    obtain ⟨d0, d1, _, _⟩ := cell2b hB
    obtain ⟨c0, c1, c2, c3⟩ := cell4b hA
    exact bodyPost_ret (v := .tuple #[tokV 0 ⟨#[]⟩ 0 0, spotV 3 p]) (by simp [results, Tryz.results62, go_sem, c0, c1, c2, c3, d0, d1, tokV, spotV]) rfl ⟨rfl, two_below HW.out (Nat.le_refl _) (Nat.le_succ _) _ _ _ _ _ _⟩
  · have hI : ¬ (1000 : Int) < s.size := by omega
    unfold bytT
    rw [if_neg hs]
    clear hs
    go_enter Tryz.func62, Tryz.ntmps62
    go_wp2
    obtain ⟨hA, hB⟩ := two_blk w (.int .u8 k) (.string s) (.int .u64 0) (.int .i64 p) (.int .i64 0) (.int .i64 0) 34 29
    obtain ⟨c0, c1, c2, c3⟩ := cell4b hA
    obtain ⟨d0, d1, _, _⟩ := cell2b hB
    exact bodyPost_ret (v := .tuple #[tokV k s 0 p, spotV 0 0]) (by simp [results, Tryz.results62, go_sem, c0, c1, c2, c3, d0, d1, tokV, spotV]) rfl ⟨rfl, bj13 one_alloc one_alloc⟩
set_option maxRecDepth 100000 in
set_option maxHeartbeats 8000000 in
theorem rhex_any (c : Nat) (hc : c < 256) (w : World) : Calls Tryz.prog 56 #[.int .u8 c] w fun r w' => r = .returned (.int .i64 (if digB c = true then (c : Int) - 48 else if 97 ≤ c ∧ c ≤ 102 then (c : Int) - 87 else -1)) ∧ w = w' := by
  have HG := Lib.hid (rdig_any (c : Int))
  obtain ⟨b, hb⟩ : ∃ b, digB (c : Int) = b := ⟨_, rfl⟩
  rw [hb] at HG ⊢
  cases b with
  | true =>
    have h1 : 48 ≤ c ∧ c ≤ 57 := by unfold digB at hb; simp at hb; omega
    have h2 : (48 : Int) ≤ c := by omega
    have h3 : (c : Int) ≤ 57 := by omega
    clear hb
    go_enter Tryz.func56, Tryz.ntmps56
    go_wp2_with fail
    refine (HG.out _).mono ?_
    rintro e w2 ⟨rfl, rfl⟩
    go_wp2
    go_ret
    exact ⟨by simp, rfl⟩
  | false =>
    clear hb
    by_cases h1 : 97 ≤ c
    · have h1I : (97 : Int) ≤ c := by omega
      by_cases h2 : c ≤ 102
      · have h2I : (c : Int) ≤ 102 := by omega
        go_enter Tryz.func56, Tryz.ntmps56
        go_wp2_with fail
        refine (HG.out _).mono ?_
        rintro e w2 ⟨rfl, rfl⟩
        go_wp2
        go_ret
        exact ⟨by simp [h1, h2]; omega, rfl⟩
      · have h2I : ¬ (c : Int) ≤ 102 := by omega
        go_enter Tryz.func56, Tryz.ntmps56
        go_wp2_with fail
        refine (HG.out _).mono ?_
        rintro e w2 ⟨rfl, rfl⟩
        go_wp2
        go_ret
        exact ⟨by simp [h2], rfl⟩
    · have h1I : ¬ (97 : Int) ≤ c := by omega
      go_enter Tryz.func56, Tryz.ntmps56
      go_wp2_with fail
      refine (HG.out _).mono ?_
      rintro e w2 ⟨rfl, rfl⟩
      go_wp2
      go_ret
      exact ⟨by simp [h1], rfl⟩
end Go.Proofs.YtibnmkjabpoppaaGreatDoor
