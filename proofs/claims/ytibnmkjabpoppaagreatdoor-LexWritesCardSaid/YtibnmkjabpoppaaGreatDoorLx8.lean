/- Layer 13: sign. Conditions: those of each lemma. -/
import Derived.Test.YtibnmkjabpoppaaGreatDoorLx7
namespace Go.Proofs.YtibnmkjabpoppaaGreatDoor
open Go Go.RowKit
set_option linter.unusedVariables false
set_option linter.unusedSimpArgs false
theorem tb_bx {W W' : World} {g : Nat} (h : Tb W) (k : Bx g W W') (h0 : g ≠ 1) (h1 : g ≠ 0) : Tb W' := by
  have key : ∀ {n : String} {q : Nat} {cs : Array Value}, Tryz.prog.globalNamed n = some q → g ≠ q → W.var? Tryz.prog n = some cs → W'.var? Tryz.prog n = some cs := by
    intro n q cs hg hne h
    unfold World.var? at h ⊢
    rw [hg] at h ⊢
    simp only [Option.bind_some] at h ⊢
    have hlt : q < W.heap.size := by
      rcases Nat.lt_or_ge q W.heap.size with h' | h'
      · exact h'
      · rw [Array.getElem?_eq_none h'] at h; cases h
    rw [k.2.2.2.2 q hlt (fun e => hne e.symm)]
    exact h
  exact ⟨key gn_sg h0 h.1, key gn_wd h1 h.2⟩
theorem bx_more {g : Nat} {a b c : World} (h : Bx g a b) (k : Below a.heap.size b c) : Bx g a c := ⟨k.os.trans h.1, k.tape.trans h.2.1, k.output.trans h.2.2.1, Nat.le_trans h.2.2.2.1 k.size, fun i hi hg => (k.block i hi).trans (h.2.2.2.2 i hi hg)⟩
theorem sgn_le (s : ByteArray) : (sgn signsB s).size ≤ 2 := by
  have hall : ∀ x ∈ signsB, x.size ≤ 2 := by
    intro x hx
    simp only [signsB, List.mem_cons, List.not_mem_nil, or_false] at hx
    rcases hx with rfl | rfl | rfl | rfl | rfl | rfl | rfl | rfl | rfl | rfl | rfl | rfl | rfl | rfl | rfl | rfl | rfl
    all_goals decide
  unfold sgn
  cases h : signsB.find? (preB s) with
  | none => exact Nat.zero_le _
  | some x => exact hall x (List.mem_of_find?_eq_some h)
theorem str_no {s : ByteArray} (h : s.size ≠ 0) : ¬ s.toList = [] := by
  intro e
  apply h
  have e2 : s = bstr [] := str_ext (by rw [e, ByteArray.toList_eq]; rfl)
  rw [e2]; rfl
theorem str_em {s : ByteArray} (h : s.size ≠ 0) : s.toList.isEmpty = false := by
  have := str_no h
  cases hh : s.toList with
  | nil => exact absurd hh this
  | cons a l => rfl
theorem size_0 {x : ByteArray} (h : x.size = 0) : x = ⟨#[]⟩ := ByteArray.ext (Array.eq_empty_of_size_eq_zero h)
/-- what the taking of a sign answers -/
def sigT (p : Nat) (x : ByteArray) : Value := if x.size = 0 then .tuple #[tokV 0 ⟨#[]⟩ 0 0, spotV 6 p] else .tuple #[tokV 6 x 0 p, spotV 0 0]
abbrev tokA : Obj := .cells #[.int .u8 0, .string ⟨#[]⟩, .int .u64 0, .int .i64 0] 34
abbrev spotA : Obj := .cells #[.int .i64 0, .int .i64 0] 29
set_option maxRecDepth 100000 in
set_option maxHeartbeats 8000000 in
theorem sign_any (g : Nat) (S : ByteArray) (p : Nat) (w : World) (h : Rd w g S p) (hT : Tb w) (hp : p ≤ S.size) (hS : S.size ≤ 140737488351232) : Calls Tryz.prog 50 #[.pointer (some ⟨g, 0, none⟩)] w fun r w' => r = .returned (sigT p (sgn signsB (S.extract p S.size))) ∧ Rd w' g S (p + (sgn signsB (S.extract p S.size)).size) ∧ Bx g w w' := by
  have hSI : (S.size : Int) ≤ 140737488351232 := by omega
  have hI : (p : Int) ≤ S.size := by omega
  have HS := Lib.hid (fun W hT => signOf_any (S.extract p S.size) W hT)
  have hx2 := sgn_le (S.extract p S.size)
  generalize hx : sgn signsB (S.extract p S.size) = x at *
  clear hx
  have hlt := Blk.lt h
  have HD0 := Lib.hid h
  have HD := Lib.hid (rd_step h (bj13 (one_alloc (o := tokA)) (one_alloc (o := spotA))))
  have HT := Lib.hid (tb_step hT (bj13 (one_alloc (o := tokA)) (one_alloc (o := spotA))))
  obtain ⟨hA, hB⟩ := two_blk w (.int .u8 0) (.string ⟨#[]⟩) (.int .u64 0) (.int .i64 0) (.int .i64 0) (.int .i64 0) 34 29
  have HA := Lib.hid hA
  have HB := Lib.hid hB
  have HW := Lib.hid (bj13 (one_alloc (w := w) (o := tokA)) (one_alloc (o := spotA)))
  obtain ⟨c0, c1, f0, f1⟩ := rd_cells HD.out
  clear hA hB h hT
  by_cases hz : x.size = 0
  · obtain rfl := size_0 hz
    clear hz hx2
    go_enter Tryz.func50, Tryz.ntmps50
    go_wp2_with fail
    refine (HS.out _ HT.out).mono ?_
    rintro e w1 ⟨rfl, hw⟩
    have HD1 := Lib.hid (show Rd w1 g S p from hw ▸ HD.out)
    have HA1 := Lib.hid (show Blk w1 w.heap.size 34 #[.int .u8 0, .string ⟨#[]⟩, .int .u64 0, .int .i64 0] from hw ▸ HA.out)
    have HB1 := Lib.hid (show Blk w1 (w.heap.size + 1) 29 #[.int .i64 0, .int .i64 0] from hw ▸ HB.out)
    have HW1 := Lib.hid (show Below w.heap.size w w1 from hw ▸ HW.out)
    clear hw c0 c1 f0 f1 HD HA HB HW HT
    go_wp2_with fail
    refine (wrong_any 6 p _).mono ?_
    rintro e w2 ⟨rfl, hb2⟩
    have HA2 := Lib.hid (Blk.below HA1.out hb2 (Blk.lt HA1.out))
    have HB2 := Lib.hid (Blk.below HB1.out hb2 (Blk.lt HB1.out))
    have HD2 := Lib.hid (rd_step HD1.out hb2)
    have HW2 := Lib.hid (HW1.out.trans ⟨hb2.os, hb2.tape, hb2.output, hb2.size, fun i hi => hb2.block i (Nat.lt_of_lt_of_le hi HW1.out.size)⟩)
    clear hb2
    obtain ⟨d0, d1, d2, d3⟩ := cell2b HB2.out
    obtain ⟨c0, c1, c2, c3⟩ := cell4b HA2.out
    have f0 := (HA2.out).frozen 0
    have f1 := (HA2.out).frozen 1
    have f2 := (HA2.out).frozen 2
    have f3 := (HA2.out).frozen 3
    unfold tokV spotV
    go_wp2
    obtain ⟨hA, hB⟩ := two_set HA2.out HB2.out (by omega) (.int .u8 0) (.string ⟨#[]⟩) (.int .u64 0) (.int .i64 0) (.int .i64 6) (.int .i64 p)
    have HB6 := two_below (g := w.heap.size) (h := w.heap.size + 1) HW2.out (Nat.le_refl _) (Nat.le_succ _) (.int .u8 0) (.string ⟨#[]⟩) (.int .u64 0) (.int .i64 0) (.int .i64 6) (.int .i64 p)
    clear c0 c1 c2 c3 d0 d1 d2 d3 f0 f1 f2 f3
    obtain ⟨d0, d1, _, _⟩ := cell2b hB
    obtain ⟨c0, c1, c2, c3⟩ := cell4b hA
    exact bodyPost_ret (v := .tuple #[tokV 0 ⟨#[]⟩ 0 0, spotV 6 p]) (by simp [results, Tryz.results50, go_sem, c0, c1, c2, c3, d0, d1, tokV, spotV]) rfl ⟨rfl, Blk.below HD0.out HB6 hlt, bx_of HB6 rfl⟩
  · have hn1 := str_no (s := x) (by omega)
    have hn2 := str_em (s := x) (by omega)
    have hxI : (x.size : Int) ≤ 2 := by omega
    go_enter Tryz.func50, Tryz.ntmps50
    go_wp2_with fail
    refine (HS.out _ HT.out).mono ?_
    rintro e w1 ⟨rfl, hw⟩
    have HD1 := Lib.hid (show Rd w1 g S p from hw ▸ HD.out)
    have HA1 := Lib.hid (show Blk w1 w.heap.size 34 #[.int .u8 0, .string ⟨#[]⟩, .int .u64 0, .int .i64 0] from hw ▸ HA.out)
    have HB1 := Lib.hid (show Blk w1 (w.heap.size + 1) 29 #[.int .i64 0, .int .i64 0] from hw ▸ HB.out)
    have HW1 := Lib.hid (show Below w.heap.size w w1 from hw ▸ HW.out)
    clear hw c0 c1 f0 f1 HD HA HB HW HT
    obtain ⟨c0, c1, f0, f1⟩ := rd_cells HD1.out
    obtain ⟨d0, d1, d2, d3⟩ := cell2b HB1.out
    obtain ⟨b0, b1, b2, b3⟩ := cell4b HA1.out
    have e0 := (HA1.out).frozen 0
    have e1 := (HA1.out).frozen 1
    have e2 := (HA1.out).frozen 2
    have e3 := (HA1.out).frozen 3
    go_wp2
    have hne : w.heap.size ≠ g := by omega
    have hne2 : w.heap.size + 1 ≠ g := by omega
    obtain ⟨hA, hB⟩ := two_set (Blk.far HA1.out (p := ⟨g, 1, none⟩) hne (.int .i64 ((p : Int) + x.size))) (Blk.far HB1.out (p := ⟨g, 1, none⟩) hne2 (.int .i64 ((p : Int) + x.size))) (by omega) (.int .u8 6) (.string x) (.int .u64 0) (.int .i64 p) (.int .i64 0) (.int .i64 0)
    have HB6 := two_below (g := w.heap.size) (h := w.heap.size + 1) (Below.refl w.heap.size (w1.setCell ⟨g, 1, none⟩ (.int .i64 ((p : Int) + x.size)))) (Nat.le_refl _) (Nat.le_succ _) (.int .u8 6) (.string x) (.int .u64 0) (.int .i64 p) (.int .i64 0) (.int .i64 0)
    have hrd := rd_set HD1.out (p + x.size)
    have hbx := bx_trans (bx_of HW1.out rfl) (bx_set g w1 1 (.int .i64 ((p : Int) + x.size)))
    have hsig : sigT p x = .tuple #[tokV 6 x 0 p, spotV 0 0] := if_neg hz
    rw [hsig]
    clear c0 c1 f0 f1 b0 b1 b2 b3 d0 d1 d2 d3 e0 e1 e2 e3 hn1 hn2
    obtain ⟨d0, d1, _, _⟩ := cell2b hB
    obtain ⟨c0, c1, c2, c3⟩ := cell4b hA
    exact bodyPost_ret (v := .tuple #[tokV 6 x 0 p, spotV 0 0]) (by simp [results, Tryz.results50, go_sem, c0, c1, c2, c3, d0, d1, tokV, spotV]) rfl ⟨rfl, Blk.below hrd HB6 hlt, bx_more hbx HB6⟩
end Go.Proofs.YtibnmkjabpoppaaGreatDoor
