/- Layer 13: lex.written. Conditions: those of each lemma. -/
import Derived.Test.YtibnmkjabpoppaaGreatDoorLx29
namespace Go.Proofs.YtibnmkjabpoppaaGreatDoor
open Go Go.RowKit
set_option linter.unusedVariables false
set_option linter.unusedSimpArgs false
/-- how a token is written, and whether it is one -/
def wrT (k : Nat) (x : ByteArray) (n : Nat) : ByteArray × Bool :=
  if k = 3 then (bstr (decL n), decide (x.size = 0) && decide (n ≤ 9223372036854775808))
  else if n ≠ 0 then (⟨#[]⟩, false)
  else if k = 1 then (x, isIn wordsB x)
  else if k = 2 then (x, isNm x)
  else if k = 4 then (⟨#[39]⟩ ++ bstr (dqL (bts x)) ++ ⟨#[39]⟩, decide (x.size ≤ 1000))
  else if k = 5 then (⟨#[120, 39]⟩ ++ bstr (hexL (bts x)) ++ ⟨#[39]⟩, decide (x.size ≤ 1000))
  else if k = 6 then (x, decide (x.size ≠ 0) && decide (sgn signsB x = x))
  else (⟨#[]⟩, false)
def WrP (k : Nat) (x : ByteArray) (n : Nat) (w : World) (e : Ending) (w' : World) : Prop := e = .returned (.tuple #[.string (wrT k x n).1, .bool (wrT k x n).2]) ∧ Below w.heap.size w w'
theorem wrP_of {k n : Nat} {x y : ByteArray} {b : Bool} {w w' : World} {e : Ending} (h : wrT k x n = (y, b)) (he : e = .returned (.tuple #[.string y, .bool b])) (hb : Below w.heap.size w w') : WrP k x n w e w' := ⟨by rw [h]; exact he, hb⟩
theorem dqL_le2 (l : List Nat) : (dqL l).length ≤ 2 * l.length := by
  induction l with
  | nil => exact Nat.le_refl _
  | cons c r ih =>
    rw [dqL]
    split
    all_goals (simp only [List.length_cons]; omega)
set_option maxRecDepth 100000 in
set_option maxHeartbeats 8000000 in
theorem written_int (x : ByteArray) (n : Nat) (p : Int) (w : World) (hG : Gv w) (hn : n < 18446744073709551616) : Calls Tryz.prog 9 #[.agg #[.int .u8 3, .string x, .int .u64 n, .int .i64 p]] w (WrP 3 x n w) := by
  have HB := Lib.hid (Blk.new w 34 #[.int .u8 3, .string x, .int .u64 n, .int .i64 p])
  obtain ⟨c0, c1, c2, c3⟩ := cell4b HB.out
  obtain ⟨d0, d1, d2, d3⟩ := cell4b HB.out.drew
  have HW := Lib.hid (one_alloc (w := w) (o := (.cells #[.int .u8 3, .string x, .int .u64 n, .int .i64 p] 34)))
  have HF := Lib.hid (fmtu_any n _ (gv_step hG HW.out.drew) hn)
  obtain ⟨b, hb⟩ : ∃ b, decide (n ≤ 9223372036854775808) = b := ⟨_, rfl⟩
  have hbI : decide ((n : Int) ≤ 9223372036854775808) = b := by rw [← hb]; congr 1; exact propext (by omega)
  by_cases h0 : x.size = 0
  · obtain rfl := size_0 h0
    have HR := Lib.hid (show wrT 3 ⟨#[]⟩ n = (bstr (decL n), b) by unfold wrT; rw [if_pos rfl, hb]; rfl)
    clear hb h0 hn hG
    go_enter Tryz.func9, Tryz.ntmps9
    go_wp2_with fail
    first | (go_region_with ((go_at_call 18; (with_reducible refine HF.out.mono ?_); rintro e w3 ⟨rfl, hb3⟩; (have hk3 := Blk.below HB.out.drew hb3 (Blk.lt HB.out.drew)); obtain ⟨e0, e1, e2, e3⟩ := cell4b hk3))) | fail
    all_goals
      have HB3 := Lib.hid (below_low HW.out.drew HW.out.drew.size hb3)
      clear hb3 hk3
      go_wp2
      go_ret2
      exact wrP_of HR.out rfl HB3.out
  · have hn1 := str_no h0
    have hn2 := str_em h0
    have HR := Lib.hid (show wrT 3 x n = (bstr (decL n), false) by unfold wrT; rw [if_pos rfl]; simp [h0])
    clear hb h0 hn hG hbI
    go_enter Tryz.func9, Tryz.ntmps9
    go_wp2_with fail
    first | (go_region_with ((go_at_call 18; (with_reducible refine HF.out.mono ?_); rintro e w3 ⟨rfl, hb3⟩; (have hk3 := Blk.below HB.out.drew hb3 (Blk.lt HB.out.drew)); obtain ⟨e0, e1, e2, e3⟩ := cell4b hk3))) | fail
    all_goals
      have HB3 := Lib.hid (below_low HW.out.drew HW.out.drew.size hb3)
      clear hb3 hk3
      go_wp2
      go_ret2
      exact wrP_of HR.out rfl HB3.out
set_option maxRecDepth 100000 in
set_option maxHeartbeats 8000000 in
theorem written_num (k : Nat) (x : ByteArray) (n : Nat) (p : Int) (w : World) (h3 : k ≠ 3) (hn : n ≠ 0) : Calls Tryz.prog 9 #[.agg #[.int .u8 k, .string x, .int .u64 n, .int .i64 p]] w (WrP k x n w) := by
  have HB := Lib.hid (Blk.new w 34 #[.int .u8 k, .string x, .int .u64 n, .int .i64 p])
  obtain ⟨c0, c1, c2, c3⟩ := cell4b HB.out
  obtain ⟨d0, d1, d2, d3⟩ := cell4b HB.out.drew
  have HW := Lib.hid (one_alloc (w := w) (o := (.cells #[.int .u8 k, .string x, .int .u64 n, .int .i64 p] 34)))
  have h3b : ((k : Int) == 3) = false := beq_no13 (by omega)
  have hnb : ((n : Int) != 0) = true := by rw [bne_iff_ne]; omega
  have HR := Lib.hid (show wrT k x n = (⟨#[]⟩, false) by unfold wrT; rw [if_neg h3, if_pos hn])
  clear h3 hn
  go_enter Tryz.func9, Tryz.ntmps9
  go_wp2
  go_ret2
  exact wrP_of HR.out rfl HW.out
set_option maxRecDepth 100000 in
set_option maxHeartbeats 8000000 in
theorem written_word (x : ByteArray) (p : Int) (w : World) (hG : Gv w) : Calls Tryz.prog 9 #[.agg #[.int .u8 1, .string x, .int .u64 0, .int .i64 p]] w (WrP 1 x 0 w) := by
  have HB := Lib.hid (Blk.new w 34 #[.int .u8 1, .string x, .int .u64 0, .int .i64 p])
  obtain ⟨c0, c1, c2, c3⟩ := cell4b HB.out
  obtain ⟨d0, d1, d2, d3⟩ := cell4b HB.out.drew
  have HW := Lib.hid (one_alloc (w := w) (o := (.cells #[.int .u8 1, .string x, .int .u64 0, .int .i64 p] 34)))
  have HT := Lib.hid (tb_step hG.1.1 HW.out)
  have HIW := Lib.hid (fun W hT => isWord_any x W hT)
  have HR := Lib.hid (show wrT 1 x 0 = (x, isIn wordsB x) from rfl)
  clear hG
  go_enter Tryz.func9, Tryz.ntmps9
  go_wp2_with fail
  go_big_quiet ((go_at_call 19; exact Calls.quiet_of_same ((HIW.out _ (tb_step HT.out (below_drewN (Below.refl _ _) _))).mono fun _ _ h => ⟨h.1, h.2.symm⟩)))
  rename_i nq
  have HF := Lib.hid (bj13 HW.out (below_drewN (Below.refl _ _) nq))
  go_wp2
  go_ret2
  exact wrP_of HR.out rfl HF.out
set_option maxRecDepth 100000 in
set_option maxHeartbeats 8000000 in
theorem written_name (x : ByteArray) (p : Int) (w : World) (hx : x.size ≤ 100000) : Calls Tryz.prog 9 #[.agg #[.int .u8 2, .string x, .int .u64 0, .int .i64 p]] w (WrP 2 x 0 w) := by
  have HB := Lib.hid (Blk.new w 34 #[.int .u8 2, .string x, .int .u64 0, .int .i64 p])
  obtain ⟨c0, c1, c2, c3⟩ := cell4b HB.out
  obtain ⟨d0, d1, d2, d3⟩ := cell4b HB.out.drew
  have HW := Lib.hid (one_alloc (w := w) (o := (.cells #[.int .u8 2, .string x, .int .u64 0, .int .i64 p] 34)))
  have HF := Lib.hid (fun W => isName_any x W hx)
  have HR := Lib.hid (show wrT 2 x 0 = (x, isNm x) from rfl)
  clear hx
  go_enter Tryz.func9, Tryz.ntmps9
  go_wp2_with fail
  go_region_with ((go_at_call 20; (with_reducible refine (HF.out _).mono ?_); rintro e w3 ⟨rfl, hb3⟩; (have hk3 := Blk.below HB.out.drew hb3 (Blk.lt HB.out.drew)); obtain ⟨e0, e1, e2, e3⟩ := cell4b hk3))
  all_goals
    have HB3 := Lib.hid (below_low HW.out.drew HW.out.drew.size hb3)
    clear hb3 hk3
    go_wp2
    go_ret2
    exact wrP_of HR.out rfl HB3.out
set_option maxRecDepth 100000 in
set_option maxHeartbeats 8000000 in
theorem written_text (x : ByteArray) (p : Int) (w : World) (hG : Gv w) (hx : x.size ≤ 100000) : Calls Tryz.prog 9 #[.agg #[.int .u8 4, .string x, .int .u64 0, .int .i64 p]] w (WrP 4 x 0 w) := by
  have HB := Lib.hid (Blk.new w 34 #[.int .u8 4, .string x, .int .u64 0, .int .i64 p])
  obtain ⟨c0, c1, c2, c3⟩ := cell4b HB.out
  obtain ⟨d0, d1, d2, d3⟩ := cell4b HB.out.drew
  have HW := Lib.hid (one_alloc (w := w) (o := (.cells #[.int .u8 4, .string x, .int .u64 0, .int .i64 p] 34)))
  have HGV := Lib.hid hG
  have HF := Lib.hid (fun W hG => dq_any x W hG hx)
  have hll : (dqL (bts x)).length ≤ 200002 := by have := dqL_le2 (bts x); rw [bts_length] at this; omega
  have HR0 := Lib.hid (show wrT 4 x 0 = (⟨#[39]⟩ ++ bstr (dqL (bts x)) ++ ⟨#[39]⟩, decide (x.size ≤ 1000)) from rfl)
  obtain ⟨Y, hY⟩ : ∃ Y, bstr (dqL (bts x)) = Y := ⟨_, rfl⟩
  have HSZ : Y.size ≤ 200002 := by rw [← hY, bstr_size]; exact hll
  rw [hY] at HF HR0
  obtain ⟨b, hb⟩ : ∃ b, decide (x.size ≤ 1000) = b := ⟨_, rfl⟩
  have hbI : decide ((x.size : Int) ≤ 1000) = b := by rw [← hb]; congr 1; exact propext (by omega)
  rw [hb] at HR0
  have HR := Lib.hid HR0.out
  have q1 : ¬ (9223372036854775807 < 1 + Y.size) := by omega
  have q2 : 1 + Y.size ≤ 9223372036854775807 := by omega
  have q3 : (1 : Int) + Y.size ≤ 9223372036854775807 := by omega
  have q4 : ¬ (9223372036854775807 < 1 + Y.size + 1) := by omega
  have q5 : 1 + Y.size + 1 ≤ 9223372036854775807 := by omega
  have q6 : (1 : Int) + Y.size + 1 ≤ 9223372036854775807 := by omega
  clear hG hx hll hY HSZ HR0
  go_enter Tryz.func9, Tryz.ntmps9
  go_wp2_with fail
  go_region_with ((go_at_call 21; (with_reducible refine (HF.out _ (gv_step HGV.out HW.out.drew)).mono ?_); rintro e w3 ⟨rfl, hb3⟩; (have hk3 := Blk.below HB.out.drew hb3 (Blk.lt HB.out.drew)); obtain ⟨e0, e1, e2, e3⟩ := cell4b hk3))
  all_goals
    have HB3 := Lib.hid (below_low HW.out.drew HW.out.drew.size hb3)
    clear hb3 hk3
    go_wp2
    go_ret2
    exact wrP_of HR.out rfl HB3.out
set_option maxRecDepth 100000 in
set_option maxHeartbeats 8000000 in
theorem written_blob (x : ByteArray) (p : Int) (w : World) (hG : Gv w) (hx : x.size ≤ 100000) : Calls Tryz.prog 9 #[.agg #[.int .u8 5, .string x, .int .u64 0, .int .i64 p]] w (WrP 5 x 0 w) := by
  have HB := Lib.hid (Blk.new w 34 #[.int .u8 5, .string x, .int .u64 0, .int .i64 p])
  obtain ⟨c0, c1, c2, c3⟩ := cell4b HB.out
  obtain ⟨d0, d1, d2, d3⟩ := cell4b HB.out.drew
  have HW := Lib.hid (one_alloc (w := w) (o := (.cells #[.int .u8 5, .string x, .int .u64 0, .int .i64 p] 34)))
  have HF := Lib.hid (fun W => hex_any x W hx)
  have hll : (hexL (bts x)).length ≤ 200002 := by have := hexL_len (bts x); rw [bts_length] at this; omega
  have HR0 := Lib.hid (show wrT 5 x 0 = (⟨#[120, 39]⟩ ++ bstr (hexL (bts x)) ++ ⟨#[39]⟩, decide (x.size ≤ 1000)) from rfl)
  obtain ⟨Y, hY⟩ : ∃ Y, bstr (hexL (bts x)) = Y := ⟨_, rfl⟩
  have HSZ : Y.size ≤ 200002 := by rw [← hY, bstr_size]; exact hll
  rw [hY] at HF HR0
  obtain ⟨b, hb⟩ : ∃ b, decide (x.size ≤ 1000) = b := ⟨_, rfl⟩
  have hbI : decide ((x.size : Int) ≤ 1000) = b := by rw [← hb]; congr 1; exact propext (by omega)
  rw [hb] at HR0
  have HR := Lib.hid HR0.out
  have q1 : ¬ (9223372036854775807 < 2 + Y.size) := by omega
  have q2 : 2 + Y.size ≤ 9223372036854775807 := by omega
  have q3 : (2 : Int) + Y.size ≤ 9223372036854775807 := by omega
  have q4 : ¬ (9223372036854775807 < 2 + Y.size + 1) := by omega
  have q5 : 2 + Y.size + 1 ≤ 9223372036854775807 := by omega
  have q6 : (2 : Int) + Y.size + 1 ≤ 9223372036854775807 := by omega
  clear hG hx hll hY HSZ HR0
  go_enter Tryz.func9, Tryz.ntmps9
  go_wp2_with fail
  go_region_with ((go_at_call 22; (with_reducible refine (HF.out _).mono ?_); rintro e w3 ⟨rfl, hb3⟩; (have hk3 := Blk.below HB.out.drew hb3 (Blk.lt HB.out.drew)); obtain ⟨e0, e1, e2, e3⟩ := cell4b hk3))
  all_goals
    have HB3 := Lib.hid (below_low HW.out.drew HW.out.drew.size hb3)
    clear hb3 hk3
    go_wp2
    go_ret2
    exact wrP_of HR.out rfl HB3.out
set_option maxRecDepth 100000 in
set_option maxHeartbeats 8000000 in
theorem written_sign (x : ByteArray) (p : Int) (w : World) (hG : Gv w) : Calls Tryz.prog 9 #[.agg #[.int .u8 6, .string x, .int .u64 0, .int .i64 p]] w (WrP 6 x 0 w) := by
  have HB := Lib.hid (Blk.new w 34 #[.int .u8 6, .string x, .int .u64 0, .int .i64 p])
  obtain ⟨c0, c1, c2, c3⟩ := cell4b HB.out
  obtain ⟨d0, d1, d2, d3⟩ := cell4b HB.out.drew
  have HW := Lib.hid (one_alloc (w := w) (o := (.cells #[.int .u8 6, .string x, .int .u64 0, .int .i64 p] 34)))
  have HT := Lib.hid (tb_step hG.1.1 HW.out)
  have HIS := Lib.hid (fun W hT => signOf_any x W hT)
  clear hG
  by_cases h0 : x.size = 0
  · obtain rfl := size_0 h0
    have HR := Lib.hid (show wrT 6 ⟨#[]⟩ 0 = (⟨#[]⟩, false) from rfl)
    clear h0
    go_enter Tryz.func9, Tryz.ntmps9
    go_wp2_with fail
    go_big_quiet (fail)
    rename_i nq
    have HF := Lib.hid (bj13 HW.out (below_drewN (Below.refl _ _) nq))
    go_wp2
    go_ret2
    exact wrP_of HR.out rfl HF.out
  · have hn1 := str_no h0
    have hn2 := str_em h0
    by_cases hs : sgn signsB x = x
    · have HR := Lib.hid (show wrT 6 x 0 = (x, true) by unfold wrT; simp [h0, hs])
      rw [hs] at HIS
      clear h0 hs
      go_enter Tryz.func9, Tryz.ntmps9
      go_wp2_with fail
      go_big_quiet ((go_at_call 23; exact Calls.quiet_of_same ((HIS.out _ (tb_step HT.out (below_drewN (Below.refl _ _) _))).mono fun _ _ h => ⟨h.1, h.2.symm⟩)))
      rename_i nq
      have HF := Lib.hid (bj13 HW.out (below_drewN (Below.refl _ _) nq))
      go_wp2
      go_ret2
      exact wrP_of HR.out rfl HF.out
    · have HR := Lib.hid (show wrT 6 x 0 = (x, false) by unfold wrT; simp [h0, hs])
      generalize sgn signsB x = y at *
      have hsc : (y.toList == x.toList) = false := by rw [beq_eq_false_iff_ne]; exact fun e => hs (str_ext e)
      clear h0
      go_enter Tryz.func9, Tryz.ntmps9
      go_wp2_with fail
      go_big_quiet ((go_at_call 23; exact Calls.quiet_of_same ((HIS.out _ (tb_step HT.out (below_drewN (Below.refl _ _) _))).mono fun _ _ h => ⟨h.1, h.2.symm⟩)))
      rename_i nq
      have HF := Lib.hid (bj13 HW.out (below_drewN (Below.refl _ _) nq))
      go_wp2
      go_ret2
      exact wrP_of HR.out rfl HF.out
set_option maxRecDepth 100000 in
set_option maxHeartbeats 8000000 in
theorem written_no (k : Nat) (x : ByteArray) (p : Int) (w : World) (h1 : k ≠ 1) (h2 : k ≠ 2) (h3 : k ≠ 3) (h4 : k ≠ 4) (h5 : k ≠ 5) (h6 : k ≠ 6) : Calls Tryz.prog 9 #[.agg #[.int .u8 k, .string x, .int .u64 0, .int .i64 p]] w (WrP k x 0 w) := by
  have HB := Lib.hid (Blk.new w 34 #[.int .u8 k, .string x, .int .u64 0, .int .i64 p])
  obtain ⟨c0, c1, c2, c3⟩ := cell4b HB.out
  obtain ⟨d0, d1, d2, d3⟩ := cell4b HB.out.drew
  have HW := Lib.hid (one_alloc (w := w) (o := (.cells #[.int .u8 k, .string x, .int .u64 0, .int .i64 p] 34)))
  have HR := Lib.hid (show wrT k x 0 = (⟨#[]⟩, false) by unfold wrT; rw [if_neg h3, if_neg (by simp), if_neg h1, if_neg h2, if_neg h4, if_neg h5, if_neg h6])
  have b1 : ((k : Int) == 1) = false := beq_no13 (by omega)
  have b2 : ((k : Int) == 2) = false := beq_no13 (by omega)
  have b3 : ((k : Int) == 3) = false := beq_no13 (by omega)
  have b4 : ((k : Int) == 4) = false := beq_no13 (by omega)
  have b5 : ((k : Int) == 5) = false := beq_no13 (by omega)
  have b6 : ((k : Int) == 6) = false := beq_no13 (by omega)
  clear h1 h2 h3 h4 h5 h6
  go_enter Tryz.func9, Tryz.ntmps9
  go_wp2
  go_ret2
  exact wrP_of HR.out rfl HW.out
theorem written_any (k : Nat) (x : ByteArray) (n : Nat) (p : Int) (w : World) (hG : Gv w) (hn : n < 18446744073709551616) (hx : x.size ≤ 100000) : Calls Tryz.prog 9 #[.agg #[.int .u8 k, .string x, .int .u64 n, .int .i64 p]] w (WrP k x n w) := by
  by_cases h3 : k = 3
  · subst h3; exact written_int x n p w hG hn
  by_cases h0 : n = 0
  · subst h0
    by_cases h1 : k = 1
    · subst h1; exact written_word x p w hG
    by_cases h2 : k = 2
    · subst h2; exact written_name x p w hx
    by_cases h4 : k = 4
    · subst h4; exact written_text x p w hG hx
    by_cases h5 : k = 5
    · subst h5; exact written_blob x p w hG hx
    by_cases h6 : k = 6
    · subst h6; exact written_sign x p w hG
    exact written_no k x p w h1 h2 h3 h4 h5 h6
  · exact written_num k x n p w h3 h0
end Go.Proofs.YtibnmkjabpoppaaGreatDoor
