/- Layer 13: the walk of LexTokens. Conditions: those of each lemma. -/
import Derived.Test.YtibnmkjabpoppaaDoorLx27
namespace Go.Proofs.YtibnmkjabpoppaaDoor
open Go Go.RowKit
set_option linter.unusedVariables false
set_option linter.unusedSimpArgs false
set_option maxRecDepth 100000 in
set_option maxHeartbeats 4000000 in
theorem lexTokens_walk (a0 : ByteArray) (w0 : a0.size ≤ 140737488351232) (w : World) (hG : Gt w) : Calls Tryd.prog 4 #[.string a0] w fun e w' => e = .returned (.bool true) ∧ Below w.heap.size w w' := by
  have HW := Lib.hid (works13_any w hG)
  have HG := Lib.hid hG
  by_cases hl : 8192 < a0.size
  · have hI : (8192 : Int) < a0.size := by omega
    clear hl hG
    go_enter Tryd.func4, Tryd.ntmps4
    go_wp2_with fail
    refine (HW.out).mono ?_
    rintro e w1 ⟨rfl, hb1⟩
    go_wp2
    go_ret
    exact ⟨rfl, hb1⟩
  · have hI : ¬ (8192 : Int) < a0.size := by omega
    have hlen : ∀ l, tokensA a0 = .ok l → l.length ≤ 100000 := fun l h => by have := (tokensA_len h).2; omega
    clear hl hG
    obtain ⟨R, hR⟩ : ∃ R, tokensA a0 = R := ⟨_, rfl⟩
    have HTK := Lib.hid (fun W hG => tokens_any a0 W hG)
    have HRT := Lib.hid (fun W => rtokens_any a0 W)
    rw [hR] at HTK HRT hlen
    have HLEN := Lib.hid hlen
    clear hR hlen
    go_enter Tryd.func4, Tryd.ntmps4
    go_wp2_with fail
    refine (HW.out).mono ?_
    rintro e w1 ⟨rfl, hb1⟩
    have HB1 := Lib.hid hb1
    clear hb1
    go_wp2_with fail
    refine (HTK.out _ (gt_step HG.out HB1.out).1 (gt_step HG.out HB1.out).2).mono ?_
    rintro e w2 ⟨hb2, h2⟩
    have HB2 := Lib.hid (bj13 HB1.out hb2)
    clear hb2
    rcases h2 with ⟨e0, q0, hE, rfl⟩ | ⟨l, A, c, hE, rfl, ho⟩
    · unfold spotV
      have hbk := Blk.new w2 26 #[.int .i64 e0, .int .i64 q0]
      have HBK := Lib.hid hbk
      clear hbk
      go_wp2_with fail
      refine (HRT.out _).mono ?_
      rintro e w3 ⟨hb3, h3⟩
      have HB3 := Lib.hid (bj13 HB2.out (bj13 one_alloc hb3))
      have HBK3 := Lib.hid (Blk.below HBK.out hb3 (Blk.lt HBK.out))
      clear hb3
      rcases h3 with ⟨e1, q1, hF, rfl⟩ | ⟨l, A, c, hF, rfl, ho⟩
      · rw [hE] at hF
        injection hF with hF
        injection hF with hF1 hF2
        subst hF1 hF2
        have hk := Blk.new w3 26 #[.int .i64 e0, .int .i64 q0]
        have HB4 := Lib.hid (bj13 HB3.out (one_alloc (o := .cells #[.int .i64 e0, .int .i64 q0] 26)))
        have HBK4 := Lib.hid (HBK3.out.alloc (.cells #[.int .i64 e0, .int .i64 q0] 26))
        have HK4 := Lib.hid hk
        have HEQ := Lib.hid (fun W => tkEq_any none none [] 0 0 W (.inl rfl) (.inl rfl) (Nat.zero_le _))
        clear hk hE
        unfold spotV
        go_wp2_with fail
        refine (HEQ.out _).mono ?_
        rintro e w5 ⟨rfl, hb5⟩
        have HB5 := Lib.hid (bj13 HB4.out hb5)
        obtain ⟨s0, s1, _, _⟩ := cell2b (Blk.below HBK4.out hb5 (Blk.lt HBK4.out))
        obtain ⟨t0, t1, _, _⟩ := cell2b (Blk.below HK4.out hb5 (Blk.lt HK4.out))
        clear hb5
        go_wp2
        go_ret
        exact ⟨by simp, HB5.out⟩
      · rw [hE] at hF; cases hF
    · have HRW := Lib.hid (tks_own ho)
      clear ho
      unfold spotV
      have hbk := Blk.new w2 26 #[.int .i64 0, .int .i64 0]
      have HBK := Lib.hid hbk
      clear hbk
      go_wp2_with fail
      refine (HRT.out _).mono ?_
      rintro e w3 ⟨hb3, h3⟩
      have HB3 := Lib.hid (bj13 HB2.out (bj13 one_alloc hb3))
      have HBK3 := Lib.hid (Blk.below HBK.out hb3 (Blk.lt HBK.out))
      have HRW3 := Lib.hid (tks_step HRW.out (bj13 one_alloc hb3))
      clear hb3
      rcases h3 with ⟨e1, q1, hF, rfl⟩ | ⟨l2, A2, c2, hF, rfl, ho2⟩
      · rw [hE] at hF; cases hF
      · rw [hE] at hF
        injection hF with hF
        subst hF
        unfold spotV
        have hk := Blk.new w3 26 #[.int .i64 0, .int .i64 0]
        have HB4 := Lib.hid (bj13 HB3.out (one_alloc (o := .cells #[.int .i64 0, .int .i64 0] 26)))
        have HBK4 := Lib.hid (HBK3.out.alloc (.cells #[.int .i64 0, .int .i64 0] 26))
        have HK4 := Lib.hid hk
        have HEQ := Lib.hid (tkEq_any A A2 l c c2 _ (tks_step HRW3.out (one_alloc (o := .cells #[.int .i64 0, .int .i64 0] 26))) (tks_step (tks_own ho2) (one_alloc (o := .cells #[.int .i64 0, .int .i64 0] 26))) (HLEN.out l hE))
        clear hk hE ho2
        go_wp2_with fail
        refine (HEQ.out).mono ?_
        rintro e w5 ⟨rfl, hb5⟩
        have HB5 := Lib.hid (bj13 HB4.out hb5)
        obtain ⟨s0, s1, _, _⟩ := cell2b (Blk.below HBK4.out hb5 (Blk.lt HBK4.out))
        obtain ⟨t0, t1, _, _⟩ := cell2b (Blk.below HK4.out hb5 (Blk.lt HK4.out))
        clear hb5
        go_wp2
        go_ret
        exact ⟨by simp, HB5.out⟩
end Go.Proofs.YtibnmkjabpoppaaDoor
