/- Layer 13: ref13.Tokens. Conditions: those of each lemma. -/
import Derived.Test.YtibnmkjabpoppaaDoorLx25
namespace Go.Proofs.YtibnmkjabpoppaaDoor
open Go Go.RowKit
set_option linter.unusedVariables false
set_option linter.unusedSimpArgs false
def Tr (w : World) (acc : List TK) (v : Value) (W : World) : Prop := W.ownsRow (w.heap.size + 1) 32 4 v acc.length (tkCs acc) ∧ Blk W w.heap.size 26 #[.int .i64 0, .int .i64 0] ∧ Below w.heap.size w W ∧ w.heap.size + 1 ≤ W.heap.size
theorem tr_step {w W W' : World} {acc : List TK} {v : Value} (h : Tr w acc v W) (hb : Below W.heap.size W W') : Tr w acc v W' :=
  ⟨own_below h.1 hb, Blk.below h.2.1 hb (Blk.lt h.2.1), below_low h.2.2.1 h.2.2.1.size hb, Nat.le_trans h.2.2.2 hb.size⟩
theorem tr_grown {w W W' : World} {acc acc' : List TK} {v v' : Value} (h : Tr w acc v W) (ho : W'.ownsRow (w.heap.size + 1) 32 4 v' acc'.length (tkCs acc')) (hg : W.grownBy W' v.ownBlock) : Tr w acc' v' W' := by
  have hlt : ∀ z, v.ownBlock = some z → w.heap.size + 1 ≤ z ∧ z < W.heap.size := fun z hz => h.1.lt z hz
  exact ⟨ho, Blk.grown h.2.1 hg (fun e => by have := hlt _ e.symm; omega), h.2.2.1.grown hg h.2.2.1.size (fun z hz => by have := hlt z hz; omega), Nat.le_trans h.2.2.2 hg.size⟩
theorem tr_own {w W : World} {acc : List TK} {v : Value} (h : Tr w acc v W) (x y : Value) : ((W.setCell ⟨w.heap.size, 0, none⟩ x).setCell ⟨w.heap.size, 1, none⟩ y).ownsRow w.heap.size 32 4 v acc.length (tkCs acc) :=
  own_base (own_bx (own_bx h.1 (bx_set w.heap.size _ 0 x) (by omega)) (bx_set w.heap.size _ 1 y) (by omega)) (show w.heap.size ≤ w.heap.size + 1 by omega)
theorem tr_end {w W : World} {acc : List TK} {v : Value} (h : Tr w acc v W) (x y : Value) : Blk ((W.setCell ⟨w.heap.size, 0, none⟩ x).setCell ⟨w.heap.size, 1, none⟩ y) w.heap.size 26 #[x, y] ∧ Below w.heap.size w ((W.setCell ⟨w.heap.size, 0, none⟩ x).setCell ⟨w.heap.size, 1, none⟩ y) :=
  ⟨(h.2.1.set_ 0 x).set_ 1 y, (h.2.2.1.setCell (p := ⟨w.heap.size, 0, none⟩) (Nat.le_refl _) x).setCell (p := ⟨w.heap.size, 1, none⟩) (Nat.le_refl _) y⟩
set_option maxRecDepth 100000 in
set_option maxHeartbeats 8000000 in
theorem rtokens_long (S : ByteArray) (w : World) (hl : 4096 < S.size) : Calls Tryd.prog 16 #[.string S] w (TkP (tokensA S) w) := by
  have HR := Lib.hid (show tokensA S = .error (3, 4096) from if_pos hl)
  have hI : (4096 : Int) < S.size := by omega
  clear hl
  go_enter Tryd.func16, Tryd.ntmps16
  go_wp2
  have h := Blk.new w 26 #[.int .i64 3, .int .i64 4096]
  obtain ⟨d0, d1, _, _⟩ := cell2b h
  refine bodyPost_ret (v := .tuple #[.slice none 0 0, spotV ((3 : Nat) : Int) ((4096 : Nat) : Int)]) ?_ rfl ?_
  · simp [results, Tryd.results16, go_sem, d0, d1, spotV]
  · exact ⟨one_alloc, .inl ⟨3, 4096, HR.out, rfl⟩⟩
set_option maxRecDepth 100000 in
set_option maxHeartbeats 8000000 in
theorem rtokens_short (S : ByteArray) (w : World) (hl : S.size ≤ 4096) : Calls Tryd.prog 16 #[.string S] w (TkP (tokensA S) w) := by
  obtain ⟨iv, hv1, hv2, hv3, hv4⟩ := info_parts tok_info
  obtain ⟨R, hR⟩ : ∃ R, tokensA S = R := ⟨_, rfl⟩
  have HR := Lib.hid (show toksj [] (toksA S (S.size + 1) (sk (bts S))) = R by
    rw [← hR]
    unfold tokensA
    rw [if_neg (by omega)]
    cases toksA S (S.size + 1) (sk (bts S)) <;> rfl)
  rw [hR]
  clear hR
  have hI : (S.size : Int) ≤ 4096 := by omega
  have HSK := Lib.hid (fun (p : Nat) (W : World) (hp : p ≤ S.size) => rSkip_any S p W hp (by omega))
  have HSK0 := Lib.hid (show ∀ W, Calls Tryd.prog 30 #[.string S, .int .i64 0] W fun e w' => e = .returned (.int .i64 (sk (bts S) : Nat)) ∧ W = w' from fun W => by have h := HSK.out 0 W (Nat.zero_le _); rw [List.drop_zero, Nat.zero_add] at h; exact h)
  have HON := Lib.hid (fun (p : Nat) (W : World) (hp : p < S.size) => rone_any S p W hp (by omega))
  have HAT := Lib.hid (fun (q : Nat) (W : World) => rAt_any S q W)
  have HWB := Lib.hid rwor_any
  have HS0 := Lib.hid (show Tr w [] (.slice none 0 0) (w.alloc (.cells #[.int .i64 0, .int .i64 0] 26)) from
    ⟨World.ownsRow_nil _ _ _ _, Blk.new w _ _, one_alloc, by simp⟩)
  have HZ := Lib.hid (show sk (bts S) ≤ S.size by have h := sk_size S 0 (Nat.zero_le _); rw [List.drop_zero, Nat.zero_add] at h; exact h)
  go_enter Tryd.func16, Tryd.ntmps16
  go_wp2_with fail
  refine (HSK0.out _).mono ?_
  rintro e w1 ⟨rfl, hw1⟩
  have HS1 := Lib.hid (show Tr w [] (.slice none 0 0) w1 from hw1 ▸ HS0.out)
  clear hw1 HS0
  go_wp2
  go_loopw [4, 5] (fun v i wr => ∃ (p f : Nat) (acc : List TK), i = .int .i64 p ∧ p ≤ S.size ∧ S.size < p + f ∧ acc.length ≤ p ∧ toksj acc (toksA S f p) = R ∧ Tr w acc v wr) (fun _ i _ => S.size - (intOf i).toNat)
  case atStart => exact ⟨_, S.size + 1, [], rfl, HZ.out, by omega, Nat.zero_le _, HR.out, HS1.out⟩
  case round =>
    clear HS1 HR HZ
    obtain ⟨p, f, acc, rfl, hp, hf, hal, hE, hS⟩ := hrel
    have HE := Lib.hid hE
    have HS := Lib.hid hS
    obtain ⟨A, c, rfl⟩ := own_form hS.1
    clear hE hS
    obtain ⟨f, rfl⟩ : ∃ f', f = f' + 1 := ⟨f - 1, by omega⟩
    by_cases hps : p < S.size
    · have hpI : (p : Int) < S.size := by omega
      have hgd := good_alo S p hps
      have hg1 := good_one S p hps
      go_wp2_with fail
      refine (HON.out p _ hps).mono ?_
      rintro e w3 ⟨rfl, hb3⟩
      have HS3 := Lib.hid (tr_step HS.out hb3)
      clear hb3 HS
      cases hA1 : oneA S p with
      | bad e0 q0 =>
        have hA : aloA S p = .bad e0 q0 := by unfold aloA; rw [hA1]; rfl
        have he0 : ((e0 : Int) != 0) = true := by rw [bne_iff_ne]; have := (hgd.1 e0 q0 hA).1; omega
        have HRR := Lib.hid (show R = .error (e0, q0) by rw [← HE.out, toksA_bad hps hA]; rfl)
        obtain ⟨h2, k2⟩ := two_blk w3 (.int .u8 0) (.string ⟨#[]⟩) (.int .u64 0) (.int .i64 0) (.int .i64 e0) (.int .i64 q0) 32 26
        have HS4 := Lib.hid (tr_step HS3.out (bj13 (one_alloc (w := w3) (o := .cells #[.int .u8 0, .string ⟨#[]⟩, .int .u64 0, .int .i64 0] 32)) (one_alloc (o := .cells #[.int .i64 e0, .int .i64 q0] 26))))
        have k2d := Blk.drew k2
        obtain ⟨s0, s1, _, _⟩ := cell2b k2
        obtain ⟨s2, s3, _, _⟩ := cell2b k2d
        obtain ⟨j0, j1, j2, j3⟩ := cell2b HS4.out.2.1
        obtain ⟨i0, i1, i2, i3⟩ := cell2b (Blk.drew HS4.out.2.1)
        clear hgd hA hg1 h2 k2 k2d hA1
        unfold anR tokV spotV
        go_wp2_with fail
        go_region
        all_goals
          go_wp2
          obtain ⟨hB0, hF0⟩ := tr_end HS4.out (.int .i64 e0) (.int .i64 q0)
          have hB := Blk.drew hB0
          have HF := Lib.hid (Below.drew hF0)
          clear s0 s1 s2 s3 j0 j1 j2 j3 i0 i1 i2 i3 hB0 hF0
          obtain ⟨d0, d1, _, _⟩ := cell2b hB
          refine bodyPost_ret (v := .tuple #[.slice none 0 0, spotV e0 q0]) ?_ rfl ?_
          · simp [results, Tryd.results16, go_sem, d0, d1, spotV]
          · exact ⟨HF.out, .inl ⟨e0, q0, HRR.out, rfl⟩⟩
      | ok k x n pp q =>
        obtain ⟨rfl, hq1, hq2⟩ := hg1.2 _ _ _ _ _ hA1
        obtain ⟨b, hb0⟩ : ∃ b, worB (atB S q : Int) = b := ⟨_, rfl⟩
        have haq := fun W => HAT.out q W
        have hwq := fun W => HWB.out (atB S q : Int) W
        rw [hb0] at hwq
        have HAQ := Lib.hid haq
        have HWQ := Lib.hid hwq
        obtain ⟨h2, k2⟩ := two_blk w3 (.int .u8 k) (.string x) (.int .u64 n) (.int .i64 pp) (.int .i64 0) (.int .i64 0) 32 26
        have HS4 := Lib.hid (tr_step HS3.out (bj13 (one_alloc (w := w3) (o := .cells #[.int .u8 k, .string x, .int .u64 n, .int .i64 pp] 32)) (one_alloc (o := .cells #[.int .i64 0, .int .i64 0] 26))))
        obtain ⟨s0, s1, _, _⟩ := cell2b k2
        obtain ⟨t0, t1, t2, t3⟩ := cell4b h2
        have hal' : aloA S pp = if k ≠ 6 ∧ worB (atB S q : Int) = true then .bad 6 q else .ok k x n pp q := by unfold aloA; rw [hA1]; rfl
        clear haq hwq k2 hgd hg1 hA1
        by_cases hbadq : k ≠ 6 ∧ b = true
        · obtain ⟨hk6, rfl⟩ := hbadq
          have hA : aloA S pp = .bad 6 q := by rw [hal', if_pos ⟨hk6, hb0⟩]
          have hkb : ((k : Int) != 6) = true := by rw [bne_iff_ne]; omega
          have HRR := Lib.hid (show R = .error (6, q) by rw [← HE.out, toksA_bad hps hA]; rfl)
          clear hA hal' hb0 hk6 h2
          generalize atB S q = cq at *
          unfold anR tokV spotV
          go_wp2_with fail
          refine (HAQ.out _).mono ?_
          rintro e5 w5 ⟨rfl, hw5⟩
          have HS5 := Lib.hid (show Tr w acc _ w5 from hw5 ▸ HS4.out)
          clear hw5 s0 s1 t0 t1 t2 t3
          go_wp2_with fail
          refine (HWQ.out _).mono ?_
          rintro e6 w6 ⟨rfl, rfl⟩
          obtain ⟨j0, j1, j2, j3⟩ := cell2b HS5.out.2.1
          go_wp2
          obtain ⟨hB, hF⟩ := tr_end HS5.out (.int .i64 6) (.int .i64 q)
          have HF := Lib.hid hF
          clear j0 j1 j2 j3 hF
          obtain ⟨d0, d1, _, _⟩ := cell2b hB
          refine bodyPost_ret (v := .tuple #[.slice none 0 0, spotV ((6 : Nat) : Int) q]) ?_ rfl ?_
          · simp [results, Tryd.results16, go_sem, d0, d1, spotV]
          · exact ⟨HF.out, .inl ⟨6, q, HRR.out, rfl⟩⟩
        · have hA : aloA S pp = .ok k x n pp q := by rw [hal', if_neg (fun hh => hbadq ⟨hh.1, by rw [← hb0]; exact hh.2⟩)]
          have HQ := Lib.hid (show toksj (acc ++ [(k, x, n, pp)]) (toksA S f (q + sk ((bts S).drop q))) = R by rw [← HE.out, toksA_ok hps hA])
          have HZ := Lib.hid (sk_size S q hq2)
          have HLEN := Lib.hid (show (acc ++ [(k, x, n, pp)]).length = acc.length + 1 by simp)
          have HH2 := Lib.hid h2
          clear hA hal' hb0 HE h2
          generalize hcq : atB S q = cq at *
          clear hcq
          unfold anR tokV spotV
          by_cases hk6 : k = 6
          · have hkb : ((k : Int) != 6) = false := by rw [hk6]; rfl
            have HS5 := Lib.hid (tr_step HS4.out (one_alloc (o := .cells #[.int .u8 k, .string x, .int .u64 n, .int .i64 pp] 32)))
            have hrd := reads4 ((w3.alloc (.cells #[.int .u8 k, .string x, .int .u64 n, .int .i64 pp] 32)).alloc (.cells #[.int .i64 0, .int .i64 0] 26)) (w3.heap.size + 1 + 1) (.int .u8 k) (.string x) (.int .u64 n) (.int .i64 pp) (by simp)
            clear hbadq hk6
            go_wp2_with (at_builtin; refine wpList_append_any _ rfl (.tmp 41) (.tmp 43) 23 rfl (w.heap.size + 1) 32 iv _ 4 40 Tryd.underlying23 hv1 hv2 hv3 hv4 rfl (by omega) _ acc.length (tkCs acc) rfl HS5.out.1 (w3.heap.size + 1 + 1 + 1) (some ⟨w3.heap.size + 1 + 1, 0, none⟩) 1 1 [.int .u8 k, .string x, .int .u64 n, .int .i64 pp] rfl hrd (by intro u hu; simp at hu; rcases hu with rfl | rfl | rfl | rfl <;> rfl) (by simp only [maxLen]; omega) (by omega) HS5.out.2.2.2 ?_; intro v1 w4 hown1 hg1 hat1; (have HS6 := Lib.hid (tr_grown (acc' := acc ++ [(k, x, n, pp)]) HS5.out (by rw [HLEN.out, tkCs_snoc]; exact hown1) hg1)); clear hown1 hg1 hat1 hrd)
            go_wp2_with fail
            refine (HSK.out q _ hq2).mono ?_
            rintro e5 w5 ⟨rfl, rfl⟩
            go_wp2
            go_roundw
            case rel => exact ⟨_, f, acc ++ [(k, x, n, pp)], rfl, HZ.out, by omega, by rw [HLEN.out]; omega, HQ.out, HS6.out⟩
            case measure => simp [intOf]; omega
          · have hkb : ((k : Int) != 6) = true := by rw [bne_iff_ne]; omega
            obtain rfl : b = false := by
              cases b with
              | true => exact absurd ⟨hk6, rfl⟩ hbadq
              | false => rfl
            clear hbadq hk6
            go_wp2_with fail
            refine (HAQ.out _).mono ?_
            rintro e5 w5 ⟨rfl, hw5⟩
            have HS5 := Lib.hid (show Tr w acc _ w5 from hw5 ▸ HS4.out)
            have HH5 := Lib.hid (show Blk w5 w3.heap.size 32 #[.int .u8 k, .string x, .int .u64 n, .int .i64 pp] from hw5 ▸ HH2.out)
            clear hw5 s0 s1 t0 t1 t2 t3
            obtain ⟨t0, t1, t2, t3⟩ := cell4b HH5.out
            go_wp2_with fail
            refine (HWQ.out _).mono ?_
            rintro e6 w6 ⟨rfl, rfl⟩
            have HS5 := Lib.hid (tr_step HS5.out (one_alloc (o := .cells #[.int .u8 k, .string x, .int .u64 n, .int .i64 pp] 32)))
            have hrd := reads4 w5 w5.heap.size (.int .u8 k) (.string x) (.int .u64 n) (.int .i64 pp) rfl
            go_wp2_with (at_builtin; refine wpList_append_any _ rfl (.tmp 41) (.tmp 43) 23 rfl (w.heap.size + 1) 32 iv _ 4 40 Tryd.underlying23 hv1 hv2 hv3 hv4 rfl (by omega) _ acc.length (tkCs acc) rfl HS5.out.1 (w5.heap.size + 1) (some ⟨w5.heap.size, 0, none⟩) 1 1 [.int .u8 k, .string x, .int .u64 n, .int .i64 pp] rfl hrd (by intro u hu; simp at hu; rcases hu with rfl | rfl | rfl | rfl <;> rfl) (by simp only [maxLen]; omega) (by omega) HS5.out.2.2.2 ?_; intro v1 w4 hown1 hg1 hat1; (have HS6 := Lib.hid (tr_grown (acc' := acc ++ [(k, x, n, pp)]) HS5.out (by rw [HLEN.out, tkCs_snoc]; exact hown1) hg1)); clear hown1 hg1 hat1 hrd)
            go_wp2_with fail
            refine (HSK.out q _ hq2).mono ?_
            rintro e5 w8 ⟨rfl, rfl⟩
            go_wp2
            go_roundw
            case rel => exact ⟨_, f, acc ++ [(k, x, n, pp)], rfl, HZ.out, by omega, by rw [HLEN.out]; omega, HQ.out, HS6.out⟩
            case measure => simp [intOf]; omega
    · have HRR := Lib.hid (show R = .ok acc by rw [← HE.out, toksA_end hps]; simp [toksj])
      have hpI : ¬ (p : Int) < S.size := by omega
      obtain ⟨j0, j1, j2, j3⟩ := cell2b HS.out.2.1
      clear HE
      go_wp2
      obtain ⟨hB, hF⟩ := tr_end HS.out (.int .i64 0) (.int .i64 0)
      have HF := Lib.hid hF
      have HO := Lib.hid (tr_own HS.out (.int .i64 0) (.int .i64 0))
      clear j0 j1 j2 j3 hF
      obtain ⟨d0, d1, _, _⟩ := cell2b hB
      refine bodyPost_ret (v := .tuple #[.slice A acc.length c, spotV 0 0]) ?_ rfl ?_
      · simp [results, Tryd.results16, go_sem, d0, d1, spotV]
      · exact ⟨HF.out, .inr ⟨acc, A, c, HRR.out, rfl, HO.out⟩⟩
theorem rtokens_any (S : ByteArray) (w : World) : Calls Tryd.prog 16 #[.string S] w (TkP (tokensA S) w) := by
  rcases Nat.lt_or_ge 4096 S.size with h | h
  · exact rtokens_long S w h
  · exact rtokens_short S w h
end Go.Proofs.YtibnmkjabpoppaaDoor
