/- Layer 13: lex.Tokens. Conditions: those of each lemma. -/
import Derived.Test.YtibnmkjabpoppaaGreatDoorLx20
namespace Go.Proofs.YtibnmkjabpoppaaGreatDoor
open Go Go.RowKit
set_option linter.unusedVariables false
set_option linter.unusedSimpArgs false
/-- tokens, as they lie in a row -/
def tkCs (L : List TK) : List Value := L.flatMap fun t => [.int .u8 t.1, .string t.2.1, .int .u64 t.2.2.1, .int .i64 t.2.2.2]
theorem tkCs_snoc (L : List TK) (k : Nat) (x : ByteArray) (n p : Nat) : tkCs (L ++ [(k, x, n, p)]) = tkCs L ++ [.int .u8 k, .string x, .int .u64 n, .int .i64 p] := by simp [tkCs]
theorem own_below {W W' : World} {base : Nat} {e : TypeId} {size n : Nat} {v : Value} {xs : List Value} (h : W.ownsRow base e size v n xs) (hb : Below W.heap.size W W') : W'.ownsRow base e size v n xs := by
  obtain ⟨hl, h | ⟨g, cap, cur, hv, hbg, hg, hr⟩⟩ := h
  · exact ⟨hl, .inl h⟩
  · refine ⟨hl, .inr ⟨g, cap, cur, hv, hbg, ?_, hr⟩⟩
    rw [hb.block g (Array.getElem?_eq_some_iff.1 hg).1]
    exact hg
theorem own_bx {W W' : World} {g0 base : Nat} {e : TypeId} {size n : Nat} {v : Value} {xs : List Value} (h : W.ownsRow base e size v n xs) (hb : Bx g0 W W') (hg0 : g0 < base) : W'.ownsRow base e size v n xs := by
  obtain ⟨hl, h | ⟨g, cap, cur, hv, hbg, hg, hr⟩⟩ := h
  · exact ⟨hl, .inl h⟩
  · refine ⟨hl, .inr ⟨g, cap, cur, hv, hbg, ?_, hr⟩⟩
    rw [hb.2.2.2.2 g (Array.getElem?_eq_some_iff.1 hg).1 (by omega)]
    exact hg
theorem own_base {W : World} {base base' : Nat} {e : TypeId} {size n : Nat} {v : Value} {xs : List Value} (h : W.ownsRow base e size v n xs) (hb : base' ≤ base) : W.ownsRow base' e size v n xs := by
  obtain ⟨hl, h | ⟨g, cap, cur, hv, hbg, hg⟩⟩ := h
  · exact ⟨hl, .inl h⟩
  · exact ⟨hl, .inr ⟨g, cap, cur, hv, Nat.le_trans hb hbg, hg⟩⟩
theorem own_form {W : World} {base : Nat} {e : TypeId} {size n : Nat} {v : Value} {xs : List Value} (h : W.ownsRow base e size v n xs) : ∃ A c, v = .slice A n c := by
  rcases h.2 with ⟨h0, hn⟩ | ⟨g, cap, cur, hv, _⟩
  · exact ⟨none, 0, by rw [h0, hn]⟩
  · exact ⟨_, cap, hv⟩
theorem reads4 (W : World) (g : Nat) (a b c d : Value) (hg : W.heap.size = g) : Reads (W.alloc (.cells #[a, b, c, d] 34)) (g + 1) 4 (some ⟨g, 0, none⟩) 1 [a, b, c, d] := by
  subst hg
  refine ⟨rfl, fun _ => ⟨_, rfl, by simp, fun j u hj => ?_⟩⟩
  match j, hj with
  | 0, hj => simp at hj; subst hj; simp [Addr.add]
  | 1, hj => simp at hj; subst hj; simp [Addr.add]
  | 2, hj => simp at hj; subst hj; simp [Addr.add]
  | 3, hj => simp at hj; subst hj; simp [Addr.add]
  | j + 4, hj => simp at hj
theorem tok_info : (Tryz.prog.info? 34).map (fun i => (i.zero, i.size, i.bytes)) = some (some (.agg #[.int .u8 0, .string ⟨#[]⟩, .int .u64 0, .int .i64 0]), 4, 40) := by kernel_rfl
/-- what Tokens answers -/
def TkP (R : Except (Nat × Nat) (List TK)) (w : World) (r : Ending) (w' : World) : Prop := Below w.heap.size w w' ∧ ((∃ e q : Nat, R = .error (e, q) ∧ r = .returned (.tuple #[.slice none 0 0, spotV e q])) ∨ (∃ l A c, R = .ok l ∧ r = .returned (.tuple #[.slice A l.length c, spotV 0 0]) ∧ w'.ownsRow w.heap.size 34 4 (.slice A l.length c) l.length (tkCs l)))
def Ts (w : World) (S : ByteArray) (p : Nat) (acc : List TK) (v : Value) (W : World) : Prop := Rd W (w.heap.size + 1) S p ∧ W.ownsRow (w.heap.size + 2) 34 4 v acc.length (tkCs acc) ∧ Blk W w.heap.size 29 #[.int .i64 0, .int .i64 0] ∧ Below w.heap.size w W ∧ w.heap.size + 2 ≤ W.heap.size
theorem ts_step {w W W' : World} {S : ByteArray} {p : Nat} {acc : List TK} {v : Value} (h : Ts w S p acc v W) (hb : Below W.heap.size W W') : Ts w S p acc v W' :=
  ⟨rd_step h.1 hb, own_below h.2.1 hb, Blk.below h.2.2.1 hb (Blk.lt h.2.2.1), below_low h.2.2.2.1 h.2.2.2.1.size hb, Nat.le_trans h.2.2.2.2 hb.size⟩
theorem ts_bx {w W W' : World} {S : ByteArray} {p q : Nat} {acc : List TK} {v : Value} (h : Ts w S p acc v W) (hr : Rd W' (w.heap.size + 1) S q) (hb : Bx (w.heap.size + 1) W W') : Ts w S q acc v W' :=
  ⟨hr, own_bx h.2.1 hb (by omega), bx_blk h.2.2.1 hb (by omega), bx_below h.2.2.2.1 hb (by omega) h.2.2.2.1.size, Nat.le_trans h.2.2.2.2 hb.2.2.2.1⟩
theorem ts_grown {w W W' : World} {S : ByteArray} {p : Nat} {acc acc' : List TK} {v v' : Value} (h : Ts w S p acc v W) (ho : W'.ownsRow (w.heap.size + 2) 34 4 v' acc'.length (tkCs acc')) (hg : W.grownBy W' v.ownBlock) : Ts w S p acc' v' W' := by
  have hlt : ∀ z, v.ownBlock = some z → w.heap.size + 2 ≤ z ∧ z < W.heap.size := fun z hz => h.2.1.lt z hz
  exact ⟨Blk.grown h.1 hg (fun e => by have := hlt _ e.symm; omega), ho, Blk.grown h.2.2.1 hg (fun e => by have := hlt _ e.symm; omega), h.2.2.2.1.grown hg h.2.2.2.1.size (fun z hz => by have := hlt z hz; omega), Nat.le_trans h.2.2.2.2 hg.size⟩
theorem tb_lt {W : World} (h : Tb W) : 1 < W.heap.size ∧ 0 < W.heap.size := by
  have key : ∀ {n : String} {q : Nat} {cs : Array Value}, Tryz.prog.globalNamed n = some q → W.var? Tryz.prog n = some cs → q < W.heap.size := by
    intro n q cs hg h
    unfold World.var? at h
    rw [hg] at h
    simp only [Option.bind_some] at h
    rcases Nat.lt_or_ge q W.heap.size with h' | h'
    · exact h'
    · rw [Array.getElem?_eq_none h'] at h; cases h
  exact ⟨key gn_sg h.1, key gn_wd h.2⟩
theorem tb_low {w W : World} (h : Tb w) (hb : Below w.heap.size w W) : Tb W := tb_step h hb
theorem rd_new (w : World) (S : ByteArray) (o : Obj) : Rd ((w.alloc o).alloc (.cells #[.string S, .int .i64 0] 52)) (w.heap.size + 1) S 0 := by
  have h := Blk.new (w.alloc o) 52 #[.string S, .int .i64 0]
  have e1 : (w.alloc o).heap.size = w.heap.size + 1 := by simp
  rw [e1] at h
  exact h
set_option maxRecDepth 100000 in
set_option maxHeartbeats 8000000 in
theorem tokens_long (S : ByteArray) (w : World) (hl : 4096 < S.size) : Calls Tryz.prog 8 #[.string S] w (TkP (tokensA S) w) := by
  have HR := Lib.hid (show tokensA S = .error (3, 4096) from if_pos hl)
  have hI : (4096 : Int) < S.size := by omega
  clear hl
  go_enter Tryz.func8, Tryz.ntmps8
  go_wp2
  have h := Blk.new w 29 #[.int .i64 3, .int .i64 4096]
  obtain ⟨d0, d1, _, _⟩ := cell2b h
  refine bodyPost_ret (v := .tuple #[.slice none 0 0, spotV ((3 : Nat) : Int) ((4096 : Nat) : Int)]) ?_ rfl ?_
  · simp [results, Tryz.results8, go_sem, d0, d1, spotV]
  · exact ⟨one_alloc, .inl ⟨3, 4096, HR.out, rfl⟩⟩
set_option maxRecDepth 100000 in
set_option maxHeartbeats 8000000 in
theorem tokens_short (S : ByteArray) (w : World) (hT : Tb w) (hE : Er w) (hl : S.size ≤ 4096) : Calls Tryz.prog 8 #[.string S] w (TkP (tokensA S) w) := by
  obtain ⟨iv, hv1, hv2, hv3, hv4⟩ := info_parts tok_info
  obtain ⟨R, hR⟩ : ∃ R, tokensA S = R := ⟨_, rfl⟩
  have HR := Lib.hid (show toksj [] (toksA S (S.size + 1) (0 + sk ((bts S).drop 0))) = R by
    rw [← hR, List.drop_zero, Nat.zero_add]
    unfold tokensA
    rw [if_neg (by omega)]
    cases toksA S (S.size + 1) (sk (bts S)) <;> rfl)
  rw [hR]
  clear hR
  have hI : (S.size : Int) ≤ 4096 := by omega
  have HT := Lib.hid hT
  have HE := Lib.hid hE
  have htl := tb_lt hT
  have hel := er_lt hE
  have n0 : w.heap.size + 1 ≠ 1 := by omega
  have n1 : w.heap.size + 1 ≠ 0 := by omega
  have n2 : w.heap.size + 1 ≠ 7 := by omega
  have HSK := Lib.hid (fun (p : Nat) (W : World) (h : Rd W (w.heap.size + 1) S p) (hp : p ≤ S.size) => skip_any (w.heap.size + 1) S p W h hp (by omega))
  have HKI := Lib.hid (fun (p : Nat) (W : World) (h : Rd W (w.heap.size + 1) S p) (hp : p ≤ S.size) => kind_any (w.heap.size + 1) S p W h hp (by omega))
  have HAL := Lib.hid (fun (p : Nat) (W : World) (h : Rd W (w.heap.size + 1) S p) (hb : Below w.heap.size w W) (hp : p < S.size) => alone_at (w.heap.size + 1) S p W h (tb_low hT hb) (er_step hE hb) n0 n1 n2 hp (by omega))
  have HS0 := Lib.hid (show Ts w S 0 [] (.slice none 0 0) ((w.alloc (.cells #[.int .i64 0, .int .i64 0] 29)).alloc (.cells #[.string S, .int .i64 0] 52)) from
    ⟨rd_new w S _, World.ownsRow_nil _ _ _ _, (Blk.new w _ _).alloc _, bj13 one_alloc one_alloc, by simp⟩)
  clear hT hE htl hel n0 n1 n2
  go_enter Tryz.func8, Tryz.ntmps8
  go_wp2_with fail
  refine (HSK.out 0 _ HS0.out.1 (Nat.zero_le _)).mono ?_
  rintro e w1 ⟨rfl, hr1, hb1⟩
  have HS1 := Lib.hid (ts_bx HS0.out hr1 hb1)
  have HZ := Lib.hid (sk_size S 0 (Nat.zero_le _))
  clear hr1 hb1 HS0
  go_wp2
  go_loopw [5] (fun v wr => ∃ (p f : Nat) (acc : List TK), p ≤ S.size ∧ S.size < p + f ∧ acc.length ≤ p ∧ toksj acc (toksA S f p) = R ∧ Ts w S p acc v wr) (fun _ wr => S.size - rdAt (w.heap.size + 1) wr)
  case atStart => exact ⟨_, S.size + 1, [], HZ.out, by omega, Nat.zero_le _, HR.out, HS1.out⟩
  case round =>
    clear HS1 HR HZ
    obtain ⟨p, f, acc, hp, hf, hal, hE, hS⟩ := hrel
    have HE := Lib.hid hE
    have HS := Lib.hid hS
    obtain ⟨A, c, rfl⟩ := own_form hS.2.1
    have M0 := Lib.hid (rd_at hS.1)
    obtain ⟨c0, c1, f0, f1⟩ := rd_cells hS.1
    clear hE hS
    obtain ⟨f, rfl⟩ : ∃ f', f = f' + 1 := ⟨f - 1, by omega⟩
    by_cases hps : p < S.size
    · have hpI : (p : Int) < S.size := by omega
      have hgd := good_alo S p hps
      go_wp2_with fail
      refine (HKI.out p _ HS.out.1 hp).mono ?_
      rintro e w2 ⟨rfl, hb2⟩
      have HS2 := Lib.hid (ts_step HS.out hb2)
      clear hb2 c0 c1 f0 f1
      go_wp2_with fail
      refine (HAL.out p _ HS2.out.1 HS2.out.2.2.2.1 hps).mono ?_
      rintro e w3 ⟨rfl, ⟨q, hr3, hq3⟩, hb3⟩
      have HS3 := Lib.hid (ts_bx HS2.out hr3 hb3)
      clear hr3 hb3 HS2
      cases hA : aloA S p with
      | bad e0 q0 =>
        have he0 : ((e0 : Int) != 0) = true := by rw [bne_iff_ne]; have := (hgd.1 e0 q0 hA).1; omega
        have HRR := Lib.hid (show R = .error (e0, q0) by rw [← HE.out, toksA_bad hps hA]; rfl)
        obtain ⟨h2, k2⟩ := two_blk w3 (.int .u8 0) (.string ⟨#[]⟩) (.int .u64 0) (.int .i64 0) (.int .i64 e0) (.int .i64 q0) 34 29
        have HS4 := Lib.hid (ts_step HS3.out (bj13 (one_alloc (w := w3) (o := .cells #[.int .u8 0, .string ⟨#[]⟩, .int .u64 0, .int .i64 0] 34)) (one_alloc (o := .cells #[.int .i64 e0, .int .i64 q0] 29))))
        have k2d := Blk.drew k2
        obtain ⟨s0, s1, _, _⟩ := cell2b k2
        obtain ⟨s2, s3, _, _⟩ := cell2b k2d
        obtain ⟨j0, j1, j2, j3⟩ := cell2b HS4.out.2.2.1
        obtain ⟨i0, i1, i2, i3⟩ := cell2b (Blk.drew HS4.out.2.2.1)
        clear hgd hA hq3 h2 k2 k2d
        unfold anT tokV spotV
        go_wp2_with fail
        go_region
        all_goals
          go_wp2
          have hB := Blk.drew ((HS4.out.2.2.1.set_ 0 (.int .i64 e0)).set_ 1 (.int .i64 q0))
          have HF := Lib.hid (Below.drew ((HS4.out.2.2.2.1.setCell (p := ⟨w.heap.size, 0, none⟩) (Nat.le_refl _) (.int .i64 e0)).setCell (p := ⟨w.heap.size, 1, none⟩) (Nat.le_refl _) (.int .i64 q0)))
          clear s0 s1 s2 s3 j0 j1 j2 j3 i0 i1 i2 i3
          obtain ⟨d0, d1, _, _⟩ := cell2b hB
          refine bodyPost_ret (v := .tuple #[.slice none 0 0, spotV e0 q0]) ?_ rfl ?_
          · simp [results, Tryz.results8, go_sem, d0, d1, spotV]
          · exact ⟨HF.out, .inl ⟨e0, q0, HRR.out, rfl⟩⟩
      | ok k x n pp q0 =>
        obtain ⟨rfl, hq1, hq2⟩ := hgd.2 _ _ _ _ _ hA
        obtain rfl : q = q0 := hq3 q0 (by rw [hA]; rfl)
        have HQ := Lib.hid (show toksj (acc ++ [(k, x, n, pp)]) (toksA S f (q + sk ((bts S).drop q))) = R by rw [← HE.out, toksA_ok hps hA])
        have HZ := Lib.hid (sk_size S q hq2)
        obtain ⟨h2, k2⟩ := two_blk w3 (.int .u8 k) (.string x) (.int .u64 n) (.int .i64 pp) (.int .i64 0) (.int .i64 0) 34 29
        have HS4 := Lib.hid (ts_step HS3.out (bj13 (one_alloc (w := w3) (o := .cells #[.int .u8 k, .string x, .int .u64 n, .int .i64 pp] 34)) (one_alloc (o := .cells #[.int .i64 0, .int .i64 0] 29))))
        obtain ⟨s0, s1, _, _⟩ := cell2b k2
        obtain ⟨t0, t1, t2, t3⟩ := cell4b h2
        have HS5 := Lib.hid (ts_step HS4.out (one_alloc (o := .cells #[.int .u8 k, .string x, .int .u64 n, .int .i64 pp] 34)))
        have hrd := reads4 ((w3.alloc (.cells #[.int .u8 k, .string x, .int .u64 n, .int .i64 pp] 34)).alloc (.cells #[.int .i64 0, .int .i64 0] 29)) (w3.heap.size + 1 + 1) (.int .u8 k) (.string x) (.int .u64 n) (.int .i64 pp) (by simp)
        have hbs : w.heap.size + 2 ≤ (((w3.alloc (.cells #[.int .u8 k, .string x, .int .u64 n, .int .i64 pp] 34)).alloc (.cells #[.int .i64 0, .int .i64 0] 29)).alloc (.cells #[.int .u8 k, .string x, .int .u64 n, .int .i64 pp] 34)).heap.size := HS5.out.2.2.2.2
        have HBS := Lib.hid hbs
        have HLEN := Lib.hid (show (acc ++ [(k, x, n, pp)]).length = acc.length + 1 by simp)
        clear hgd hA hq3 h2 k2 hbs HE HS HS3 HS4
        unfold anT tokV spotV
        go_wp2_with (at_builtin; refine wpList_append_any _ rfl (.tmp 37) (.tmp 39) 22 rfl (w.heap.size + 2) 34 iv _ 4 40 Tryz.underlying22 hv1 hv2 hv3 hv4 rfl (by omega) _ acc.length (tkCs acc) rfl HS5.out.2.1 (w3.heap.size + 1 + 1 + 1) (some ⟨w3.heap.size + 1 + 1, 0, none⟩) 1 1 [.int .u8 k, .string x, .int .u64 n, .int .i64 pp] rfl hrd (by intro u hu; simp at hu; rcases hu with rfl | rfl | rfl | rfl <;> rfl) (by simp only [maxLen]; omega) (by omega) HBS.out ?_; intro v1 w4 hown1 hg1 hat1; (have HS6 := Lib.hid (ts_grown (acc' := acc ++ [(k, x, n, pp)]) HS5.out (by rw [HLEN.out, tkCs_snoc]; exact hown1) hg1)); clear hown1 hg1 hat1 hrd)
        go_wp2_with fail
        refine (HSK.out q _ HS6.out.1 hq2).mono ?_
        rintro e w5 ⟨rfl, hr5, hb5⟩
        have HS7 := Lib.hid (ts_bx HS6.out hr5 hb5)
        clear hr5 hb5 HS6 HS5
        go_wp2
        go_roundw
        case rel => exact ⟨_, f, acc ++ [(k, x, n, pp)], HZ.out, by omega, by rw [HLEN.out]; omega, HQ.out, HS7.out⟩
        case measure =>
          rw [M0.out, rd_at HS7.out.1]
          omega
    · have HRR := Lib.hid (show R = .ok acc by rw [← HE.out, toksA_end hps]; simp [toksj])
      have hpI : ¬ (p : Int) < S.size := by omega
      obtain ⟨j0, j1, j2, j3⟩ := cell2b HS.out.2.2.1
      clear HE
      go_wp2
      have hB := (HS.out.2.2.1.set_ 0 (.int .i64 0)).set_ 1 (.int .i64 0)
      have HF := Lib.hid ((HS.out.2.2.2.1.setCell (p := ⟨w.heap.size, 0, none⟩) (Nat.le_refl _) (.int .i64 0)).setCell (p := ⟨w.heap.size, 1, none⟩) (Nat.le_refl _) (.int .i64 0))
      have HO := Lib.hid (own_base (own_bx (own_bx HS.out.2.1 (bx_set w.heap.size _ 0 (.int .i64 0)) (by omega)) (bx_set w.heap.size _ 1 (.int .i64 0)) (by omega)) (show w.heap.size ≤ w.heap.size + 2 by omega))
      clear j0 j1 j2 j3
      obtain ⟨d0, d1, _, _⟩ := cell2b hB
      refine bodyPost_ret (v := .tuple #[.slice A acc.length c, spotV 0 0]) ?_ rfl ?_
      · simp [results, Tryz.results8, go_sem, d0, d1, spotV]
      · exact ⟨HF.out, .inr ⟨acc, A, c, HRR.out, rfl, HO.out⟩⟩
theorem tokens_any (S : ByteArray) (w : World) (hT : Tb w) (hE : Er w) : Calls Tryz.prog 8 #[.string S] w (TkP (tokensA S) w) := by
  rcases Nat.lt_or_ge 4096 S.size with h | h
  · exact tokens_long S w h
  · exact tokens_short S w hT hE h
end Go.Proofs.YtibnmkjabpoppaaGreatDoor
