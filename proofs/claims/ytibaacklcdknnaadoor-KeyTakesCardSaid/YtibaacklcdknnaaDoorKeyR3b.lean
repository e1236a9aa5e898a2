/- counterfoilref08.First, a number. Condition: the text has no more than a hundred thousand bytes. -/
import Derived.Test.YtibaacklcdknnaaDoorKeyR3
namespace Go.Proofs.YtibaacklcdknnaaDoor
open Go.RowKit
set_option linter.unusedVariables false
set_option maxRecDepth 100000 in
set_option maxHeartbeats 8000000 in
theorem refFirst_2 (s : ByteArray) (r : List Nat) (w : World) (hsz : s.size ≤ 100000) (h : bts s = 2 :: r) :
    Calls Tryd.prog 9 #[.string s] w (FirP (bts s) w) := by
  have hl0 := bts_length s
  have h0 : 0 < s.size := by rw [h] at hl0; simp at hl0; omega
  have hb0 := byte_at s 0 h0
  rw [h] at hb0
  simp only [List.getD_cons_zero] at hb0
  have hsI : (s.size : Int) ≤ 100000 := by omega
  have hsI0 : (0 : Int) < s.size := by omega
  have hs0 : ((s.size : Int) == 0) = false := by rw [beq_eq_false_iff_ne]; omega
  by_cases h9 : s.size < 9
  · have HO := Lib.hid (show oneT (bts s) = none by
      rw [h] at hl0 ⊢
      unfold oneT
      simp only [↓reduceIte]
      rw [if_neg (by omega), if_pos (by simp at hl0; omega)])
    have k9 : (s.size : Int) < 9 := by omega
    clear h hl0 h9
    go_enter Tryd.func9, Tryd.ntmps9
    go_wp2
    have hs := fs_new w (0, 0, ⟨#[]⟩)
    first
      | (obtain ⟨e0, e1, e2, _, _, _⟩ := cell3 (blk3_set hs.1 (.int .u8 0) (.int .i64 0) (.string ⟨#[]⟩)); exact bodyPost_ret (v := .tuple #[.agg #[.int .u8 0, .int .i64 0, .string ⟨#[]⟩], .int .i64 0, .bool false]) (by simp [results, Tryd.results9, go_sem, e0, e1, e2]) rfl (fir_no HO.out (below3_set hs.2.2 _ _ _)))
      | (obtain ⟨e0, e1, e2, _, _, _⟩ := cell3 hs.1; exact bodyPost_ret (v := .tuple #[.agg #[.int .u8 0, .int .i64 0, .string ⟨#[]⟩], .int .i64 0, .bool false]) (by simp [results, Tryd.results9, go_sem, e0, e1, e2]) rfl (fir_no HO.out hs.2.2))
  · have k9 : (9 : Int) ≤ s.size := by omega
    have hx : bts (s.extract 1 9) = r.take 8 := by
      have h2 := bts_cutn s 1 8
      rw [h] at h2
      exact h2
    have hvl : (s.extract 1 9).size ≤ 8 := by rw [ByteArray.size_extract]; omega
    have hrv := fun W => refValue_any (s.extract 1 9) W hvl
    rw [hx] at hrv
    have hv64 := val_lt 0 (r.take 8) (fun y hy => bts_lt s y (by rw [h]; exact List.mem_cons_of_mem _ (List.mem_of_mem_take hy)))
    have hr8 : (r.take 8).length = 8 := by rw [List.length_take]; rw [h] at hl0; simp at hl0; omega
    rw [hr8] at hv64
    have e256 : (256 : Nat) ^ 8 = 18446744073709551616 := by decide
    rw [e256] at hv64
    have HP : Hid (preF (bts s) = some ((1, (val 0 (r.take 8) : Int) - 9223372036854775808, ⟨#[]⟩), 9)) := Lib.hid (by
      rw [h] at hl0 ⊢
      unfold preF
      simp only [↓reduceIte]
      rw [if_neg (by omega), if_neg (by simp at hl0; omega)]; rfl)
    generalize val 0 (r.take 8) = V at *
    have hX : IntKind.i64.wrap (IntKind.u64.wrap ((V : Int) + 9223372036854775808)) = (V : Int) - 9223372036854775808 := by rw [IntKind.wrap_i64, IntKind.wrap_u64]; omega
    generalize hY : IntKind.u64.wrap ((V : Int) + 9223372036854775808) = Y at *
    generalize hQ : (V : Int) - 9223372036854775808 = Q at *
    obtain ⟨p, q, x, n, hv⟩ : ∃ (p q : Int) (x : ByteArray) (n : Nat), ((p, q, x), n) = (((1 : Int), Q, (⟨#[]⟩ : ByteArray)), 9) := ⟨_, _, _, _, rfl⟩
    rw [← hv] at HP
    have HV := Lib.hid hv
    have HRV := Lib.hid hrv
    have HY := Lib.hid hY
    have HX := Lib.hid hX
    obtain ⟨VZ, hVZ⟩ : ∃ z : Int, z = (V : Int) := ⟨_, rfl⟩
    rw [← hVZ] at HRV HY
    clear h hl0 h9 hx hvl hrv hv64 hr8 e256 hv hY hQ hX hVZ
    go_enter Tryd.func9, Tryd.ntmps9
    go_upto_block 0 with fail
    go_cut [6] (fun s6 wx => s6 = .int .i64 (n : Nat) ∧ Fs w (p, q, x) wx)
    case first =>
      have hv := HV.out
      simp only [Prod.mk.injEq] at hv
      obtain ⟨⟨rfl, rfl, rfl⟩, rfl⟩ := hv
      have hY := HY.out
      have hX := HX.out
      go_wp2_with fail
      refine (HRV.out _).mono ?_
      rintro e w2 ⟨rfl, rfl⟩
      obtain ⟨z0, z1, z2, _⟩ := fs_S (fs_new w (0, 0, ⟨#[]⟩))
      go_wp2_with fail
      go_meet
      first
        | exact ⟨rfl, fs_new w (1, _, ⟨#[]⟩)⟩
        | exact ⟨rfl, fs_set3 (fs_new w (0, 0, ⟨#[]⟩)) 1 _ ⟨#[]⟩⟩
    case rest =>
      clear HV HRV HY HX
      obtain ⟨rfl, hf⟩ := hcut
      have hfit := preF_fits (bts_lt s) HP.out
      have hck := fun W (h : Fs w (p, q, x) W) => fs_call h (refCheck_any (p, q, x) W hfit)
      have hs := fs_drew hf
      obtain ⟨y0, y1, y2, _⟩ := fs_S hf
      have hlen := bts_length s
      rcases oneT_test (bts_lt s) HP.out with ⟨ho, hk, hc, he⟩ | ⟨ho, hw⟩
      · have HO := Lib.hid ho
        rw [hlen] at hk
        have hone := fun W (h : Fs w (p, q, x) W) => fs_call h (refOne_any (p, q, x) W hfit hc)
        rw [he, ← cutl_bstr] at hone
        rw [hc] at hck
        have HCK := Lib.hid hck
        have HON := Lib.hid hone
        have k1 : (n : Int) ≤ s.size := by omega
        have k0 : (0 : Int) ≤ n := by omega
        have kd : decide (s.size < n) = false := decide_eq_false (by omega)
        have ke : decide ((s.size : Int) < n) = false := decide_eq_false (by omega)
        clear hck hone ho hc he hk hf hfit hlen HP
        go_wp2_with fail
        go_region_held3 (fun W => W.cell? ⟨w.heap.size + 1, 0, none⟩ = some (.int .u8 p) ∧ W.cell? ⟨w.heap.size + 1, 1, none⟩ = some (.int .i64 q) ∧ W.cell? ⟨w.heap.size + 1, 2, none⟩ = some (.string x) ∧ Fs w (p, q, x) W)
          (exact fs_S (by assumption))
          (first
            | (go_at_call 15; (with_reducible refine (HCK.out _ (by assumption)).mono ?_); rintro e w3 ⟨rfl, hs⟩)
            | (go_at_call 16; (with_reducible refine (HON.out _ (by assumption)).mono ?_); rintro e w4 ⟨rfl, hs⟩))
        all_goals
          obtain ⟨d0, d1, d2, g0, g1, g2⟩ := cell3 hs.1
          obtain ⟨x0, x1, x2, _⟩ := fs_S hs
          go_wp2
          obtain ⟨e0, e1, e2, _, _, _⟩ := cell3 (blk3_set hs.1 (.int .u8 p) (.int .i64 q) (.string x))
          exact bodyPost_ret (v := .tuple #[.agg #[.int .u8 p, .int .i64 q, .string x], .int .i64 (n : Nat), .bool true]) (by simp [results, Tryd.results9, go_sem, e0, e1, e2]) rfl (fir_yes HO.out (below3_set hs.2.2 _ _ _))
      · have HO := Lib.hid ho
        by_cases hk : s.size < n
        · have k1 : (s.size : Int) < n := by omega
          have kd : decide (s.size < n) = true := decide_eq_true hk
          have ke : decide ((s.size : Int) < n) = true := decide_eq_true k1
          have hs := hf
          clear hck ho hw hf hfit hlen HP
          go_wp2_with fail
          go_quiet (fail)
          all_goals
            obtain ⟨d0, d1, d2, g0, g1, g2⟩ := cell3 hs.1
            obtain ⟨x0, x1, x2, _⟩ := fs_S hs
            go_wp2
            replace hs := fs_drewN hs nq
            obtain ⟨e0, e1, e2, _, _, _⟩ := cell3 (blk3_set hs.1 (.int .u8 0) (.int .i64 0) (.string ⟨#[]⟩))
            exact bodyPost_ret (v := .tuple #[.agg #[.int .u8 0, .int .i64 0, .string ⟨#[]⟩], .int .i64 0, .bool false]) (by simp [results, Tryd.results9, go_sem, e0, e1, e2]) rfl (fir_no HO.out (below3_set hs.2.2 _ _ _))
        · have k1 : (n : Int) ≤ s.size := by omega
          have k0 : (0 : Int) ≤ n := by omega
          have kd : decide (s.size < n) = false := decide_eq_false (by omega)
          have ke : decide ((s.size : Int) < n) = false := decide_eq_false (by omega)
          by_cases hc : chk (p, q, x) = 0
          · have hone := fun W (h : Fs w (p, q, x) W) => fs_call h (refOne_any (p, q, x) W hfit hc)
            have hne : bstr (oneK (p, q, x)) ≠ s.extract 0 n := fun e => by
              rcases hw with h | h | h
              · rw [hlen] at h; omega
              · exact h hc
              · apply h
                rw [cutl_bstr] at e
                have e2 := congrArg bts e
                rw [bts_bstr _ (oneK_lt hfit.1 (chk_of hc).1), bts_bstr _ (fun y hy => bts_lt s y (List.mem_of_mem_take hy))] at e2
                exact e2
            have hnl := toList_ne (S := bstr (oneK (p, q, x))) (T := s.extract 0 n) (fun e => hne e.symm)
            generalize bstr (oneK (p, q, x)) = X at *
            rw [hc] at hck
            have HCK := Lib.hid hck
            have HON := Lib.hid hone
            clear hck hone ho hw hk hf hfit hlen hne hc HP
            go_wp2_with fail
            go_region_held3 (fun W => W.cell? ⟨w.heap.size + 1, 0, none⟩ = some (.int .u8 p) ∧ W.cell? ⟨w.heap.size + 1, 1, none⟩ = some (.int .i64 q) ∧ W.cell? ⟨w.heap.size + 1, 2, none⟩ = some (.string x) ∧ Fs w (p, q, x) W)
              (exact fs_S (by assumption))
              (first
                | (go_at_call 15; (with_reducible refine (HCK.out _ (by assumption)).mono ?_); rintro e w3 ⟨rfl, hs⟩)
                | (go_at_call 16; (with_reducible refine (HON.out _ (by assumption)).mono ?_); rintro e w4 ⟨rfl, hs⟩))
            all_goals
              obtain ⟨d0, d1, d2, g0, g1, g2⟩ := cell3 hs.1
              obtain ⟨x0, x1, x2, _⟩ := fs_S hs
              go_wp2
              obtain ⟨e0, e1, e2, _, _, _⟩ := cell3 (blk3_set hs.1 (.int .u8 0) (.int .i64 0) (.string ⟨#[]⟩))
              exact bodyPost_ret (v := .tuple #[.agg #[.int .u8 0, .int .i64 0, .string ⟨#[]⟩], .int .i64 0, .bool false]) (by simp [results, Tryd.results9, go_sem, e0, e1, e2]) rfl (fir_no HO.out (below3_set hs.2.2 _ _ _))
          · have hE : (chk (p, q, x) != 0) = true := by rw [bne_iff_ne]; exact hc
            generalize chk (p, q, x) = E at *
            have HCK := Lib.hid hck
            clear hck ho hw hk hf hfit hlen hc HP
            go_wp2_with fail
            first
              | (go_region_with ((go_at_call 15; (with_reducible refine (HCK.out _ (by first | exact hs | assumption)).mono ?_); rintro e w3 ⟨rfl, hs⟩)))
              | fail
            all_goals
              obtain ⟨d0, d1, d2, g0, g1, g2⟩ := cell3 hs.1
              obtain ⟨x0, x1, x2, _⟩ := fs_S hs
              go_wp2
              obtain ⟨e0, e1, e2, _, _, _⟩ := cell3 (blk3_set hs.1 (.int .u8 0) (.int .i64 0) (.string ⟨#[]⟩))
              exact bodyPost_ret (v := .tuple #[.agg #[.int .u8 0, .int .i64 0, .string ⟨#[]⟩], .int .i64 0, .bool false]) (by simp [results, Tryd.results9, go_sem, e0, e1, e2]) rfl (fir_no HO.out (below3_set hs.2.2 _ _ _))
end Go.Proofs.YtibaacklcdknnaaDoor
