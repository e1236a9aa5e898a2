/- counterfoilref08.First, a text. Condition: the text has no more than a hundred thousand bytes. -/
import Derived.Test.YtibaacklcdknnaaDoorKeyR3
namespace Go.Proofs.YtibaacklcdknnaaDoor
open Go.RowKit
set_option linter.unusedVariables false
set_option maxRecDepth 100000 in
set_option maxHeartbeats 8000000 in
theorem refFirst_3 (s : ByteArray) (r : List Nat) (w : World) (hsz : s.size ≤ 100000) (h : bts s = 3 :: r) :
    Calls Tryd.prog 9 #[.string s] w (FirP (bts s) w) := by
  have hl0 := bts_length s
  have h0 : 0 < s.size := by rw [h] at hl0; simp at hl0; omega
  have hb0 := byte_at s 0 h0
  rw [h] at hb0
  simp only [List.getD_cons_zero] at hb0
  have hsI : (s.size : Int) ≤ 100000 := by omega
  have hsI0 : (0 : Int) < s.size := by omega
  have hs0 : ((s.size : Int) == 0) = false := by rw [beq_eq_false_iff_ne]; omega
  obtain ⟨i0, hi0, hz0, hz1, hz2⟩ := info_parts u8_info
  have hd0 : (bts s).drop 1 = r := by rw [h]; rfl
  have HP : Hid (preF (bts s) = some ((2, 0, bstr (unt r).1), 1 + (unt r).2 + 2)) := Lib.hid (by rw [h]; exact preF_3)
  obtain ⟨p, q, x, n, hv⟩ : ∃ (p q : Int) (x : ByteArray) (n : Nat), ((p, q, x), n) = (((2 : Int), (0 : Int), bstr (unt r).1), 1 + (unt r).2 + 2) := ⟨_, _, _, _, rfl⟩
  rw [← hv] at HP
  have HV := Lib.hid hv
  have HL0 := Lib.hid hl0
  have HD0 := Lib.hid hd0
  have H00 := Lib.hid h0
  clear h hl0 hv hd0
  go_enter Tryd.func9, Tryd.ntmps9
  go_upto_block 0 with fail
  go_cut [6] (fun s6 wx => s6 = .int .i64 (n : Nat) ∧ Fs w (p, q, x) wx)
  case first =>
    obtain ⟨z0, z1, z2, _⟩ := fs_S (fs_new w (0, 0, ⟨#[]⟩))
    go_wp2_with fail
    go_loopw [6, 7] (fun i v wr => ∃ (k m c : Nat) (A : Option Addr) (L : List Nat), 1 ≤ k ∧ k ≤ s.size ∧ i = .int .i64 k ∧ v = .slice A m c ∧ m < k ∧ unt r = (L ++ (unt ((bts s).drop k)).1, k - 1 + (unt ((bts s).drop k)).2) ∧ Fl w 2 A m c L wr) (fun i _ _ => s.size - (intOf i).toNat)
    case atStart => exact ⟨1, 0, 0, none, [], by omega, by have := H00.out; omega, rfl, rfl, by omega, by rw [HD0.out]; simp, fl_new w 2 (by first | exact fs_new w (2, 0, ⟨#[]⟩) | exact fs_set1 (fs_new w (0, 0, ⟨#[]⟩)) 0 (.int .u8 2) rfl)⟩
    case round =>
      obtain ⟨k, m, c, A, L, hk1, hk, rfl, rfl, hmk, heq, hfl⟩ := hrel
      have hl := HL0.out
      by_cases h2 : k + 1 < s.size
      · have hx1 := byte_at s k (by omega)
        have hx2 := byte_at s (k + 1) h2
        have h256 := bts_getD_lt s k
        have hd1 : (bts s).drop k = (bts s).getD k 0 :: (bts s).drop (k + 1) := by
          rw [List.drop_eq_getElem_cons (by omega), List.getD_eq_getElem?_getD, List.getElem?_eq_getElem (by omega)]; rfl
        have hd2 : (bts s).drop (k + 1) = (bts s).getD (k + 1) 0 :: (bts s).drop (k + 1 + 1) := by
          rw [List.drop_eq_getElem_cons (by omega), List.getD_eq_getElem?_getD, List.getElem?_eq_getElem (by omega)]; rfl
        generalize (bts s).getD k 0 = a at *
        generalize (bts s).getD (k + 1) 0 = b at *
        have h2I : (k : Int) + 1 < s.size := by omega
        have h2J : (k : Int) < s.size := by omega
        have hkk : ((k : Int) + 1).toNat = k + 1 := by omega
        have HD1 := Lib.hid hd1
        have HD2 := Lib.hid hd2
        clear hd1 hd2
        by_cases ha : a = 0
        · by_cases hb : b = 0
          · rw [HD1.out, HD2.out, ha, hb, unt_end] at heq
            simp only [List.append_nil, Nat.add_zero] at heq
            have haI : ((a : Int) == 0) = true := by rw [ha]; rfl
            have hbI : ((b : Int) == 0) = true := by rw [hb]; rfl
            clear ha hb
            have HEQ := Lib.hid heq
            have hcv := fl_conv hfl
            obtain ⟨z0, z1, z2, _⟩ := fs_S hfl.2.1
            have zf := hfl.2.1.2.1.frozen 2
            have HFL := Lib.hid hfl
            clear hfl heq
            go_wp2_with fail
            go_meet
            have hv := HV.out
            have he := HEQ.out
            simp only [Prod.mk.injEq] at hv he
            obtain ⟨⟨rfl, rfl, rfl⟩, rfl⟩ := hv
            rw [he]
            refine ⟨by first | rfl | (simp; omega), ?_⟩
            exact fs_set1 HFL.out.2.1 2 (.string (bstr L)) rfl
          · have haI : ((a : Int) == 0) = true := by rw [ha]; rfl
            have hbI : ((b : Int) == 0) = false := by rw [beq_eq_false_iff_ne]; omega
            have HN := Lib.hid (fl_alloc hfl (.cells #[.int .u8 (a : Nat)] 5))
            have HQ := Lib.hid (show unt r = ((L ++ [a]) ++ (unt ((bts s).drop (k + 1 + 1))).1, k + 1 + 1 - 1 + (unt ((bts s).drop (k + 1 + 1))).2) by
              rw [heq, HD1.out, HD2.out, ha, unt_esc hb]
              simp
              omega)
            clear ha hb heq hfl
            go_wp2_with (at_builtin; refine wpList_append_any _ rfl (.tmp 56) (.tmp 60) 41 rfl (w.heap.size + 2) 5 i0 _ 1 1 Tryd.underlying41 hi0 hz0 hz1 hz2 rfl (by omega) _ m (vals8 L) rfl HN.out.1 (wr.heap.size + 1) (some ⟨wr.heap.size, 0, none⟩) 1 1 [Value.int .u8 a] rfl (reads1 wr _ _ _ rfl) (by intro u hu; simp at hu; rw [hu]; rfl) (by simp only [maxLen]; omega) (by omega) HN.out.2.2.1 ?_; intro v1 w4 hown1 hg1 hat1; obtain ⟨A1, c1, rfl, hR1⟩ := fl_grown (M := L ++ [a]) HN.out (by rw [← vals8_snoc]; exact hown1) (by rw [List.length_append, ← HN.out.2.2.2]; rfl) hg1; (have HR1 := Lib.hid hR1); clear hown1 hg1 hat1 hR1)
            go_wp2
            go_roundw
            case rel => exact ⟨k + 1 + 1, _, c1, A1, L ++ [a], by omega, by omega, by go_num, rfl, by omega, HQ.out, HR1.out⟩
            case measure => simp [intOf]; omega
        · have haI : ((a : Int) == 0) = false := by rw [beq_eq_false_iff_ne]; omega
          have HN := Lib.hid (fl_alloc hfl (.cells #[.int .u8 (a : Nat)] 5))
          have HQ := Lib.hid (show unt r = ((L ++ [a]) ++ (unt ((bts s).drop (k + 1))).1, k + 1 - 1 + (unt ((bts s).drop (k + 1))).2) by
            rw [heq, HD1.out, HD2.out, unt_char ha]
            simp
            omega)
          clear ha heq hfl
          go_wp2_with (at_builtin; refine wpList_append_any _ rfl (.tmp 56) (.tmp 60) 41 rfl (w.heap.size + 2) 5 i0 _ 1 1 Tryd.underlying41 hi0 hz0 hz1 hz2 rfl (by omega) _ m (vals8 L) rfl HN.out.1 (wr.heap.size + 1) (some ⟨wr.heap.size, 0, none⟩) 1 1 [Value.int .u8 a] rfl (reads1 wr _ _ _ rfl) (by intro u hu; simp at hu; rw [hu]; rfl) (by simp only [maxLen]; omega) (by omega) HN.out.2.2.1 ?_; intro v1 w4 hown1 hg1 hat1; obtain ⟨A1, c1, rfl, hR1⟩ := fl_grown (M := L ++ [a]) HN.out (by rw [← vals8_snoc]; exact hown1) (by rw [List.length_append, ← HN.out.2.2.2]; rfl) hg1; (have HR1 := Lib.hid hR1); clear hown1 hg1 hat1 hR1)
          go_wp2
          go_roundw
          case rel => exact ⟨k + 1, _, c1, A1, L ++ [a], by omega, by omega, by go_num, rfl, by omega, HQ.out, HR1.out⟩
          case measure => simp [intOf]; omega
      · rw [unt_short (D := (bts s).drop k) (by rw [List.length_drop]; omega)] at heq
        simp only [List.append_nil, Nat.add_zero] at heq
        have h2I : (s.size : Int) ≤ (k : Int) + 1 := by omega
        have HEQ := Lib.hid heq
        have hcv := fl_conv hfl
        obtain ⟨z0, z1, z2, _⟩ := fs_S hfl.2.1
        have zf := hfl.2.1.2.1.frozen 2
        have HFL := Lib.hid hfl
        clear hfl heq
        go_wp2_with fail
        go_meet
        have hv := HV.out
        have he := HEQ.out
        simp only [Prod.mk.injEq] at hv he
        obtain ⟨⟨rfl, rfl, rfl⟩, rfl⟩ := hv
        rw [he]
        refine ⟨by first | rfl | (simp; omega), ?_⟩
        exact fs_set1 HFL.out.2.1 2 (.string (bstr L)) rfl
  case rest =>
    clear HV HL0 HD0 H00
    obtain ⟨rfl, hf⟩ := hcut
    have hfit := preF_fits (bts_lt s) HP.out
    have hck := fun W (h : Fs w (p, q, x) W) => fs_call h (refCheck_any (p, q, x) W hfit)
    have hs := fs_drew hf
    obtain ⟨y0, y1, y2, _⟩ := fs_S hf
    have hlen := bts_length s
    rcases oneT_test (bts_lt s) HP.out with ⟨ho, hk, hc, he⟩ | ⟨ho, hw⟩
    · have HO := Lib.hid ho
      rw [hlen] at hk
      have hone := fun W (h : Fs w (p, q, x) W) => fs_call h (refOne_any (p, q, x) W hfit hc)
      rw [he, ← cutl_bstr] at hone
      rw [hc] at hck
      have HCK := Lib.hid hck
      have HON := Lib.hid hone
      have k1 : (n : Int) ≤ s.size := by omega
      have k0 : (0 : Int) ≤ n := by omega
      have kd : decide (s.size < n) = false := decide_eq_false (by omega)
      have ke : decide ((s.size : Int) < n) = false := decide_eq_false (by omega)
      clear hck hone ho hc he hk hf hfit hlen HP
      go_wp2_with fail
      go_region_held3 (fun W => W.cell? ⟨w.heap.size + 1, 0, none⟩ = some (.int .u8 p) ∧ W.cell? ⟨w.heap.size + 1, 1, none⟩ = some (.int .i64 q) ∧ W.cell? ⟨w.heap.size + 1, 2, none⟩ = some (.string x) ∧ Fs w (p, q, x) W)
        (exact fs_S (by assumption))
        (first
          | (go_at_call 15; (with_reducible refine (HCK.out _ (by assumption)).mono ?_); rintro e w3 ⟨rfl, hs⟩)
          | (go_at_call 16; (with_reducible refine (HON.out _ (by assumption)).mono ?_); rintro e w4 ⟨rfl, hs⟩))
      all_goals
        obtain ⟨d0, d1, d2, g0, g1, g2⟩ := cell3 hs.1
        obtain ⟨x0, x1, x2, _⟩ := fs_S hs
        go_wp2
        obtain ⟨e0, e1, e2, _, _, _⟩ := cell3 (blk3_set hs.1 (.int .u8 p) (.int .i64 q) (.string x))
        exact bodyPost_ret (v := .tuple #[.agg #[.int .u8 p, .int .i64 q, .string x], .int .i64 (n : Nat), .bool true]) (by simp [results, Tryd.results9, go_sem, e0, e1, e2]) rfl (fir_yes HO.out (below3_set hs.2.2 _ _ _))
    · have HO := Lib.hid ho
      by_cases hk : s.size < n
      · have k1 : (s.size : Int) < n := by omega
        have kd : decide (s.size < n) = true := decide_eq_true hk
        have ke : decide ((s.size : Int) < n) = true := decide_eq_true k1
        have hs := hf
        clear hck ho hw hf hfit hlen HP
        go_wp2_with fail
        go_quiet (fail)
        all_goals
          obtain ⟨d0, d1, d2, g0, g1, g2⟩ := cell3 hs.1
          obtain ⟨x0, x1, x2, _⟩ := fs_S hs
          go_wp2
          replace hs := fs_drewN hs nq
          obtain ⟨e0, e1, e2, _, _, _⟩ := cell3 (blk3_set hs.1 (.int .u8 0) (.int .i64 0) (.string ⟨#[]⟩))
          exact bodyPost_ret (v := .tuple #[.agg #[.int .u8 0, .int .i64 0, .string ⟨#[]⟩], .int .i64 0, .bool false]) (by simp [results, Tryd.results9, go_sem, e0, e1, e2]) rfl (fir_no HO.out (below3_set hs.2.2 _ _ _))
      · have k1 : (n : Int) ≤ s.size := by omega
        have k0 : (0 : Int) ≤ n := by omega
        have kd : decide (s.size < n) = false := decide_eq_false (by omega)
        have ke : decide ((s.size : Int) < n) = false := decide_eq_false (by omega)
        by_cases hc : chk (p, q, x) = 0
        · have hone := fun W (h : Fs w (p, q, x) W) => fs_call h (refOne_any (p, q, x) W hfit hc)
          have hne : bstr (oneK (p, q, x)) ≠ s.extract 0 n := fun e => by
            rcases hw with h | h | h
            · rw [hlen] at h; omega
            · exact h hc
            · apply h
              rw [cutl_bstr] at e
              have e2 := congrArg bts e
              rw [bts_bstr _ (oneK_lt hfit.1 (chk_of hc).1), bts_bstr _ (fun y hy => bts_lt s y (List.mem_of_mem_take hy))] at e2
              exact e2
          have hnl := toList_ne (S := bstr (oneK (p, q, x))) (T := s.extract 0 n) (fun e => hne e.symm)
          generalize bstr (oneK (p, q, x)) = X at *
          rw [hc] at hck
          have HCK := Lib.hid hck
          have HON := Lib.hid hone
          clear hck hone ho hw hk hf hfit hlen hne hc HP
          go_wp2_with fail
          go_region_held3 (fun W => W.cell? ⟨w.heap.size + 1, 0, none⟩ = some (.int .u8 p) ∧ W.cell? ⟨w.heap.size + 1, 1, none⟩ = some (.int .i64 q) ∧ W.cell? ⟨w.heap.size + 1, 2, none⟩ = some (.string x) ∧ Fs w (p, q, x) W)
            (exact fs_S (by assumption))
            (first
              | (go_at_call 15; (with_reducible refine (HCK.out _ (by assumption)).mono ?_); rintro e w3 ⟨rfl, hs⟩)
              | (go_at_call 16; (with_reducible refine (HON.out _ (by assumption)).mono ?_); rintro e w4 ⟨rfl, hs⟩))
          all_goals
            obtain ⟨d0, d1, d2, g0, g1, g2⟩ := cell3 hs.1
            obtain ⟨x0, x1, x2, _⟩ := fs_S hs
            go_wp2
            obtain ⟨e0, e1, e2, _, _, _⟩ := cell3 (blk3_set hs.1 (.int .u8 0) (.int .i64 0) (.string ⟨#[]⟩))
            exact bodyPost_ret (v := .tuple #[.agg #[.int .u8 0, .int .i64 0, .string ⟨#[]⟩], .int .i64 0, .bool false]) (by simp [results, Tryd.results9, go_sem, e0, e1, e2]) rfl (fir_no HO.out (below3_set hs.2.2 _ _ _))
        · have hE : (chk (p, q, x) != 0) = true := by rw [bne_iff_ne]; exact hc
          generalize chk (p, q, x) = E at *
          have HCK := Lib.hid hck
          clear hck ho hw hk hf hfit hlen hc HP
          go_wp2_with fail
          first
            | (go_region_with ((go_at_call 15; (with_reducible refine (HCK.out _ (by first | exact hs | assumption)).mono ?_); rintro e w3 ⟨rfl, hs⟩)))
            | fail
          all_goals
            obtain ⟨d0, d1, d2, g0, g1, g2⟩ := cell3 hs.1
            obtain ⟨x0, x1, x2, _⟩ := fs_S hs
            go_wp2
            obtain ⟨e0, e1, e2, _, _, _⟩ := cell3 (blk3_set hs.1 (.int .u8 0) (.int .i64 0) (.string ⟨#[]⟩))
            exact bodyPost_ret (v := .tuple #[.agg #[.int .u8 0, .int .i64 0, .string ⟨#[]⟩], .int .i64 0, .bool false]) (by simp [results, Tryd.results9, go_sem, e0, e1, e2]) rfl (fir_no HO.out (below3_set hs.2.2 _ _ _))
end Go.Proofs.YtibaacklcdknnaaDoor
