/- What counterfoilref04.TakeHead and Take answer, in the words of the plain mathematics. Conditions: the numbers fit their kinds, a text is no longer than a machine has addresses. -/
import Derived.Test.YtpgjlpljjbgplaaFrameRefPut
import Derived.Test.YtpgjlpljjbgplaaFrameWorks
namespace Go.Proofs.Ytpgjlpljjbgplaa
open Go.RowKit
theorem th_take24 {L : List Nat} (hl : ∀ x ∈ L, x < 256) (h1 : 64 ≤ L.length) (h2 : L.take 8 = nameL) : L.take 24 = headA (thN L) (thF L) (thP L) ∧ thN L < 18446744073709551616 := by
  have e1 := eightL_val (len_cut (L := L) (i := 8) (k := 8) (by omega)) (mem_cut hl 8 8)
  have e2 := fourL_val (len_cut (L := L) (i := 16) (k := 4) (by omega)) (mem_cut hl 16 4)
  have e3 := fourL_val (len_cut (L := L) (i := 20) (k := 4) (by omega)) (mem_cut hl 20 4)
  refine ⟨?_, e1.2⟩
  unfold headA thN thF thP
  rw [e1.1, e2, e3, parts24, h2, List.append_assoc, List.append_assoc]
theorem th_su {L : List Nat} (hl : ∀ x ∈ L, x < 256) (h1 : 64 ≤ L.length) (h2 : L.take 8 = nameL) (h3 : (L.drop 32).take 32 = List.replicate 32 0) : L.take 64 = headL (thN L) (thF L) (thP L) ↔ (L.drop 24).take 8 = sumT (L.take 24) := by
  have ea := (th_take24 hl h1 h2).1
  unfold headL
  rw [← ea, parts64, h3, List.append_assoc]
  refine ⟨fun h => ?_, fun h => by rw [h]⟩
  exact List.append_inj_left (List.append_cancel_left h) (by rw [sumT_length]; exact len_cut (by omega))
theorem f_take16 {L : List Nat} (hl : ∀ x ∈ L, x < 256) (h1 : 576 ≤ L.length) : L.take 16 = frameA (fW L 0) (fW L 1) (fSalt L) := by
  have e0 := fourL_val (len_cut (L := L) (i := 0) (k := 4) (by omega)) (mem_cut hl 0 4)
  have e1 := fourL_val (len_cut (L := L) (i := 4) (k := 4) (by omega)) (mem_cut hl 4 4)
  have e2 := (eightL_val (len_cut (L := L) (i := 8) (k := 8) (by omega)) (mem_cut hl 8 8)).1
  unfold frameA fW fSalt
  rw [show 4 * 0 = 0 from rfl, show 4 * 1 = 4 from rfl, e0, e1, e2, parts16, List.drop_zero, List.append_assoc]
theorem f_qq {L : List Nat} (p : Int × Int) (hl : ∀ x ∈ L, x < 256) (h1 : 576 ≤ L.length) : frameQ p (fW L 0) (fW L 1) (fSalt L) (fD L) = fQ p L := by
  unfold frameQ fQ
  rw [f_take16 hl h1]
theorem f_su {L : List Nat} {p : Int × Int} (hp : Fit p) (hl : ∀ x ∈ L, x < 256) (h1 : 576 ≤ L.length) (h2 : (L.drop 24).take 40 = List.replicate 40 0) : L.take 576 = frameL p (fW L 0) (fW L 1) (fSalt L) (fD L) ↔ fQ p L = ((fW L 4 : Int), (fW L 5 : Int)) := by
  have ea := f_take16 hl h1
  have eq := f_qq p hl h1
  have e4 := fourL_val (len_cut (L := L) (i := 16) (k := 4) (by omega)) (mem_cut hl 16 4)
  have e5 := fourL_val (len_cut (L := L) (i := 20) (k := 4) (by omega)) (mem_cut hl 20 4)
  have v4 := val4_lt (len_cut (L := L) (i := 16) (k := 4) (by omega)) (mem_cut hl 16 4)
  have v5 := val4_lt (len_cut (L := L) (i := 20) (k := 4) (by omega)) (mem_cut hl 20 4)
  have et : (L.drop 16).take 8 = textL (fW L 4 : Int) (fW L 5 : Int) := by
    unfold textL fW
    rw [Int.toNat_natCast, Int.toNat_natCast, show 4 * 4 = 16 from rfl, show 4 * 5 = 20 from rfl, e4, e5, parts8]
  have fit : Fit ((fW L 4 : Int), (fW L 5 : Int)) := by
    have a4 : (fW L 4 : Int) < 4294967296 := by
      have : fW L 4 < 4294967296 := v4
      omega
    have a5 : (fW L 5 : Int) < 4294967296 := by
      have : fW L 5 < 4294967296 := v5
      omega
    exact ⟨by simp, a4, by simp, a5⟩
  have fitQ : Fit (fQ p L) := fit_addL (fit_addL hp)
  unfold frameL
  rw [eq, ← ea, parts576, h2, et, List.append_assoc, List.append_assoc]
  refine ⟨fun h => ?_, fun h => by rw [h]; rfl⟩
  have h' := List.append_inj_left (List.append_cancel_left h) rfl
  exact (textL_inj fit fitQ h').symm
theorem cut_eqD (T s : ByteArray) (k : Nat) : (T.toList == (s.extract 0 k).toList) = decide ((bts s).take k = bts T) := by
  have e : bts (s.extract 0 k) = (bts s).take k := bts_cut0 s k
  by_cases h : (bts s).take k = bts T
  · rw [decide_eq_true h]
    have : T = s.extract 0 k := bts_inj (by rw [e, h])
    rw [← this]; simp
  · rw [decide_eq_false h, beq_eq_false_iff_ne]
    exact fun e2 => h (by rw [← e, str_ext e2])
theorem rtakeHead_any (s : ByteArray) (w : World) (hz : s.size ≤ 140737488351232) :
    Calls Try.prog 18 #[.string s] w fun e w' => e = .returned (thRet (bts s)) ∧ Below w.heap.size w w' := by
  have hl := bts_length s
  by_cases hs : s.size < 64
  · have h : thErr (bts s) = 10 := by unfold thErr; rw [if_pos (by omega)]
    have e : thRet (bts s) = headV 0 0 0 10 := by unfold thRet; rw [h, if_neg (by decide)]
    rw [e]
    exact rtakeHead_len s w hs
  · have hNlt : thN (bts s) < 18446744073709551616 := (eightL_val (len_cut (L := bts s) (i := 8) (k := 8) (by omega)) (mem_cut (bts_lt s) 8 8)).2
    have H : RHeadIn s (bstr (List.replicate 32 0)) (bstr (headL (thN (bts s)) (thF (bts s)) (thP (bts s)))) (thN (bts s)) (thF (bts s)) (thP (bts s))
        (decide ((bts s).take 8 = nameL)) (decide (((bts s).drop 32).take 32 = List.replicate 32 0)) (decide (thF (bts s) ≤ 256 ∧ thP (bts s) ≤ 256)) (decide ((bts s).take 64 = headL (thN (bts s)) (thF (bts s)) (thP (bts s)))) := by
      refine ⟨fun w => ?_, fun w => ?_, fun w => ?_, fun w => rnoughts_any 32 w (.inl rfl), fun w => ?_, fun hm w => ?_, ?_, ?_, ?_⟩
      · have h := refValue_any (s.extract 8 16) w (by simp; omega)
        rw [bts_cutn s 8 8] at h
        exact h
      · have h := rvalue_any (s.extract 16 20) w (by simp; omega)
        rw [bts_cutn s 16 4] at h
        exact h
      · have h := rvalue_any (s.extract 20 24) w (by simp; omega)
        rw [bts_cutn s 20 4] at h
        exact h
      · have h := rheadMay_any (thN (bts s)) (thF (bts s)) (thP (bts s)) w
        have e : (okIn 256 (thF (bts s)) && okIn 256 (thP (bts s))) = decide (thF (bts s) ≤ 256 ∧ thP (bts s) ≤ 256) := by
          rw [Bool.eq_iff_iff, Bool.and_eq_true, okIn_iff, okIn_iff, decide_eq_true_iff]; omega
        rw [e] at h
        exact h
      · have hm' := of_decide_eq_true hm
        exact rhead_any _ _ _ w hNlt hm'.1 hm'.2
      · have e := bts_cutn s 0 8
        rw [List.drop_zero, Nat.zero_add] at e
        have h := str_eq (s.extract 0 8) nameL (by decide)
        rw [e] at h
        rw [← h, ByteArray.toList_eq (bstr nameL)]
        rfl
      · rw [str_eq _ _ (fun x hx => by rw [(List.mem_replicate.1 hx).2]; decide), bts_cutn s 32 32]
      · rw [cut_eqD, bts_headL]
    refine (rtakeHead_core s _ _ _ _ _ _ _ _ _ w (by omega) (Lib.hid H)).mono fun e w' he => ⟨he.1.trans ?_, he.2⟩
    congr 1
    have hn : ¬ (bts s).length < 64 := by omega
    have off : ∀ k, thErr (bts s) = k → k ≠ 0 → thRet (bts s) = headV 0 0 0 k := fun k hk h0 => by unfold thRet; rw [hk, if_neg h0]
    unfold rhRet
    by_cases c1 : (bts s).take 8 = nameL
    · rw [decide_eq_true c1]
      by_cases c2 : ((bts s).drop 32).take 32 = List.replicate 32 0
      · rw [decide_eq_true c2]
        have hsu := th_su (bts_lt s) (by omega) c1 c2
        by_cases c3 : thF (bts s) ≤ 256 ∧ thP (bts s) ≤ 256
        · rw [decide_eq_true c3]
          by_cases c4 : ((bts s).drop 24).take 8 = sumT ((bts s).take 24)
          · rw [decide_eq_true (hsu.2 c4)]
            have e : thErr (bts s) = 0 := by unfold thErr; rw [if_neg hn, if_neg (fun h => h ⟨c1, c2, c3⟩), if_neg (fun h => h c4)]
            unfold thRet
            rw [if_pos e]
            rfl
          · rw [decide_eq_false (fun h => c4 (hsu.1 h)), off 40 (by unfold thErr; rw [if_neg hn, if_neg (fun h => h ⟨c1, c2, c3⟩), if_pos c4]) (by decide)]
            rfl
        · rw [decide_eq_false c3, off 11 (by unfold thErr; rw [if_neg hn, if_pos (fun h => c3 h.2.2)]) (by decide)]
          rfl
      · rw [decide_eq_false c2, off 11 (by unfold thErr; rw [if_neg hn, if_pos (fun h => c2 h.2.1)]) (by decide)]
        rfl
    · rw [decide_eq_false c1, off 11 (by unfold thErr; rw [if_neg hn, if_pos (fun h => c1 h.1)]) (by decide)]
      rfl
theorem rtake_any (p1 p2 : Int) (salt : Nat) (s : ByteArray) (w : World) (hp : Fit (p1, p2)) (hsalt : salt < 18446744073709551616) (hz : s.size ≤ 140737488351232) :
    Calls Try.prog 23 #[.agg #[.int .u32 p1, .int .u32 p2], .int .u64 salt, .string s] w fun e w' => e = .returned (tfRet (p1, p2) salt s) ∧ Below w.heap.size w w' := by
  have hl := bts_length s
  by_cases hs : s.size < 576
  · have h : fErr (p1, p2) salt (bts s) = 10 := by unfold fErr; rw [if_pos (by omega)]
    unfold tfRet
    rw [h, if_neg (by decide)]
    exact rtake_len p1 p2 salt s w hs
  · have e512 : bts (s.extract 64 576) = fD (bts s) := bts_cutn s 64 512
    have esz : (s.extract 64 576).size = 512 := by simp; omega
    have H : RTakeIn s (bstr (List.replicate 40 0)) (bstr (frameL (p1, p2) (fW (bts s) 0) (fW (bts s) 1) salt (fD (bts s)))) p1 p2 salt (fW (bts s) 0) (fW (bts s) 1) (fSalt (bts s)) (frameQ (p1, p2) (fW (bts s) 0) (fW (bts s) 1) salt (fD (bts s))).1 (frameQ (p1, p2) (fW (bts s) 0) (fW (bts s) 1) salt (fD (bts s))).2
        (decide (((bts s).drop 24).take 40 = List.replicate 40 0)) (decide (0 < fW (bts s) 0 ∧ fW (bts s) 0 ≤ 256 ∧ fW (bts s) 1 ≤ 256)) (decide (fSalt (bts s) = salt)) (decide ((bts s).take 576 = frameL (p1, p2) (fW (bts s) 0) (fW (bts s) 1) salt (fD (bts s)))) := by
      refine ⟨fun w => ?_, fun w => ?_, fun w => rnoughts_any 40 w (.inr rfl), fun w => ?_, fun w => ?_, fun hb w => ?_, ?_, ?_, ?_⟩
      · have h := rvalue_any (s.extract 0 4) w (by simp; omega)
        have e := bts_cutn s 0 4
        rw [Nat.zero_add] at e
        rw [e] at h
        exact h
      · have h := rvalue_any (s.extract 4 8) w (by simp; omega)
        rw [bts_cutn s 4 4] at h
        exact h
      · refine rmay_any _ _ _ _ w ?_
        rw [esz, Bool.eq_iff_iff, okF_iff, decide_eq_true_iff]
        omega
      · have h := refValue_any (s.extract 8 16) w (by simp; omega)
        rw [bts_cutn s 8 8] at h
        exact h
      · have hb' := of_decide_eq_true hb
        have h := rput_any p1 p2 salt (fW (bts s) 0) (fW (bts s) 1) (s.extract 64 576) w hp hsalt (by omega) (by omega) esz
        rw [e512] at h
        exact h
      · rw [str_eq _ _ (fun x hx => by rw [(List.mem_replicate.1 hx).2]; decide), bts_cutn s 24 40]
      · rw [cut_eqD, bts_bstr _ (frameL_lt (p1, p2) (fW (bts s) 0) (fW (bts s) 1) salt (fD (bts s)) (show ∀ x ∈ fD (bts s), x < 256 from mem_cut (bts_lt s) 64 512))]
      · rcases Nat.decEq (fSalt (bts s)) salt with h | h
        · rw [decide_eq_false h, Bool.not_false, bne_iff_ne]; omega
        · rw [h]; simp
    refine (rtake_core s _ _ p1 p2 salt _ _ _ _ _ _ _ _ _ w (by omega) (Lib.hid H)).mono fun e w' he => ⟨he.1.trans ?_, he.2⟩
    congr 1
    have hn : ¬ (bts s).length < 576 := by omega
    have off : ∀ k, fErr (p1, p2) salt (bts s) = k → k ≠ 0 → tfRet (p1, p2) salt s = takeZero k := fun k hk h0 => by unfold tfRet; rw [hk, if_neg h0]
    by_cases c1 : ((bts s).drop 24).take 40 = List.replicate 40 0
    · rw [decide_eq_true c1]
      by_cases c2 : 0 < fW (bts s) 0 ∧ fW (bts s) 0 ≤ 256 ∧ fW (bts s) 1 ≤ 256
      · rw [decide_eq_true c2]
        by_cases c3 : fSalt (bts s) = salt
        · rw [decide_eq_true c3]
          have hsu := f_su hp (bts_lt s) (by omega) c1
          have hqq := f_qq (p1, p2) (bts_lt s) (by omega)
          rw [c3] at hsu hqq
          by_cases c4 : fQ (p1, p2) (bts s) = ((fW (bts s) 4 : Int), (fW (bts s) 5 : Int))
          · rw [decide_eq_true (hsu.2 c4), hqq]
            have e : fErr (p1, p2) salt (bts s) = 0 := by unfold fErr; rw [if_neg hn, if_neg (fun h => h ⟨c1, c2⟩), if_neg (fun h => h c3), if_neg (fun h => h c4)]
            unfold tfRet
            rw [if_pos e]
            rfl
          · rw [decide_eq_false (fun h => c4 (hsu.1 h)), off 40 (by unfold fErr; rw [if_neg hn, if_neg (fun h => h ⟨c1, c2⟩), if_neg (fun h => h c3), if_pos c4]) (by decide)]
            rfl
        · rw [decide_eq_false c3, off 41 (by unfold fErr; rw [if_neg hn, if_neg (fun h => h ⟨c1, c2⟩), if_pos c3]) (by decide)]
          rfl
      · rw [decide_eq_false c2, off 11 (by unfold fErr; rw [if_neg hn, if_pos (fun h => c2 h.2)]) (by decide)]
        rfl
    · rw [decide_eq_false c1, off 11 (by unfold fErr; rw [if_neg hn, if_pos (fun h => c1 h.1)]) (by decide)]
      rfl
end Go.Proofs.Ytpgjlpljjbgplaa
