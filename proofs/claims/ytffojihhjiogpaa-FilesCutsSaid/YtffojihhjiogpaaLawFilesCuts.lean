/- Layer 3: the walk of FilesCuts. Conditions: those of the theorem. -/
import Derived.Test.YtffojihhjiogpaaFi27
namespace Go.Proofs.Ytffojihhjiogpaa
open Go.RowKit Go Go.Maps
set_option linter.unusedVariables false
set_option linter.unusedSimpArgs false
set_option maxRecDepth 100000 in
set_option maxHeartbeats 16000000 in
theorem filesCuts_walk (A : Option Addr) (l : List Fop) (n c : Nat) (f m : Int) (hn : n = l.length) (hm : n ≤ maxLen) (hfit : ∀ x ∈ l, FitP x) (wf : (Lit.int .i64 f).wf = true) (wm : (Lit.int .i64 m).wf = true) (w : World) (hO : Fops w w.heap.size A l) :
    Calls Try.prog 8 #[.slice A n c, .int .i64 f, .int .i64 m] w fun e w' => e = .returned (.bool true) ∧ Below w.heap.size w w' := by
  have HW := Lib.hid works_any
  have HHV := Lib.hid (fun W (hb : Below w.heap.size w W) => heavy_any A l n c W (fops_mono (fops_below hO hb) hb.size) hn hm hfit)
  have HFA := Lib.hid (fun W (hb : Below w.heap.size w W) => far_any A l n c W (fops_mono (fops_below hO hb) hb.size) hn hm hfit)
  have HRN := Lib.hid (fun (W : World) (g : Nat) (d : Dk) (h : Kd w g d 0 W) (h200 : l.length ≤ 200) (hl : ∀ x ∈ l, Light x) => kd_run h A l n c hn (by omega) hO hfit hl)
  have HN := Lib.hid hn
  clear hn hm hfit wf wm hO
  go_enter Try.func8, Try.ntmps8
  go_wp2_with fail
  refine (HW.out _).mono ?_
  rintro e w1 ⟨rfl, hb⟩
  have HB1 := Lib.hid hb
  clear hb
  go_wp2_with fail
  refine (HHV.out _ HB1.out).mono ?_
  rintro e w2 ⟨⟨r, rfl, hr⟩, hb⟩
  have HB2 := Lib.hid (bj HB1.out hb)
  have HR := Lib.hid hr
  clear hb hr
  cases r with
  | true =>
    go_wp2
    go_ret
    exact ⟨by first | rfl | simp, HB2.out⟩
  | false =>
    go_wp2_with fail
    refine (HFA.out _ HB2.out).mono ?_
    rintro e w3 ⟨⟨r, rfl⟩, hb⟩
    have HB3 := Lib.hid (bj HB2.out hb)
    clear hb
    cases r with
    | true =>
      go_wp2
      go_ret
      exact ⟨by first | rfl | simp, HB3.out⟩
    | false =>
      by_cases h0 : f < 0
      · have hd0 : decide (f < 0) = true := decide_eq_true h0
        go_wp2
        go_ret
        exact ⟨by first | rfl | simp, HB3.out⟩
      by_cases h8 : 8 ≤ f
      · have hd0 : decide (f < 0) = false := decide_eq_false h0
        have hd8 : decide (8 ≤ f) = true := decide_eq_true h8
        go_wp2
        go_ret
        exact ⟨by first | rfl | simp, HB3.out⟩
      have hd0 : decide (f < 0) = false := decide_eq_false h0
      have hd8 : decide (8 ≤ f) = false := decide_eq_false h8
      have hf0 : 0 ≤ f := by omega
      have hf8 : f < 8 := by omega
      have HF := Lib.hid (And.intro hf0 hf8)
      clear hf0 hf8
      go_wp2_with fail
      refine (kd_new HB3.out).mono ?_
      rintro e w4 ⟨rfl, hk⟩
      have H4 := Lib.hid hk
      clear hk
      generalize w3.heap.size + 1 = g at *
      go_wp2_with fail
      refine (HRN.out _ _ _ H4.out (HR.out trivial).1 (HR.out trivial).2).mono ?_
      rintro e w5 ⟨rfl, hk⟩
      have H5 := Lib.hid hk
      clear hk
      generalize runD newD l = D0 at *
      go_wp2_with fail
      refine (kd_crash H5.out (Below.refl _ _) none [] 0 0 rfl (.inl rfl) (fun _ a ha => by cases ha) (by omega)).mono ?_
      rintro e w6 ⟨rfl, hk⟩
      rw [crashD_nil] at hk
      have H6 := Lib.hid hk
      clear hk
      go_wp2_with fail
      refine (all_any H6.out f).mono ?_
      rintro e w7 ⟨rfl, hb⟩
      have H7 := Lib.hid (kd_below H6.out hb)
      clear hb
      go_wp2_with fail
      refine (kd_size H7.out f).mono ?_
      rintro e w8 ⟨rfl, rfl⟩
      go_wp2_with fail
      refine (kd_cut H7.out f m (by have := HN.out; have := (HR.out trivial).1; omega)).mono ?_
      rintro e w8 ⟨he, hk⟩
      by_cases hbad : m < 0 ∨ sizeD (crash1 D0) f < m
      · rw [cut_bad HF.out.1 HF.out.2 hbad] at he hk
        subst he
        have H8 := Lib.hid hk
        have HZ := Lib.hid (kd_size hk f)
        clear hk H4 H5 H6 H7
        generalize allF (crash1 D0) f = WAS at *
        generalize sizeD (crash1 D0) f = Z at *
        by_cases hm0 : m < 0
        · have hdm : decide (m < 0) = true := decide_eq_true hm0
          clear hbad
          go_wp2_with fail
          refine (HZ.out).mono ?_
          rintro e w9 ⟨rfl, rfl⟩
          go_wp2
          go_ret
          exact ⟨by first | rfl | simp, kd_b H8.out⟩
        · have hdm : decide (m < 0) = false := decide_eq_false hm0
          have hzm : Z < m := by omega
          have hdz : decide (Z < m) = true := decide_eq_true hzm
          clear hbad
          go_wp2_with fail
          refine (HZ.out).mono ?_
          rintro e w9 ⟨rfl, rfl⟩
          go_wp2
          go_ret
          exact ⟨by first | rfl | simp, kd_b H8.out⟩
      · rw [cut_good HF.out.1 HF.out.2 hbad] at he hk
        subst he
        have HB9 := Lib.hid hbad
        have hm0 : ¬ m < 0 := fun h => hbad (.inl h)
        have hzm : ¬ sizeD (crash1 D0) f < m := fun h => hbad (.inr h)
        have hok := kd_ok H7.out
        obtain ⟨i, hi⟩ : ∃ i, f.toNat = i := ⟨_, rfl⟩
        have hi8 : i < 8 := by have := HF.out; omega
        obtain ⟨k, hkm⟩ := Int.eq_ofNat_of_zero_le (show 0 ≤ m by omega)
        have hki : m.toNat = k := by omega
        have hsz := sizeD_of (crash1 D0) HF.out.1 HF.out.2
        rw [hi] at hsz
        have hkl : k ≤ ((crash1 D0).fl i).length := by omega
        have es : sizeD (cutE (crash1 D0) i k) f = m := by
          rw [sizeD_of _ HF.out.1 HF.out.2, hi, cutE_now, List.length_take, Nat.min_eq_left hkl, hkm]
        have ea : allF (cutE (crash1 D0) i k) f = (allF (crash1 D0) f).extract 0 (64 * min k 300) := by
          rw [allF_of HF.out.1 HF.out.2 (by rfl), allF_of HF.out.1 HF.out.2 (by rfl), hi, cutE_now, bstr_ext, flat_take _ _ (fun s hs => (hok i (by omega)).2 s (List.mem_of_mem_take hs)), List.take_take, List.take_take, List.length_take]
          congr 3
          omega
        have ez : (allF (crash1 D0) f).size = 64 * min ((crash1 D0).fl i).length 300 := by
          rw [allF_of HF.out.1 HF.out.2 (by rfl), hi, bstr_size, flat_size _ (fun s hs => (hok i (by omega)).2 s (List.mem_of_mem_take hs)), List.length_take, Nat.min_eq_left (Nat.min_le_left _ _)]
        have e1 : sizeD (crashD (cutE (crash1 D0) i k) [true]) f = m := by
          rw [sizeD_of _ HF.out.1 HF.out.2, hi, cutE_kept i k hi8, List.length_take, Nat.min_eq_left hkl, hkm]
        have e2 : sizeD (crashD (cutE (crash1 D0) i k) []) f = sizeD (crash1 D0) f := by
          rw [sizeD_of _ HF.out.1 HF.out.2, sizeD_of _ HF.out.1 HF.out.2, hi, cutE_gone i k hi8]
        have e3 : allF (crashD (cutE (crash1 D0) i k) []) f = allF (crash1 D0) f := by
          rw [allF_of HF.out.1 HF.out.2 (by rfl), allF_of HF.out.1 HF.out.2 (by rfl), hi, cutE_gone i k hi8]
        obtain ⟨q, hq⟩ : ∃ q, 64 * min k 300 = q := ⟨_, rfl⟩
        obtain ⟨M, hM⟩ : ∃ M, min m 300 = M := ⟨_, rfl⟩
        have hwm : IntKind.i64.wrap (M * 64) = (q : Int) := by rw [IntKind.wrap_i64]; omega
        rw [hi, hki] at hk
        rw [hq] at ea
        have hqs : (q : Int) ≤ (allF (crash1 D0) f).size := by rw [ez]; omega
        have H8 := Lib.hid hk
        have HZ := Lib.hid (fun V (hb : Below w8.heap.size w8 V) => (show Calls Try.prog 12 #[.pointer (some ⟨g, 0, none⟩), .int .i64 f] V fun e w' => e = .returned (.int .i64 m) ∧ V = w' from by have := kd_size (kd_below hk hb) f; rw [es] at this; exact this))
        have HAL := Lib.hid (fun V (hb : Below w8.heap.size w8 V) => (show Calls Try.prog 38 #[.pointer (some ⟨g, 0, none⟩), .int .i64 f] V fun e w' => e = .returned (.string ((allF (crash1 D0) f).extract 0 q)) ∧ Below V.heap.size V w' from by have := all_any (kd_below hk hb) f; rw [ea] at this; exact this))
        generalize cutE (crash1 D0) i k = E at *
        have E1 := Lib.hid e1
        have E2 := Lib.hid e2
        have E3 := Lib.hid e3
        clear e1 e2 e3 es ea ez hkl hsz hok hk H4 H5 H6 H7 HB9 hbad hq hki hi hi8
        generalize allF (crash1 D0) f = WAS at *
        generalize sizeD (crash1 D0) f = Z at *
        have hdm : decide (m < 0) = false := decide_eq_false hm0
        have hdz : decide (Z < m) = false := decide_eq_false hzm
        have h0q : (0 : Int) ≤ q := by omega
        have HB8 := Lib.hid (show Below w8.heap.size w8 w8.drew from (Below.refl _ _).drew)
        clear hkm
        go_wp2_with fail
        go_region_held3 (fun _ => True)
          (trivial)
          (first
            | (go_at_call 12; (with_reducible refine (HZ.out _ HB8.out).mono ?_); rintro e w9 ⟨rfl, rfl⟩)
            | (go_at_call 38; (with_reducible refine (HAL.out _ HB8.out).mono ?_); rintro e w9 ⟨rfl, hb9⟩; (have HB9 := Lib.hid (bj HB8.out hb9)); clear hb9))
        all_goals
          have H9 := Lib.hid (kd_below H8.out HB9.out)
          go_wp2_with fail
          refine (kd_copy2 H9.out).mono ?_
          rintro e w10 ⟨g', rfl, hk2⟩
          have H10 := Lib.hid hk2
          clear hk2
          go_wp2_with fail
          refine (kd2_crash H10.out one_alloc _ [true] _ _ rfl (bs_new _ [true] _) (fun _ a ha => by cases ha; exact .inr (Nat.le_refl _)) (by simp)).mono ?_
          rintro e w11 ⟨rfl, hk2⟩
          have H11 := Lib.hid hk2
          clear hk2
          go_wp2_with fail
          refine (kd_size (kd2_l H11.out) f).mono ?_
          rintro e w12 ⟨he, rfl⟩
          rw [E1.out] at he
          subst he
          go_wp2_with fail
          refine (kd_crash (kd2_r H11.out) (Below.refl _ _) none [] 0 0 rfl (.inl rfl) (fun _ a ha => by cases ha) (by omega)).mono ?_
          rintro e w13 ⟨rfl, hk⟩
          have H13 := Lib.hid hk
          clear hk
          go_wp2_with fail
          refine (kd_size H13.out f).mono ?_
          rintro e w14 ⟨he, rfl⟩
          rw [E2.out] at he
          subst he
          go_wp2_with fail
          refine (all_any H13.out f).mono ?_
          rintro e w15 ⟨he, hb⟩
          rw [E3.out] at he
          subst he
          have HB15 := Lib.hid (bj (kd_b H13.out) hb)
          clear hb
          go_wp2
          go_ret
          exact ⟨by first | rfl | simp, HB15.out⟩
end Go.Proofs.Ytffojihhjiogpaa
