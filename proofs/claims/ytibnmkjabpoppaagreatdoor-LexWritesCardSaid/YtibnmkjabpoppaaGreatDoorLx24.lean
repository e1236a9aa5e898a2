/- Layer 13: ref13.number. Conditions: those of each lemma. -/
import Derived.Deep.DeepCutAuto
import Derived.Test.YtibnmkjabpoppaaGreatDoorLx23
namespace Go.Proofs.YtibnmkjabpoppaaGreatDoor
open Go Go.RowKit
set_option linter.unusedVariables false
set_option linter.unusedSimpArgs false

theorem dl_at (S : ByteArray) (p k : Nat) (h1 : p ≤ k) (h2 : k < p + dl ((bts S).drop p)) : digB (atB S k : Int) = true := by
  have hl := dl_le ((bts S).drop p)
  refine dl_all ((bts S).drop p) _ ?_
  rw [List.length_drop, bts_length] at hl
  have hk : k < S.size := by omega
  have hlen := bts_length S
  have e : atB S k = (((bts S).drop p).take (dl ((bts S).drop p)))[k - p]'(by rw [List.length_take, List.length_drop]; omega) := by
    unfold atB
    rw [List.getElem_take, List.getElem_drop, List.getD_eq_getElem?_getD, List.getElem?_eq_getElem (by omega), Option.getD_some]
    congr 1
    omega
  rw [e]
  exact List.getElem_mem _
theorem dl_two (S : ByteArray) (p : Nat) (hp : p < S.size) (h : digB (atB S p : Int) = true) : p + 1 < p + dl ((bts S).drop p) ↔ digB (atB S (p + 1) : Int) = true := by
  rw [drop_at S p hp, dl_yes h]
  cases hd : digB (atB S (p + 1) : Int) with
  | true =>
    have hp2 : p + 1 < S.size := by
      refine Nat.lt_of_not_le fun hh => ?_
      rw [atB_end S (p + 1) hh] at hd
      exact absurd hd (by decide)
    rw [drop_at S (p + 1) hp2, dl_yes hd]
    simp
    omega
  | false =>
    have : dl ((bts S).drop (p + 1)) = 0 := by
      rcases Nat.lt_or_ge (p + 1) S.size with hh | hh
      · rw [drop_at S (p + 1) hh, dl_no hd]
      · exact dl_end S _ hh
    rw [this]
    simp
set_option maxRecDepth 100000 in
set_option maxHeartbeats 8000000 in
theorem rnumber_any (S : ByteArray) (p : Nat) (w : World) (hp : p < S.size) (hdg : digB (atB S p : Int) = true) (hS : S.size ≤ 140737488351232) : Calls Tryz.prog 34 #[.string S, .int .i64 p] w fun r w' => r = .returned (anR (numA S p)) ∧ Below w.heap.size w w' := by
  have htwo := dl_two S p hp hdg
  have hle := dl_size S p (by omega)
  have hpos : 1 ≤ dl ((bts S).drop p) := by rw [drop_at S p hp, dl_yes hdg]; omega
  have hdat := fun k h1 h2 => dl_at S p k h1 h2
  unfold numA
  obtain ⟨v, hv⟩ : ∃ v, vd 0 (((bts S).drop p).take (dl ((bts S).drop p))) = v := ⟨_, rfl⟩
  rw [hv]
  obtain ⟨R, hR⟩ : ∃ R, p + dl ((bts S).drop p) = R := ⟨_, rfl⟩
  have HV := Lib.hid (show vd 0 (((bts S).drop p).take (R - p)) = v by rw [← hv, ← hR, Nat.add_sub_cancel_left])
  rw [hR] at htwo hle hdat ⊢
  have hRp : p < R := by omega
  have HDAT := Lib.hid hdat
  have HTWO := Lib.hid htwo
  have HRE := Lib.hid hR
  clear htwo hpos hv hdat hR
  have hSI : (S.size : Int) ≤ 140737488351232 := by omega
  have hpI : (p : Int) < S.size := by omega
  have HN := Lib.hid (rq_new w)
  have HAT := Lib.hid (fun q W => rAt_any S q W)
  have HDG := Lib.hid rdig_any
  have hx0 := atB_at S p hp
  obtain ⟨z, hz⟩ : ∃ z, (atB S p == 48) = z := ⟨_, rfl⟩
  rw [hz]
  generalize hc : atB S p = c at *
  have had : ∀ W, Calls Tryz.prog 28 #[.string S, .int .i64 ((p : Int) + 1)] W fun e w' => e = .returned (.int .u8 (atB S (p + 1))) ∧ W = w' := fun W => HAT.out (p + 1) W
  obtain ⟨d, hd⟩ : ∃ d, atB S (p + 1) = d := ⟨_, rfl⟩
  rw [hd] at had HTWO
  have HAD := Lib.hid had
  obtain ⟨b, hb⟩ : ∃ b, digB (d : Int) = b := ⟨_, rfl⟩
  have hdd : ∀ W, Calls Tryz.prog 33 #[.int .u8 (d : Int)] W fun e w' => e = .returned (.bool (digB (d : Int))) ∧ W = w' := fun W => HDG.out (d : Int) W
  rw [hb] at hdd HTWO
  have HDD := Lib.hid hdd
  clear had hdd hd hb hdg hc
  have HA8 := Lib.hid HN.out.2.1
  have HB8 := Lib.hid HN.out.2.2.1
  have HX8 := Lib.hid HN.out.2.2.2.1
  by_cases hbad : z = true ∧ b = true
  · obtain ⟨rfl, rfl⟩ := hbad
    have hc48 : c = 48 := by simpa using hz
    subst hc48
    have HRES := Lib.hid (show anR (numR p R v true) = .tuple #[tokV 0 ⟨#[]⟩ 0 0, .int .i64 0, spotV 6 ((p : Int) + 1)] by
      have : numR p R v true = .bad 6 (p + 1) := if_pos ⟨rfl, HTWO.out.2 rfl⟩
      rw [this]; rfl)
    clear hz
    go_enter Tryz.func34, Tryz.ntmps34
    go_wp2_with fail
    refine (HAD.out _).mono ?_
    rintro e w3 ⟨rfl, hw3⟩
    have HA8 := Lib.hid (hw3 ▸ HA8.out)
    have HB8 := Lib.hid (hw3 ▸ HB8.out)
    have HX8 := Lib.hid (show Below w.heap.size w w3 from hw3 ▸ HX8.out)
    clear hw3
    go_wp2_with fail
    refine (HDD.out _).mono ?_
    rintro e w4 ⟨rfl, rfl⟩
    go_wp2_with fail
    refine (rbad_any 6 ((p : Int) + 1) _).mono ?_
    rintro e w9 ⟨rfl, hb9⟩
    have HA9 := Lib.hid (Blk.below HA8.out hb9 (Blk.lt HA8.out))
    have HB9 := Lib.hid (Blk.below HB8.out hb9 (Blk.lt HB8.out))
    have HX9 := Lib.hid (below_low HX8.out HX8.out.size hb9)
    clear hb9
    obtain ⟨d0, d1, d2, d3⟩ := cell2b HB9.out
    obtain ⟨b0, b1, b2, b3⟩ := cell4b HA9.out
    have e0 := (HA9.out).frozen 0
    have e1 := (HA9.out).frozen 1
    have e2 := (HA9.out).frozen 2
    have e3 := (HA9.out).frozen 3
    unfold tokV spotV
    go_wp2
    obtain ⟨hA, hB⟩ := two_set HA9.out HB9.out (by omega) (.int .u8 0) (.string ⟨#[]⟩) (.int .u64 0) (.int .i64 0) (.int .i64 6) (.int .i64 ((p : Int) + 1))
    have HB6 := Lib.hid (two_below (g := w.heap.size) (h := w.heap.size + 1) HX9.out (Nat.le_refl _) (Nat.le_succ _) (.int .u8 0) (.string ⟨#[]⟩) (.int .u64 0) (.int .i64 0) (.int .i64 6) (.int .i64 ((p : Int) + 1)))
    clear d0 d1 d2 d3 b0 b1 b2 b3 e0 e1 e2 e3
    obtain ⟨d0, d1, _, _⟩ := cell2b hB
    obtain ⟨c0, c1, c2, c3⟩ := cell4b hA
    refine bodyPost_ret (v := .tuple #[tokV 0 ⟨#[]⟩ 0 0, .int .i64 0, spotV 6 ((p : Int) + 1)]) ?_ rfl ?_
    · simp [results, Tryz.results34, go_sem, c0, c1, c2, c3, d0, d1, tokV, spotV]
    · exact ⟨by rw [HRES.out], HB6.out⟩

  · have hnum : numR p R v z = if 9223372036854775808 < v then .bad 5 p else .ok 3 ⟨#[]⟩ v p R := if_neg (fun hh => hbad ⟨hh.1, HTWO.out.1 hh.2⟩)
    have HNUM := Lib.hid hnum
    clear hnum
    have hzc : ((c : Int) == 48) = z := by
      rw [← hz, Bool.eq_iff_iff, beq_iff_eq, beq_iff_eq]
      omega
    go_enter Tryz.func34, Tryz.ntmps34
    go_upto_region 1 with fail
    go_cut [21] (fun v3 wx => v3 = .bool false ∧ Rq w [] (.slice none 0 0) wx)
    case first =>
      cases z with
      | false =>
        clear hbad hz
        go_wp2_with fail
        go_meet
        exact ⟨rfl, HN.out⟩
      | true =>
        obtain rfl : b = false := by
          cases b with
          | true => exact absurd ⟨rfl, rfl⟩ hbad
          | false => rfl
        clear hbad hz
        go_wp2_with fail
        refine (HAD.out _).mono ?_
        rintro e w3 ⟨rfl, rfl⟩
        go_wp2_with fail
        refine (HDD.out _).mono ?_
        rintro e w4 ⟨rfl, rfl⟩
        go_wp2_with fail
        go_meet
        exact ⟨rfl, HN.out⟩
    case rest =>
      obtain ⟨rfl, hrq⟩ := hcut
      rename World => wc
      have HRQ := Lib.hid hrq
      clear hbad hz hx0 hzc HA8 HB8 HX8 HN hrq
      have HA8 := Lib.hid HRQ.out.2.1
      have HB8 := Lib.hid HRQ.out.2.2.1
      have HX8 := Lib.hid HRQ.out.2.2.2.1
      go_wp2
      go_loopw [7] (fun i wr => ∃ q : Nat, p ≤ q ∧ q ≤ R ∧ i = .int .i64 q ∧ q + dl ((bts S).drop q) = R ∧ wc = wr) (fun i _ => R - (intOf i).toNat)
      case atStart => exact ⟨p, Nat.le_refl _, by omega, rfl, HRE.out, rfl⟩
      case round =>
        obtain ⟨q, hq1, hq2, rfl, hE, rfl⟩ := hrel
        have HE := Lib.hid hE
        clear hE
        obtain ⟨b2, hb2⟩ : ∃ b, digB (atB S q : Int) = b := ⟨_, rfl⟩
        have haq := fun W => HAT.out q W
        have hdq := fun W => HDG.out (atB S q : Int) W
        rw [hb2] at hdq
        have HAQ := Lib.hid haq
        have HDQ := Lib.hid hdq
        clear haq hdq
        cases b2 with
        | true =>
          have hqs : q < S.size := by
            refine Nat.lt_of_not_le fun hh => ?_
            rw [atB_end S q hh] at hb2
            exact absurd hb2 (by decide)
          have HQ := Lib.hid (show q + 1 + dl ((bts S).drop (q + 1)) = R by rw [← HE.out, drop_at S q hqs, dl_yes hb2]; omega)
          have hlt : q < R := by have := HE.out; rw [drop_at S q hqs, dl_yes hb2] at this; omega
          clear hb2
          generalize atB S q = c2 at *
          go_wp2_with fail
          refine (HAQ.out _).mono ?_
          rintro e w3 ⟨rfl, rfl⟩
          go_wp2_with fail
          refine (HDQ.out _).mono ?_
          rintro e w4 ⟨rfl, rfl⟩
          go_wp2
          go_roundw
          case rel => exact ⟨q + 1, by omega, by omega, by go_num, HQ.out, by trivial⟩
          case measure => simp [intOf]; omega
        | false =>
          obtain rfl : q = R := by
            rw [← HE.out]
            rcases Nat.lt_or_ge q S.size with hh | hh
            · rw [drop_at S q hh, dl_no hb2]; rfl
            · rw [dl_end S q hh]; rfl
          clear hb2 hq2 HRE
          generalize atB S q = c2 at *
          go_wp2_with fail
          refine (HAQ.out _).mono ?_
          rintro e w3 ⟨rfl, rfl⟩
          go_wp2_with fail
          refine (HDQ.out _).mono ?_
          rintro e w4 ⟨rfl, rfl⟩
          go_wp2
          go_loopw [8, 9] (fun nn i wr => ∃ k n : Nat, p ≤ k ∧ k ≤ q ∧ i = .int .i64 k ∧ nn = .int .u64 n ∧ n ≤ 9223372036854775808 ∧ vd n (((bts S).drop k).take (q - k)) = v ∧ wc = wr) (fun _ i _ => q - (intOf i).toNat)
          case atStart => exact ⟨p, 0, Nat.le_refl _, by omega, rfl, rfl, by omega, HV.out, rfl⟩
          case round =>
            obtain ⟨k, n, hk1, hk2, rfl, rfl, hn, hV, rfl⟩ := hrel
            have HVK := Lib.hid hV
            have HN63 := Lib.hid hn
            clear hV hn HE HV
            by_cases hkq : k < q
            · have hks : k < S.size := by omega
              have hkI : (k : Int) < q := by omega
              have hkS : (k : Int) < S.size := by omega
              have hdk := dig_nat (HDAT.out k hk1 hkq)
              have hy := atB_at S k hks
              have hstep : vd n (((bts S).drop k).take (q - k)) = vd (10 * n + (atB S k - 48)) (((bts S).drop (k + 1)).take (q - (k + 1))) := by
                rw [drop_at S k hks, show q - k = (q - (k + 1)) + 1 by omega, List.take_succ_cons, vd_cons]
              have hge := vd_ge (((bts S).drop (k + 1)).take (q - (k + 1))) (10 * n + (atB S k - 48))
              have hvk := HVK.out
              rw [hstep] at hvk
              rw [hvk] at hge
              have HVK2 := Lib.hid hvk
              clear hvk hstep
              obtain ⟨d, hd⟩ : ∃ d, atB S k - 48 = d := ⟨_, rfl⟩
              rw [hd] at hge HVK2
              generalize hck : atB S k = ck at *
              have hd10 : d < 10 := by omega
              have hckI : ck = d + 48 := by omega
              subst hckI
              clear hd hdk hck
              have hn63 := HN63.out
              have hnI : (n : Int) ≤ 9223372036854775808 := by omega
              have hdI : (d : Int) < 10 := by omega
              have q1 : IntKind.u8.wrap (((d + 48 : Nat) : Int) - 48) = (d : Int) := by simp [IntKind.wrap, IntKind.bits, IntKind.signed]; omega
              have q2 : (((d + 48 : Nat) : Int) - 48) = (d : Int) := by omega
              clear hn63
              by_cases hcmp : (9223372036854775808 - (d : Int)) / 10 < n
              · have hv63 : 9223372036854775808 < v := by omega
                have HRES := Lib.hid (show anR (numR p q v z) = .tuple #[tokV 0 ⟨#[]⟩ 0 0, .int .i64 0, spotV 5 p] by rw [HNUM.out, if_pos hv63]; rfl)
                clear hv63 hge
                go_wp2_with fail
                refine (rbad_any 5 p _).mono ?_
                rintro e w9 ⟨rfl, hb9⟩
                have HA9 := Lib.hid (Blk.below HA8.out hb9 (Blk.lt HA8.out))
                have HB9 := Lib.hid (Blk.below HB8.out hb9 (Blk.lt HB8.out))
                have HX9 := Lib.hid (below_low HX8.out HX8.out.size hb9)
                clear hb9
                obtain ⟨d0, d1, d2, d3⟩ := cell2b HB9.out
                obtain ⟨b0, b1, b2, b3⟩ := cell4b HA9.out
                have e0 := (HA9.out).frozen 0
                have e1 := (HA9.out).frozen 1
                have e2 := (HA9.out).frozen 2
                have e3 := (HA9.out).frozen 3
                unfold tokV spotV
                go_wp2
                obtain ⟨hA, hB⟩ := two_set HA9.out HB9.out (by omega) (.int .u8 0) (.string ⟨#[]⟩) (.int .u64 0) (.int .i64 0) (.int .i64 5) (.int .i64 p)
                have HB6 := Lib.hid (two_below (g := w.heap.size) (h := w.heap.size + 1) HX9.out (Nat.le_refl _) (Nat.le_succ _) (.int .u8 0) (.string ⟨#[]⟩) (.int .u64 0) (.int .i64 0) (.int .i64 5) (.int .i64 p))
                clear d0 d1 d2 d3 b0 b1 b2 b3 e0 e1 e2 e3
                obtain ⟨d0, d1, _, _⟩ := cell2b hB
                obtain ⟨c0, c1, c2, c3⟩ := cell4b hA
                refine bodyPost_ret (v := .tuple #[tokV 0 ⟨#[]⟩ 0 0, .int .i64 0, spotV 5 p]) ?_ rfl ?_
                · simp [results, Tryz.results34, go_sem, c0, c1, c2, c3, d0, d1, tokV, spotV]
                · exact ⟨by rw [HRES.out], HB6.out⟩

              · have hcmp2 : (n : Int) ≤ (9223372036854775808 - (d : Int)) / 10 := by omega
                have hle63 : 10 * n + d ≤ 9223372036854775808 := by omega
                have HLE := Lib.hid hle63
                clear hcmp hle63 hge
                go_wp2
                go_roundw
                case rel => exact ⟨k + 1, 10 * n + d, by omega, by omega, by go_num, by go_num, HLE.out, HVK2.out, by trivial⟩
                case measure => simp [intOf]; omega
            · obtain rfl : k = q := by omega
              obtain rfl : n = v := by
                have h1 := HVK.out
                rw [Nat.sub_self, List.take_zero] at h1
                exact h1
              have HRES := Lib.hid (show anR (numR p k n z) = .tuple #[tokV 3 ⟨#[]⟩ n p, .int .i64 k, spotV 0 0] by rw [HNUM.out, if_neg (by have := HN63.out; omega)]; rfl)
              clear HVK
              obtain ⟨d0, d1, d2, d3⟩ := cell2b HB8.out
              obtain ⟨b0, b1, b2, b3⟩ := cell4b HA8.out
              have e0 := (HA8.out).frozen 0
              have e1 := (HA8.out).frozen 1
              have e2 := (HA8.out).frozen 2
              have e3 := (HA8.out).frozen 3

              go_wp2
              obtain ⟨hA, hB⟩ := two_set HA8.out HB8.out (by omega) (.int .u8 3) (.string ⟨#[]⟩) (.int .u64 n) (.int .i64 p) (.int .i64 0) (.int .i64 0)
              have HB6 := Lib.hid (two_below (g := w.heap.size) (h := w.heap.size + 1) HX8.out (Nat.le_refl _) (Nat.le_succ _) (.int .u8 3) (.string ⟨#[]⟩) (.int .u64 n) (.int .i64 p) (.int .i64 0) (.int .i64 0))
              clear d0 d1 d2 d3 b0 b1 b2 b3 e0 e1 e2 e3
              obtain ⟨d0, d1, _, _⟩ := cell2b hB
              obtain ⟨c0, c1, c2, c3⟩ := cell4b hA
              refine bodyPost_ret (v := .tuple #[tokV 3 ⟨#[]⟩ n p, .int .i64 k, spotV 0 0]) ?_ rfl ?_
              · simp [results, Tryz.results34, go_sem, c0, c1, c2, c3, d0, d1, tokV, spotV]
              · exact ⟨by rw [HRES.out], HB6.out⟩

end Go.Proofs.YtibnmkjabpoppaaGreatDoor
