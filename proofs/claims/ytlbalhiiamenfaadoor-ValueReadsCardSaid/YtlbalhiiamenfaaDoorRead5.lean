/- counterfoilref07.number. Condition: the text has no more than a hundred thousand bytes. -/
import Derived.Test.YtlbalhiiamenfaaDoorRead4
import Derived.Outline
namespace Go.Proofs.YtlbalhiiamenfaaDoor
open Go.RowKit
set_option linter.unusedVariables false
/-- what number answers -/
def NumP (L : List Nat) (w : World) (e : Ending) (w' : World) : Prop := w = w' ∧
  ((∃ n, numZ L = some n ∧ e = .returned (.tuple #[.int .i64 n, .bool true])) ∨ (numZ L = none ∧ ∃ x : Int, e = .returned (.tuple #[.int .i64 x, .bool false])))
theorem decV_digit {acc c : Nat} {r : List Nat} (h : 48 ≤ c ∧ c ≤ 57) : decV acc (c :: r) = decV (10 * acc + (c - 48)) r := by simp only [decV]; rw [if_pos h]
theorem decV_bad {acc c : Nat} {r : List Nat} (h : ¬ (48 ≤ c ∧ c ≤ 57)) : decV acc (c :: r) = none := by simp only [decV]; rw [if_neg h]
theorem numZ_neg {L T : List Nat} (h : L = 45 :: T) : numZ L = if T.length < 1 ∨ 19 < T.length ∨ T.head? = some 48 then none else match decV 0 T with
      | some n => if n ≤ 9223372036854775808 then some (-(n : Int)) else none
      | none => none := by
  subst h
  unfold numZ
  rw [if_pos (show (45 :: T).head? = some 45 from rfl)]
  rfl
theorem numZ_pos {L : List Nat} (h : L.head? ≠ some 45) : numZ L = if L.length < 1 ∨ 19 < L.length ∨ (L.head? = some 48 ∧ 1 < L.length) then none else match decV 0 L with
      | some n => if n < 9223372036854775808 then some (n : Int) else none
      | none => none := by
  unfold numZ
  rw [if_neg h]
  rfl
theorem pow18 {j : Nat} {z : Int} (hj : j ≤ 18) (h : z < (10 : Int) ^ j) : z < 1000000000000000000 := by
  have h1 : (10 : Nat) ^ j ≤ 10 ^ 18 := Nat.pow_le_pow_right (by omega) hj
  have e : (10 : Nat) ^ 18 = 1000000000000000000 := by decide
  have e2 : ((10 ^ j : Nat) : Int) = (10 : Int) ^ j := by simp
  omega
theorem pow19 {j : Nat} {z : Int} (hj : j ≤ 19) (h : z < (10 : Int) ^ j) : z < 10000000000000000000 := by
  have h1 : (10 : Nat) ^ j ≤ 10 ^ 19 := Nat.pow_le_pow_right (by omega) hj
  have e : (10 : Nat) ^ 19 = 10000000000000000000 := by decide
  have e2 : ((10 ^ j : Nat) : Int) = (10 : Int) ^ j := by simp
  omega
theorem head_getD {s : ByteArray} (h : 0 < s.size) : (bts s).head? = some ((bts s).getD 0 0) := by
  cases hb : bts s with
  | nil => have := bts_length s; rw [hb] at this; simp at this; omega
  | cons a l => rfl
set_option maxRecDepth 100000 in
set_option maxHeartbeats 8000000 in
theorem rnumber_neg (s : ByteArray) (w : World) (hl : s.size ≤ 100000) (D : ByteArray) (hD : s.extract 1 s.size = D) (h : bts s = 45 :: bts D) : Calls Tryd.prog 46 #[.string s] w (NumP (bts s) w) := by
  have hz := numZ_neg h
  have hlen := bts_length s
  have hlD := bts_length D
  rw [h] at hlen
  simp only [List.length_cons] at hlen
  have hy0 := byte_at s 0 (by omega)
  rw [h] at hy0
  simp only [List.getD_cons_zero] at hy0
  have hs0 : (0 : Int) < s.size := by omega
  have hs1 : (1 : Int) ≤ s.size := by omega
  have hds : s.size = D.size + 1 := by omega
  have HZ := Lib.hid hz
  have HDS := Lib.hid hds
  clear hz h hds
  go_enter Tryd.func46, Tryd.ntmps46
  go_upto_if 17 with fail
  go_cut [5] (fun s5 wx => s5 = .string D ∧ wx = w)
  case first =>
    go_wp2_with fail
    go_meet
    exact ⟨by first | rfl | rw [hD], rfl⟩
  case rest =>
    obtain ⟨rfl, rfl⟩ := hcut
    clear hD hy0 hs0 hs1
    have HLD := Lib.hid hlD
    by_cases c1 : D.size < 1
    · have HN := Lib.hid (show numZ (bts s) = none by rw [HZ.out, if_pos (.inl (by rw [HLD.out]; exact c1))])
      have k1 : (D.size : Int) < 1 := by omega
      clear c1 hlD
      go_wp2
      go_ret2
      exact ⟨rfl, .inr ⟨HN.out, _, rfl⟩⟩
    · by_cases c2 : 19 < D.size
      · have HN := Lib.hid (show numZ (bts s) = none by rw [HZ.out, if_pos (.inr (.inl (by rw [HLD.out]; exact c2)))])
        have k1 : (1 : Int) ≤ D.size := by omega
        have k2 : (19 : Int) < D.size := by omega
        clear c1 c2 hlD
        go_wp2
        go_ret2
        exact ⟨rfl, .inr ⟨HN.out, _, rfl⟩⟩
      · have k1 : (1 : Int) ≤ D.size := by omega
        have k0 : (0 : Int) < D.size := by omega
        have k2 : (D.size : Int) ≤ 19 := by omega
        have hy := byte_at D 0 (by omega)
        have hh := head_getD (s := D) (by omega)
        generalize hc0 : (bts D).getD 0 0 = c0 at *
        have HH := Lib.hid hh
        have HC12 := Lib.hid (And.intro c1 c2)
        clear hh hc0
        try clear hlD
        have hs1 : (1 : Int) < s.size := by have := HDS.out; omega
        by_cases c3 : c0 = 48
        · have HN := Lib.hid (show numZ (bts s) = none by rw [HZ.out, if_pos (.inr (.inr (by rw [HH.out, c3])))])
          have k3 : ((c0 : Int) == 48) = true := by rw [c3]; rfl
          clear c3
          go_wp2
          go_ret2
          exact ⟨rfl, .inr ⟨HN.out, _, rfl⟩⟩
        · have HG := Lib.hid (show ¬ ((bts D).length < 1 ∨ 19 < (bts D).length ∨ (bts D).head? = some 48) by
            rw [HLD.out, HH.out]
            have := HC12.out
            rintro (h | h | h)
            · omega
            · omega
            · exact c3 (by simpa using h))
          have k3 : ((c0 : Int) == 48) = false := by rw [beq_eq_false_iff_ne]; omega
          clear c3
          go_wp2
          clear hy
          go_loop [6, 7] (fun n i => ∃ (j : Nat) (z : Int), j ≤ D.size ∧ n = .int .u64 z ∧ i = .int .i64 j ∧ 0 ≤ z ∧ z < (10 : Int) ^ j ∧ decV 0 (bts D) = decV z.toNat ((bts D).drop j)) (fun _ i => D.size - (intOf i).toNat)
          case atStart => exact ⟨0, 0, by omega, rfl, rfl, by omega, by simp, by simp⟩
          case round =>
            obtain ⟨j, z, hj, rfl, rfl, hz0, hzp, hdec⟩ := hrel
            by_cases hjn : j < D.size
            · have hz18 := pow18 (by have := HC12.out; omega) hzp
              have hby := byte_at D j hjn
              have h256 := bts_getD_lt D j
              have hd : (bts D).drop j = (bts D).getD j 0 :: (bts D).drop (j + 1) := by
                rw [List.drop_eq_getElem_cons (by rw [HLD.out]; exact hjn), List.getD_eq_getElem?_getD, List.getElem?_eq_getElem (by rw [HLD.out]; exact hjn)]; rfl
              generalize (bts D).getD j 0 = c at *
              rw [hd] at hdec
              have jI : (j : Int) < D.size := by omega
              have jI0 : (0 : Int) ≤ j := by omega
              have HZP := Lib.hid hzp
              by_cases hc : 48 ≤ c ∧ c ≤ 57
              · rw [decV_digit hc] at hdec
                have HDE := Lib.hid hdec
                obtain ⟨hc1, hc2⟩ := hc
                have q1 : (48 : Int) ≤ c := by omega
                have q2 : (c : Int) ≤ 57 := by omega
                clear hdec hd hzp hc1 hc2
                go_wp2
                go_round
                case rel =>
                  refine ⟨j + 1, 10 * z + ((c : Int) - 48), by omega, by go_num, by go_num, by omega, ?_, ?_⟩
                  · have := HZP.out
                    rw [Int.pow_succ]; omega
                  · rw [HDE.out]; congr 1; omega
                case measure => simp [intOf]; omega
              · rw [decV_bad hc] at hdec
                have HN := Lib.hid (show numZ (bts s) = none by rw [HZ.out, if_neg HG.out, hdec])
                by_cases q0 : c < 48
                · have q1 : (c : Int) < 48 := by omega
                  clear hdec hd hzp hc q0
                  go_wp2
                  go_ret2
                  exact ⟨rfl, .inr ⟨HN.out, _, rfl⟩⟩
                · have q1 : (48 : Int) ≤ c := by omega
                  have q2 : (57 : Int) < c := by omega
                  clear hdec hd hzp hc q0
                  go_wp2
                  go_ret2
                  exact ⟨rfl, .inr ⟨HN.out, _, rfl⟩⟩
            · obtain rfl : j = D.size := by omega
              have hz19 := pow19 (by have := HC12.out; omega) hzp
              rw [List.drop_of_length_le (by rw [HLD.out]; exact Nat.le_refl _)] at hdec
              simp only [decV] at hdec
              by_cases hb : z ≤ 9223372036854775808
              · have HN := Lib.hid (show numZ (bts s) = some (-z) by
                  rw [HZ.out, if_neg HG.out, hdec]
                  simp only
                  rw [if_pos (by omega)]
                  congr 2; omega)
                have hX : IntKind.i64.wrap (IntKind.u64.wrap (-z)) = -z := by rw [IntKind.wrap_i64, IntKind.wrap_u64]; omega
                have hZZ : IntKind.i64.wrap z = z ∨ z = 9223372036854775808 := by rw [IntKind.wrap_i64]; omega
                have hB : decide (z ≤ 9223372036854775808) = true := by simp [hb]
                clear hdec hzp
                go_wp2
                go_ret2
                exact ⟨rfl, .inl ⟨_, HN.out, by first | rfl | (rw [hX])⟩⟩
              · have HN := Lib.hid (show numZ (bts s) = none by
                  rw [HZ.out, if_neg HG.out, hdec]
                  simp only
                  rw [if_neg (by omega)])
                have hb2 : 9223372036854775808 < z := by omega
                have hB : decide (z ≤ 9223372036854775808) = false := by simp [hb]
                clear hdec hzp hb
                go_wp2
                go_ret2
                exact ⟨rfl, .inr ⟨HN.out, _, rfl⟩⟩
set_option maxRecDepth 100000 in
set_option maxHeartbeats 8000000 in
theorem rnumber_pos (s : ByteArray) (w : World) (hl : s.size ≤ 100000) (h : (bts s).head? ≠ some 45) : Calls Tryd.prog 46 #[.string s] w (NumP (bts s) w) := by
  have hz := numZ_pos h
  have hlen := bts_length s
  have hlD := hlen
  have HZ := Lib.hid hz
  clear hz
  have hneg : (s.size = 0) ∨ (0 < s.size ∧ ((bts s).getD 0 0) ≠ 45) := by
    by_cases h0 : s.size = 0
    · exact .inl h0
    · refine .inr ⟨by omega, fun e => h ?_⟩
      rw [head_getD (by omega), e]
  clear h
  go_enter Tryd.func46, Tryd.ntmps46
  go_upto_region 1 with fail
  go_cut [4] (fun s4 wx => s4 = .bool false ∧ wx = w)
  case first =>
    rcases hneg with h0 | ⟨h0, h1⟩
    · have h0I : (s.size : Int) ≤ 0 := by omega
      clear h0
      go_wp2_with fail
      go_meet
      exact ⟨rfl, rfl⟩
    · have h0I : (0 : Int) < s.size := by omega
      have hy0 := byte_at s 0 h0
      have h1I : (((bts s).getD 0 0 : Nat) == (45 : Int)) = false := by rw [beq_eq_false_iff_ne]; omega
      generalize (bts s).getD 0 0 = c0 at *
      clear h1
      go_wp2_with fail
      go_meet
      exact ⟨rfl, rfl⟩
  case rest =>
    obtain ⟨rfl, rfl⟩ := hcut
    have HDS : Hid (s.size = s.size) := Lib.hid rfl
    clear hneg
    have HLD := Lib.hid hlD
    by_cases c1 : s.size < 1
    · have HN := Lib.hid (show numZ (bts s) = none by rw [HZ.out, if_pos (.inl (by rw [HLD.out]; exact c1))])
      have k1 : (s.size : Int) < 1 := by omega
      clear c1 hlD
      go_wp2
      go_ret2
      exact ⟨rfl, .inr ⟨HN.out, _, rfl⟩⟩
    · by_cases c2 : 19 < s.size
      · have HN := Lib.hid (show numZ (bts s) = none by rw [HZ.out, if_pos (.inr (.inl (by rw [HLD.out]; exact c2)))])
        have k1 : (1 : Int) ≤ s.size := by omega
        have k2 : (19 : Int) < s.size := by omega
        clear c1 c2 hlD
        go_wp2
        go_ret2
        exact ⟨rfl, .inr ⟨HN.out, _, rfl⟩⟩
      · have k1 : (1 : Int) ≤ s.size := by omega
        have k0 : (0 : Int) < s.size := by omega
        have k2 : (s.size : Int) ≤ 19 := by omega
        have hy := byte_at s 0 (by omega)
        have hh := head_getD (s := s) (by omega)
        generalize hc0 : (bts s).getD 0 0 = c0 at *
        have HH := Lib.hid hh
        have HC12 := Lib.hid (And.intro c1 c2)
        clear hh hc0
        try clear hlD
        by_cases c3 : c0 = 48 ∧ 1 < s.size
        · have HN := Lib.hid (show numZ (bts s) = none by rw [HZ.out, if_pos (.inr (.inr ⟨by rw [HH.out, c3.1], by rw [HLD.out]; exact c3.2⟩))])
          have k3 : ((c0 : Int) == 48) = true := by rw [c3.1]; rfl
          have k4 : (1 : Int) < s.size := by omega
          clear c3
          go_wp2
          go_ret2
          exact ⟨rfl, .inr ⟨HN.out, _, rfl⟩⟩
        · have HG := Lib.hid (show ¬ ((bts s).length < 1 ∨ 19 < (bts s).length ∨ ((bts s).head? = some 48 ∧ 1 < (bts s).length)) by
            rw [HLD.out, HH.out]
            have := HC12.out
            rintro (h | h | ⟨h, h'⟩)
            · omega
            · omega
            · exact c3 ⟨by simpa using h, h'⟩)
          have k3 : (((c0 : Int) == 48) = false) ∨ (((c0 : Int) == 48) = true ∧ (s.size : Int) ≤ 1) := by
            by_cases e : c0 = 48
            · exact .inr ⟨by rw [e]; rfl, by have : ¬ 1 < s.size := fun h => c3 ⟨e, h⟩; omega⟩
            · exact .inl (by rw [beq_eq_false_iff_ne]; omega)
          clear c3
          go_upto_region 5 with fail
          go_cut [37] (fun s37 wx => s37 = .bool false ∧ wx = wc)
          case first =>
            rcases k3 with k3 | ⟨k3, k4⟩
            all_goals
              go_wp2_with fail
              go_meet
              exact ⟨congrArg Value.bool (by simp only [Bool.or_eq_false_iff, decide_eq_false_iff_not]; omega), rfl⟩
          case rest =>
            obtain ⟨rfl, rfl⟩ := hcut
            clear k3
            go_wp2
            clear hy
            go_loop [6, 7] (fun n i => ∃ (j : Nat) (z : Int), j ≤ s.size ∧ n = .int .u64 z ∧ i = .int .i64 j ∧ 0 ≤ z ∧ z < (10 : Int) ^ j ∧ decV 0 (bts s) = decV z.toNat ((bts s).drop j)) (fun _ i => s.size - (intOf i).toNat)
            case atStart => exact ⟨0, 0, by omega, rfl, rfl, by omega, by simp, by simp⟩
            case round =>
              obtain ⟨j, z, hj, rfl, rfl, hz0, hzp, hdec⟩ := hrel
              by_cases hjn : j < s.size
              · have hz18 := pow18 (by have := HC12.out; omega) hzp
                have hby := byte_at s j hjn
                have h256 := bts_getD_lt s j
                have hd : (bts s).drop j = (bts s).getD j 0 :: (bts s).drop (j + 1) := by
                  rw [List.drop_eq_getElem_cons (by rw [HLD.out]; exact hjn), List.getD_eq_getElem?_getD, List.getElem?_eq_getElem (by rw [HLD.out]; exact hjn)]; rfl
                generalize (bts s).getD j 0 = c at *
                rw [hd] at hdec
                have jI : (j : Int) < s.size := by omega
                have jI0 : (0 : Int) ≤ j := by omega
                have HZP := Lib.hid hzp
                by_cases hc : 48 ≤ c ∧ c ≤ 57
                · rw [decV_digit hc] at hdec
                  have HDE := Lib.hid hdec
                  obtain ⟨hc1, hc2⟩ := hc
                  have q1 : (48 : Int) ≤ c := by omega
                  have q2 : (c : Int) ≤ 57 := by omega
                  clear hdec hd hzp hc1 hc2
                  go_wp2
                  go_round
                  case rel =>
                    refine ⟨j + 1, 10 * z + ((c : Int) - 48), by omega, by go_num, by go_num, by omega, ?_, ?_⟩
                    · have := HZP.out
                      rw [Int.pow_succ]; omega
                    · rw [HDE.out]; congr 1; omega
                  case measure => simp [intOf]; omega
                · rw [decV_bad hc] at hdec
                  have HN := Lib.hid (show numZ (bts s) = none by rw [HZ.out, if_neg HG.out, hdec])
                  by_cases q0 : c < 48
                  · have q1 : (c : Int) < 48 := by omega
                    clear hdec hd hzp hc q0
                    go_wp2
                    go_ret2
                    exact ⟨rfl, .inr ⟨HN.out, _, rfl⟩⟩
                  · have q1 : (48 : Int) ≤ c := by omega
                    have q2 : (57 : Int) < c := by omega
                    clear hdec hd hzp hc q0
                    go_wp2
                    go_ret2
                    exact ⟨rfl, .inr ⟨HN.out, _, rfl⟩⟩
              · obtain rfl : j = s.size := by omega
                have hz19 := pow19 (by have := HC12.out; omega) hzp
                rw [List.drop_of_length_le (by rw [HLD.out]; exact Nat.le_refl _)] at hdec
                simp only [decV] at hdec
                by_cases hb : z < 9223372036854775808
                · have HN := Lib.hid (show numZ (bts s) = some z by
                    rw [HZ.out, if_neg HG.out, hdec]
                    simp only
                    rw [if_pos (by omega)]
                    congr 1; omega)
                  have hZZ : IntKind.i64.wrap z = z := by rw [IntKind.wrap_i64]; omega
                  have hB : decide (z < 9223372036854775808) = true := by simp [hb]
                  clear hdec hzp
                  go_wp2
                  go_ret2
                  exact ⟨rfl, .inl ⟨_, HN.out, rfl⟩⟩
                · have HN := Lib.hid (show numZ (bts s) = none by
                    rw [HZ.out, if_neg HG.out, hdec]
                    simp only
                    rw [if_neg (by omega)])
                  have hb2 : 9223372036854775808 ≤ z := by omega
                  have hB : decide (z < 9223372036854775808) = false := by simp [hb]
                  clear hdec hzp hb
                  go_wp2
                  go_ret2
                  exact ⟨rfl, .inr ⟨HN.out, _, rfl⟩⟩
theorem rnumber (s : ByteArray) (w : World) (hl : s.size ≤ 100000) : Calls Tryd.prog 46 #[.string s] w (NumP (bts s) w) := by
  by_cases h : (bts s).head? = some 45
  · refine rnumber_neg s w hl _ rfl ?_
    rw [bts_cutr]
    cases hb : bts s with
    | nil => rw [hb] at h; cases h
    | cons a l => rw [hb] at h; simp only [List.head?_cons, Option.some.injEq] at h; subst h; rfl
  · exact rnumber_pos s w hl h
end Go.Proofs.YtlbalhiiamenfaaDoor
