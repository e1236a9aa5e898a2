/- Plain mathematics: what is taken of a short form, and what short form stands there. -/
import Derived.Test.YtocbdehcjcggeaaNumMath
namespace Go.Proofs.Ytocbdehcjcggeaa
theorem takeF_some : ∀ (L : List Nat) (i acc n k : Nat), (∀ x ∈ L, x < 256) → i ≤ 8 → takeF i acc L = some (n, k) →
    ∃ t high lo, k = i + t + 1 ∧ k ≤ 9 ∧ t + 1 ≤ L.length ∧ high / 128 ^ t = acc ∧ L.take (t + 1) = digs t high ++ [lo] ∧ (k = 9 → n = high * 256 + lo ∧ lo < 256) ∧ (k < 9 → n = high * 128 + lo ∧ lo < 128)
  | [], _, _, _, _, _, _, h => by simp [takeF] at h
  | c :: L, i, acc, n, k, hl, hi, h => by
    have hc := hl c (by simp)
    unfold takeF at h
    split at h
    · rename_i h8
      simp only [Option.some.injEq, Prod.mk.injEq] at h
      obtain ⟨rfl, rfl⟩ := h
      exact ⟨0, acc, c, by omega, by omega, by simp, by simp, by simp [digs], fun _ => ⟨rfl, hc⟩, fun h => by omega⟩
    · split at h
      · rename_i h8 h7
        simp only [Option.some.injEq, Prod.mk.injEq] at h
        obtain ⟨rfl, rfl⟩ := h
        exact ⟨0, acc, c, by omega, by omega, by simp, by simp, by simp [digs], fun h => by omega, fun _ => ⟨rfl, h7⟩⟩
      · rename_i h8 h7
        obtain ⟨t, high, lo, hk, hk9, hlen, hq, htk, h9, hlt⟩ := takeF_some L (i + 1) (acc * 128 + c % 128) n k (fun x hx => hl x (by simp [hx])) (by omega) h
        refine ⟨t + 1, high, lo, by omega, hk9, by simpa using hlen, ?_, ?_, h9, hlt⟩
        · rw [Nat.pow_succ, ← Nat.div_div_eq_div_mul, hq]; omega
        · rw [List.take_succ_cons, htk]
          simp only [digs, List.cons_append, hq]
          congr 1
          omega
theorem high_low {n k high lo : Nat} (hs : sz n = k) (h9 : k = 9 → n = high * 256 + lo ∧ lo < 256) (hlt : k < 9 → n = high * 128 + lo ∧ lo < 128) : Go.Proofs.Ytocbdehcjcggeaa.high n = high ∧ low n = lo := by
  have := sz_le n
  by_cases h : n < 72057594037927936
  · have hk : k < 9 := by
      have : sz n ≤ 8 := by unfold sz; repeat (first | omega | split)
      omega
    have := hlt hk
    unfold Go.Proofs.Ytocbdehcjcggeaa.high low
    rw [if_pos h, if_pos h]; omega
  · have hk : k = 9 := by rw [← hs]; exact sz_big (by omega)
    have := h9 hk
    unfold Go.Proofs.Ytocbdehcjcggeaa.high low
    rw [if_neg h, if_neg h]; omega
theorem taken_put {L : List Nat} {n k : Nat} (hl : ∀ x ∈ L, x < 256) (h : takeF 0 0 L = some (n, k)) :
    1 ≤ k ∧ k ≤ 9 ∧ k ≤ L.length ∧ n < 18446744073709551616 ∧ (sz n = k → putL n = L.take k) := by
  obtain ⟨t, high, lo, hk, hk9, hlen, hq, htk, h9, hlt⟩ := takeF_some L 0 0 n k hl (by omega) h
  have hhi : high < 128 ^ t := by
    rcases Nat.lt_or_ge high (128 ^ t) with h | h
    · exact h
    · have := Nat.div_pos h (Nat.pow_pos (by omega)); omega
  have h8 : 128 ^ t ≤ 128 ^ 8 := Nat.pow_le_pow_right (by omega) (by omega)
  have e8 : (128 : Nat) ^ 8 = 72057594037927936 := by decide
  refine ⟨by omega, hk9, by omega, ?_, fun hs => ?_⟩
  · by_cases h : k = 9
    · have := h9 h; omega
    · have := hlt (by omega); omega
  · obtain ⟨e1, e2⟩ := high_low hs h9 hlt
    unfold putL
    rw [e1, e2, hs, show k - 1 = t from by omega, show k = t + 1 from by omega, htk]
theorem takeF_put : ∀ (t i acc high lo : Nat) (more : List Nat), high / 128 ^ t = acc → i + t ≤ 8 → (i + t < 8 → lo < 128) →
    takeF i acc (digs t high ++ lo :: more) = some (if i + t = 8 then high * 256 + lo else high * 128 + lo, i + t + 1)
  | 0, i, acc, high, lo, more, hq, hi, hlo => by
    simp only [Nat.pow_zero, Nat.div_one] at hq
    subst hq
    simp only [digs, List.nil_append, takeF, Nat.add_zero]
    by_cases h : i = 8
    · rw [if_pos h, if_pos h, h]
    · rw [if_neg h, if_neg h, if_pos (hlo (by omega))]
  | t + 1, i, acc, high, lo, more, hq, hi, hlo => by
    simp only [digs, List.cons_append, takeF]
    rw [if_neg (by omega), if_neg (by omega)]
    have e : acc * 128 + (high / 128 ^ t % 128 + 128) % 128 = high / 128 ^ t := by
      rw [Nat.pow_succ, ← Nat.div_div_eq_div_mul] at hq
      omega
    rw [e, takeF_put t (i + 1) (high / 128 ^ t) high lo more rfl (by omega) (fun h => hlo (by omega))]
    rw [show i + 1 + t = i + (t + 1) from by omega]
theorem takeF_digs : ∀ (t i acc high j : Nat), i + t ≤ 8 → takeF i acc ((digs t high).take j) = none
  | 0, _, _, _, _, _ => by simp [digs, takeF]
  | t + 1, i, acc, high, j, hi => by
    cases j with
    | zero => simp [takeF]
    | succ j =>
      simp only [digs, List.take_succ_cons, takeF]
      rw [if_neg (by omega), if_neg (by omega)]
      exact takeF_digs t (i + 1) _ high j (by omega)
theorem low_lt {n : Nat} : low n < 256 ∧ (n < 72057594037927936 → low n < 128) := by
  unfold low
  constructor
  · split <;> omega
  · intro h; rw [if_pos h]; omega
theorem sz_lt_iff (n : Nat) : sz n = 9 ↔ 72057594037927936 ≤ n := by
  constructor
  · intro h
    rcases Nat.lt_or_ge n 72057594037927936 with h2 | h2
    · have : sz n ≤ 8 := by unfold sz; repeat (first | omega | split)
      omega
    · exact h2
  · exact sz_big
theorem high_lt {n : Nat} (h : n < 18446744073709551616) : high n / 128 ^ (sz n - 1) = 0 := by
  have hs := sz_le n
  apply Nat.div_eq_of_lt
  by_cases h8 : sz n = 9
  · have h2 := (sz_lt_iff n).1 h8
    rw [h8]
    have e8 : (128 : Nat) ^ (9 - 1) = 72057594037927936 := by decide
    rw [e8]; unfold high; rw [if_neg (by omega)]; omega
  · have h2 : n < 72057594037927936 := by
      rcases Nat.lt_or_ge n 72057594037927936 with h2 | h2
      · exact h2
      · exact absurd (sz_big h2) h8
    have h3 := (sz_iff (a := n) hs.1 (by omega)).2 (Nat.le_refl _)
    unfold high; rw [if_pos h2]
    have e : 128 ^ sz n = 128 ^ (sz n - 1) * 128 := by rw [← Nat.pow_succ]; congr 1; omega
    rw [e] at h3
    exact Nat.div_lt_of_lt_mul (by rw [Nat.mul_comm]; exact h3)
theorem put_taken (n : Nat) (more : List Nat) (h : n < 18446744073709551616) : takeF 0 0 (putL n ++ more) = some (n, sz n) := by
  have hs := sz_le n
  unfold putL
  rw [List.append_assoc, List.singleton_append, takeF_put (sz n - 1) 0 0 (high n) (low n) more (high_lt h) (by omega) (fun h9 => low_lt.2 (by
    rcases Nat.lt_or_ge n 72057594037927936 with h2 | h2
    · exact h2
    · have := sz_big h2; omega))]
  rw [show 0 + (sz n - 1) + 1 = sz n from by omega]
  congr 2
  by_cases h8 : sz n = 9
  · have h2 := (sz_lt_iff n).1 h8
    rw [if_pos (by omega)]; unfold high low; rw [if_neg (by omega), if_neg (by omega)]; omega
  · have h2 : n < 72057594037927936 := by
      rcases Nat.lt_or_ge n 72057594037927936 with h2 | h2
      · exact h2
      · exact absurd (sz_big h2) h8
    rw [if_neg (by omega)]; unfold high low; rw [if_pos h2, if_pos h2]; omega
theorem put_short (n j : Nat) (h : j < sz n) : takeF 0 0 ((putL n).take j) = none := by
  have hs := sz_le n
  unfold putL
  rw [List.take_append_of_le_length (by rw [digs_length]; omega)]
  exact takeF_digs _ _ _ _ _ (by omega)
theorem putL_lt (n : Nat) : ∀ x ∈ putL n, x < 256 := by
  intro x h
  simp only [putL, List.mem_append, List.mem_singleton] at h
  rcases h with h | rfl
  · exact digs_lt _ _ x h
  · exact low_lt.1
end Go.Proofs.Ytocbdehcjcggeaa
