/- Plain mathematics of literals: a value as it is written, and back. Conditions: those of each lemma. -/
import Derived.Test.YtibnmkjabpoppaaGreatDoorWords
import Derived.Test.YtibnmkjabpoppaaGreatDoorRecMath
import Derived.Lib.ItoaNum
import Derived.Lib.ItoaLen
import Derived.Lib.AtoiAll
import Derived.Lib.ParseIntBTie
namespace Go.Proofs.YtibnmkjabpoppaaGreatDoor
set_option linter.unusedVariables false
def nulL : List Nat := [78, 85, 76, 76]
/-- a text's bytes, its quotes doubled -/
def dqL : List Nat → List Nat
  | [] => []
  | c :: r => if c = 39 then 39 :: 39 :: dqL r else c :: dqL r
def hexc (n : Nat) : Nat := if n < 10 then 48 + n else 87 + n
def hexL : List Nat → List Nat
  | [] => []
  | c :: r => hexc (c / 16) :: hexc (c % 16) :: hexL r
def itoL (n : Int) : List Nat := (Lib.itoa n).map UInt8.toNat
/-- how a value is written -/
def litL (x : Val) : List Nat :=
  if chk x ≠ 0 then [] else if x.1 = 0 then nulL else if x.1 = 1 then itoL x.2.1
  else if x.1 = 2 then 39 :: (dqL (bts x.2.2) ++ [39]) else 120 :: 39 :: (hexL (bts x.2.2) ++ [39])
def hexd (c : Nat) : Option Nat := if 48 ≤ c ∧ c ≤ 57 then some (c - 48) else if 97 ≤ c ∧ c ≤ 102 then some (c - 87) else none
/-- what stands behind a text's first quote -/
def unq : List Nat → Option (List Nat)
  | [] => none
  | [c] => if c = 39 then some [] else none
  | c :: d :: r => if c = 39 then (if d = 39 then (unq r).map (39 :: ·) else none) else (unq (d :: r)).map (c :: ·)
/-- what stands behind a blob's first quote -/
def unh : List Nat → Option (List Nat)
  | [] => none
  | [c] => if c = 39 then some [] else none
  | c :: d :: r => if c = 39 then none else match hexd c, hexd d with
    | some a, some b => (unh r).map ((16 * a + b) :: ·)
    | _, _ => none
def unx : List Nat → Option (List Nat)
  | [] => none
  | c :: r => if c = 39 then unh r else none
def decV (acc : Nat) : List Nat → Option Nat
  | [] => some acc
  | c :: r => if 48 ≤ c ∧ c ≤ 57 then decV (10 * acc + (c - 48)) r else none
/-- a number that is written as it should be -/
def numZ (L : List Nat) : Option Int :=
  if L.head? = some 45 then
    (if L.tail.length < 1 ∨ 19 < L.tail.length ∨ L.tail.head? = some 48 then none else match decV 0 L.tail with
      | some n => if n ≤ 9223372036854775808 then some (-(n : Int)) else none
      | none => none)
  else (if L.length < 1 ∨ 19 < L.length ∨ (L.head? = some 48 ∧ 1 < L.length) then none else match decV 0 L with
      | some n => if n < 9223372036854775808 then some (n : Int) else none
      | none => none)
def nulV : Val := (0, 0, bstr [])
def toldZ (k : Int) (o : Option (List Nat)) : Val × Int := match o with
  | some t => if 1000 < t.length then (nulV, 3) else ((k, 0, bstr t), 0)
  | none => (nulV, 6)
/-- the value whose literal L is -/
def readZ (L : List Nat) : Val × Int :=
  if L = nulL then (nulV, 0) else match L with
  | [] => (nulV, 6)
  | c :: r => if c = 39 then toldZ 2 (unq r) else if c = 120 then toldZ 3 (unx r) else match numZ (c :: r) with
    | some n => ((1, n, bstr []), 0)
    | none => (nulV, 6)
theorem unq_dq : ∀ t : List Nat, unq (dqL t ++ [39]) = some t
  | [] => rfl
  | c :: r => by
    have ih := unq_dq r
    by_cases h : c = 39
    · subst h
      simp only [dqL, ↓reduceIte, List.cons_append, unq, ih, Option.map_some]
    · simp only [dqL, h, ↓reduceIte, List.cons_append]
      cases hh : dqL r ++ [39] with
      | nil => simp at hh
      | cons d l => rw [hh] at ih; simp only [unq, h, ↓reduceIte, ih, Option.map_some]
theorem unq_some : ∀ (n : Nat) (r t : List Nat), r.length ≤ n → unq r = some t → r = dqL t ++ [39]
  | 0, [], t, hn, h => by simp [unq] at h
  | 0, _ :: _, t, hn, h => by simp at hn
  | n + 1, [], t, hn, h => by simp [unq] at h
  | n + 1, [c], t, hn, h => by
    simp only [unq] at h
    split at h
    · rename_i hc
      simp only [Option.some.injEq] at h
      subst h hc; rfl
    · cases h
  | n + 1, c :: d :: r, t, hn, h => by
    simp only [unq] at h
    split at h
    · rename_i hc
      split at h
      · rename_i hd
        obtain ⟨u, hu, rfl⟩ := Option.map_eq_some_iff.1 h
        have := unq_some n r u (by simp at hn; omega) hu
        subst hc hd this
        simp [dqL]
      · cases h
    · rename_i hc
      obtain ⟨u, hu, rfl⟩ := Option.map_eq_some_iff.1 h
      have := unq_some n (d :: r) u (by simpa using hn) hu
      rw [this]
      simp [dqL, hc]
theorem hexd_hexc (n : Nat) (h : n < 16) : hexd (hexc n) = some n := by
  unfold hexd hexc
  by_cases h1 : n < 10
  · rw [if_pos h1, if_pos (by omega)]; congr 1; omega
  · rw [if_neg h1, if_neg (by omega), if_pos (by omega)]; congr 1; omega
theorem hexc_ne (n : Nat) (h : n < 16) : hexc n ≠ 39 := by unfold hexc; split <;> omega
theorem hexd_some {c n : Nat} (h : hexd c = some n) : n < 16 ∧ c = hexc n := by
  unfold hexd at h
  unfold hexc
  split at h
  · simp only [Option.some.injEq] at h
    rw [if_pos (by omega)]; omega
  · split at h
    · simp only [Option.some.injEq] at h
      rw [if_neg (by omega)]; omega
    · cases h
theorem unh_hex : ∀ t : List Nat, (∀ x ∈ t, x < 256) → unh (hexL t ++ [39]) = some t
  | [], _ => rfl
  | c :: r, h => by
    have ih := unh_hex r (fun x hx => h x (by simp [hx]))
    have hc := h c (by simp)
    simp only [hexL, List.cons_append, unh, hexc_ne (c / 16) (by omega), ↓reduceIte, hexd_hexc (c / 16) (by omega), hexd_hexc (c % 16) (by omega), ih, Option.map_some]
    congr 2; omega
theorem unh_some : ∀ (n : Nat) (r t : List Nat), r.length ≤ n → unh r = some t → r = hexL t ++ [39] ∧ ∀ x ∈ t, x < 256
  | 0, [], t, hn, h => by simp [unh] at h
  | 0, _ :: _, t, hn, h => by simp at hn
  | n + 1, [], t, hn, h => by simp [unh] at h
  | n + 1, [c], t, hn, h => by
    simp only [unh] at h
    split at h
    · rename_i hc
      simp only [Option.some.injEq] at h
      subst h hc; exact ⟨rfl, fun x hx => by cases hx⟩
    · cases h
  | n + 1, c :: d :: r, t, hn, h => by
    simp only [unh] at h
    split at h
    · cases h
    · split at h
      · rename_i a b ha hb
        obtain ⟨u, hu, rfl⟩ := Option.map_eq_some_iff.1 h
        obtain ⟨e1, e2⟩ := unh_some n r u (by simp at hn; omega) hu
        obtain ⟨a1, a2⟩ := hexd_some ha
        obtain ⟨b1, b2⟩ := hexd_some hb
        refine ⟨?_, fun x hx => ?_⟩
        · rw [e1, a2, b2]
          simp only [hexL, List.cons_append]
          rw [show (16 * a + b) / 16 = a from by omega, show (16 * a + b) % 16 = b from by omega]
        · rcases List.mem_cons.1 hx with rfl | hx
          · omega
          · exact e2 x hx
      · cases h
theorem decV_snoc (c : Nat) : ∀ (A : List Nat) (acc : Nat), decV acc (A ++ [c]) = (decV acc A).bind (fun n => if 48 ≤ c ∧ c ≤ 57 then some (10 * n + (c - 48)) else none)
  | [], acc => by simp [decV]
  | a :: A, acc => by
    simp only [List.cons_append, decV]
    split
    · exact decV_snoc c A _
    · rfl
def digL (u : Nat) : List Nat := (Lib.decDigits u).map UInt8.toNat
theorem digL_small {u : Nat} (h : u < 10) : digL u = [48 + u] := by
  unfold digL
  rw [Lib.decDigits_one h]
  simp only [List.map_cons, List.map_nil, UInt8.toNat_ofNat']
  congr 1; omega
theorem digL_big {u : Nat} (h : ¬ u < 10) : digL u = digL (u / 10) ++ [48 + u % 10] := by
  unfold digL
  rw [Lib.decDigits, dif_neg h, List.map_append]
  simp only [List.map_cons, List.map_nil, UInt8.toNat_ofNat']
  congr 2; omega
theorem digL_ne (u : Nat) : digL u ≠ [] := by
  by_cases h : u < 10
  · rw [digL_small h]; simp
  · rw [digL_big h]; simp
theorem digL_head : ∀ u : Nat, ∃ c r, digL u = c :: r ∧ 48 ≤ c ∧ c ≤ 57 ∧ (c = 48 → u = 0) := by
  intro u
  induction u using Nat.strongRecOn with
  | ind u ih =>
    by_cases h : u < 10
    · exact ⟨48 + u, [], digL_small h, by omega, by omega, by omega⟩
    · obtain ⟨c, r, h1, h2, h3, h4⟩ := ih (u / 10) (by omega)
      exact ⟨c, r ++ [48 + u % 10], by rw [digL_big h, h1]; rfl, h2, h3, fun e => by have := h4 e; omega⟩
theorem digL_len : ∀ (k u : Nat), 1 ≤ k → u < 10 ^ k → (digL u).length ≤ k
  | 0, u, h, _ => by omega
  | k + 1, u, _, hu => by
    by_cases h : u < 10
    · rw [digL_small h]; simp
    · have hk : 1 ≤ k := by
        rcases Nat.eq_zero_or_pos k with rfl | h'
        · simp at hu; omega
        · exact h'
      rw [digL_big h, List.length_append]
      have := digL_len k (u / 10) hk (by rw [Nat.pow_succ] at hu; omega)
      simp; omega
theorem decV_dig : ∀ u : Nat, decV 0 (digL u) = some u := by
  intro u
  induction u using Nat.strongRecOn with
  | ind u ih =>
    by_cases h : u < 10
    · rw [digL_small h]
      simp only [decV]
      rw [if_pos (by omega)]
      congr 1; omega
    · rw [digL_big h, decV_snoc, ih (u / 10) (by omega)]
      simp only [Option.bind_some]
      rw [if_pos (by omega)]
      congr 1; omega
theorem dig_decV : ∀ (k : Nat) (d : List Nat) (n : Nat), d.length = k → d ≠ [] → (d.head? = some 48 → d.length = 1) → decV 0 d = some n → d = digL n
  | 0, d, n, hk, h0, _, _ => absurd (List.eq_nil_of_length_eq_zero hk) h0
  | k + 1, d, n, hk, h0, hh, hd => by
    obtain ⟨A, c, rfl⟩ : ∃ A c, d = A ++ [c] := ⟨d.dropLast, d.getLast h0, (List.dropLast_concat_getLast h0).symm⟩
    rw [decV_snoc] at hd
    rw [List.length_append] at hk
    simp only [List.length_cons, List.length_nil] at hk
    by_cases hA : A = []
    · subst hA
      simp only [decV, Option.bind_some] at hd
      split at hd
      · simp only [Option.some.injEq] at hd
        rw [digL_small (by omega)]
        simp only [List.nil_append, List.cons.injEq, and_true]; omega
      · cases hd
    · cases hm : decV 0 A with
      | none => rw [hm] at hd; cases hd
      | some m =>
        rw [hm] at hd
        simp only [Option.bind_some] at hd
        have hAl : 1 ≤ A.length := by
          rcases Nat.eq_zero_or_pos A.length with h | h
          · exact absurd (List.eq_nil_of_length_eq_zero h) hA
          · exact h
        have hh2 : A.head? ≠ some 48 := fun e => by
          have := hh (by rw [List.head?_append, e]; rfl)
          rw [List.length_append, List.length_cons, List.length_nil] at this
          omega
        have eA := dig_decV k A m (by omega) hA (fun e => absurd e hh2) hm
        split at hd
        · simp only [Option.some.injEq] at hd
          have hm1 : m ≠ 0 := fun e => by subst e; rw [eA] at hh2; exact hh2 (by rw [digL_small (by omega)]; rfl)
          rw [digL_big (u := n) (by omega), show n / 10 = m from by omega, show 48 + n % 10 = c from by omega, ← eA]
        · cases hd
theorem itoL_nn (u : Nat) : itoL (u : Int) = digL u := by
  unfold itoL Lib.itoa digL
  rw [if_neg (by omega)]; rfl
theorem itoL_neg (u : Nat) (h : 1 ≤ u) : itoL (-(u : Int)) = 45 :: digL u := by
  unfold itoL Lib.itoa digL
  rw [if_pos (by omega), Int.natAbs_neg]; rfl
theorem int_cases (n : Int) : (∃ u : Nat, n = u) ∨ ∃ u : Nat, 1 ≤ u ∧ n = -(u : Int) := by
  by_cases h : 0 ≤ n
  · exact .inl ⟨n.toNat, by omega⟩
  · exact .inr ⟨(-n).toNat, by omega, by omega⟩
theorem numZ_ito {n : Int} (h0 : -9223372036854775808 ≤ n) (h1 : n ≤ 9223372036854775807) : numZ (itoL n) = some n := by
  have e19 : (10 : Nat) ^ 19 = 10000000000000000000 := by decide
  rcases int_cases n with ⟨u, rfl⟩ | ⟨u, hu, rfl⟩
  · rw [itoL_nn]
    obtain ⟨c, r, e1, e2, e3, e4⟩ := digL_head u
    have hl := digL_len 19 u (by omega) (by rw [e19]; omega)
    have hd := decV_dig u
    unfold numZ
    rw [e1] at hl hd ⊢
    rw [if_neg (by simp; omega), if_neg ?_, hd]
    · simp only
      rw [if_pos (by omega)]
    · rintro (h | h | ⟨h, h'⟩)
      · simp at h
      · omega
      · simp only [List.head?_cons, Option.some.injEq] at h
        have := e4 h
        subst this
        rw [digL_small (by omega)] at e1
        simp only [List.cons.injEq] at e1
        rw [← e1.2] at h'
        simp at h'
  · rw [itoL_neg u hu]
    obtain ⟨c, r, e1, e2, e3, e4⟩ := digL_head u
    have hl := digL_len 19 u (by omega) (by rw [e19]; omega)
    have hd := decV_dig u
    unfold numZ
    rw [if_pos (show (45 :: digL u).head? = some 45 from rfl), e1]
    rw [e1] at hl hd
    rw [if_neg ?_, List.tail_cons, hd]
    · simp only
      rw [if_pos (by omega)]
    · rintro (h | h | h)
      · simp at h
      · rw [List.tail_cons] at h; omega
      · rw [List.tail_cons] at h
        simp only [List.head?_cons, Option.some.injEq] at h
        have := e4 h
        omega
theorem numZ_some {L : List Nat} {n : Int} (h : numZ L = some n) : L = itoL n ∧ -9223372036854775808 ≤ n ∧ n ≤ 9223372036854775807 := by
  unfold numZ at h
  split at h
  · rename_i h45
    split at h
    · cases h
    · rename_i hc
      split at h
      · rename_i m hm
        split at h
        · rename_i hle
          simp only [Option.some.injEq] at h
          have e := dig_decV _ _ m rfl (fun e => hc (.inl (by rw [e]; simp))) (fun e => absurd (.inr (.inr e)) hc) hm
          have hm1 : 1 ≤ m := by
            rcases Nat.eq_zero_or_pos m with rfl | h'
            · rw [digL_small (by omega)] at e
              exact absurd (.inr (.inr (by rw [e]; rfl))) hc
            · exact h'
          subst h
          refine ⟨?_, by omega, by omega⟩
          rw [itoL_neg m hm1, ← e]
          cases L with
          | nil => cases h45
          | cons a l => simp only [List.head?_cons, Option.some.injEq] at h45; rw [h45]; rfl
        · cases h
      · cases h
  · split at h
    · cases h
    · rename_i hc
      split at h
      · rename_i m hm
        split at h
        · rename_i hle
          simp only [Option.some.injEq] at h
          have e := dig_decV _ _ m rfl (fun e => hc (.inl (by rw [e]; simp))) (fun e => by
            rcases Nat.lt_or_ge 1 L.length with h' | h'
            · exact absurd (.inr (.inr ⟨e, h'⟩)) hc
            · cases L with
              | nil => cases e
              | cons a l => simp at h' ⊢; exact h') hm
          subst h
          exact ⟨by rw [itoL_nn, ← e], by omega, by omega⟩
        · cases h
      · cases h
theorem parse_app (c : UInt8) : ∀ (A : List UInt8) (acc m : Nat), Lib.parseUint10 acc A = .ok m → Lib.parseUint10 acc (A ++ [c]) = Lib.parseUint10 m [c]
  | [], acc, m, h => by
    simp only [Lib.parseUint10] at h
    injection h with h
    subst h; rfl
  | a :: A, acc, m, h => by
    simp only [Lib.parseUint10] at h
    rw [List.cons_append, Lib.parseUint10]
    split at h
    · rename_i h1
      rw [if_pos h1]
      split at h
      · cases h
      · rename_i h2
        rw [if_neg h2]
        split at h
        · cases h
        · rename_i h3
          rw [if_neg h3]
          exact parse_app c A _ m h
    · cases h
theorem parse_dig (u : Nat) (hu : u < 18446744073709551616) : Lib.parseUint10 0 (Lib.decDigits u) = .ok u := by
  induction u using Nat.strongRecOn with
  | ind u ih =>
    by_cases h : u < 10
    · rw [Lib.decDigits_one h]
      have e : (UInt8.ofNat (48 + u)).toNat = 48 + u := by rw [UInt8.toNat_ofNat']; omega
      simp only [Lib.parseUint10, e]
      rw [if_pos (by omega), if_neg (by omega), if_neg (by omega)]
      congr 1; omega
    · rw [Lib.decDigits, dif_neg h, parse_app _ _ 0 (u / 10) (ih (u / 10) (by omega) (by omega))]
      have e : (UInt8.ofNat (48 + u % 10)).toNat = 48 + u % 10 := by rw [UInt8.toNat_ofNat']; omega
      simp only [Lib.parseUint10, e]
      rw [if_pos (by omega), if_neg (by omega), if_neg (by omega)]
      congr 1; omega
theorem decD_ne (u : Nat) : Lib.decDigits u ≠ [] := fun e => digL_ne u (by unfold digL; rw [e]; rfl)
theorem atoi_ito {n : Int} (h0 : -9223372036854775808 ≤ n) (h1 : n ≤ 9223372036854775807) : Lib.atoiAll (Lib.itoa n) = .ok n := by
  rcases int_cases n with ⟨u, rfl⟩ | ⟨u, hu, rfl⟩
  · have e : Lib.itoa (u : Int) = Lib.decDigits u := by unfold Lib.itoa; rw [if_neg (by omega)]; rfl
    rw [e]
    have hp := parse_dig u (by omega)
    obtain ⟨c, r, e1, e2, e3, _⟩ := digL_head u
    unfold digL at e1
    have hne := decD_ne u
    cases hd : Lib.decDigits u with
    | nil => exact absurd hd hne
    | cons a l =>
      rw [hd] at e1 hp
      simp only [List.map_cons, List.cons.injEq] at e1
      obtain ⟨rfl, _⟩ := e1
      unfold Lib.atoiAll
      simp only
      rw [if_neg (by omega)]
      unfold Lib.parseMag
      rw [if_neg (by simp), hp]
      simp only
      rw [if_neg (by omega), if_neg (by omega), if_neg (by omega)]
  · have e : Lib.itoa (-(u : Int)) = 45 :: Lib.decDigits u := by unfold Lib.itoa; rw [if_pos (by omega), Int.natAbs_neg]; rfl
    rw [e]
    have hp := parse_dig u (by omega)
    unfold Lib.atoiAll
    simp only
    rw [if_pos (.inr rfl)]
    unfold Lib.parseMag
    rw [if_neg (decD_ne u), hp]
    simp only
    have e45 : (45 : UInt8).toNat = 45 := rfl
    rw [if_neg (by rw [e45]; omega), if_neg (by rw [e45]; omega), if_pos e45]
theorem itoL_head (n : Int) : ∃ c r, itoL n = c :: r ∧ c ≠ 39 ∧ c ≠ 120 ∧ c ≠ 78 := by
  rcases int_cases n with ⟨u, rfl⟩ | ⟨u, hu, rfl⟩
  · obtain ⟨c, r, e1, e2, e3, e4⟩ := digL_head u
    exact ⟨c, r, by rw [itoL_nn, e1], by omega, by omega, by omega⟩
  · exact ⟨45, _, itoL_neg u hu, by omega, by omega, by omega⟩
theorem dqL_lt {L : List Nat} (h : ∀ x ∈ L, x < 256) : ∀ x ∈ dqL L, x < 256 := by
  induction L with
  | nil => intro x hx; cases hx
  | cons c r ih =>
    have ih' := ih (fun x hx => h x (by simp [hx]))
    intro x hx
    unfold dqL at hx
    split at hx
    · simp at hx
      rcases hx with rfl | hx
      · omega
      · exact ih' x hx
    · simp at hx
      rcases hx with rfl | hx
      · exact h _ (by simp)
      · exact ih' x hx
theorem dqL_le (L : List Nat) : L.length ≤ (dqL L).length ∧ (dqL L).length ≤ 2 * L.length := by
  induction L with
  | nil => simp [dqL]
  | cons c r ih => unfold dqL; split <;> simp <;> omega
theorem hexL_len (L : List Nat) : (hexL L).length = 2 * L.length := by
  induction L with
  | nil => rfl
  | cons c r ih => simp [hexL, ih]; omega
theorem hexL_lt {L : List Nat} (h : ∀ x ∈ L, x < 256) : ∀ x ∈ hexL L, x < 256 := by
  induction L with
  | nil => intro x hx; cases hx
  | cons c r ih =>
    have ih' := ih (fun x hx => h x (by simp [hx]))
    have hc := h c (by simp)
    intro x hx
    simp only [hexL, List.mem_cons] at hx
    rcases hx with rfl | rfl | hx
    · unfold hexc; split <;> omega
    · unfold hexc; split <;> omega
    · exact ih' x hx
theorem itoL_lt (n : Int) : ∀ x ∈ itoL n, x < 256 := by
  intro x hx
  unfold itoL at hx
  obtain ⟨y, _, rfl⟩ := List.mem_map.1 hx
  exact y.toNat_lt
theorem litL_lt (x : Val) : ∀ y ∈ litL x, y < 256 := by
  intro y hy
  unfold litL at hy
  split at hy
  · cases hy
  · split at hy
    · simp only [nulL, List.mem_cons, List.mem_nil_iff, or_false] at hy; omega
    · split at hy
      · exact itoL_lt _ y hy
      · split at hy
        · simp only [List.mem_cons, List.mem_append, List.mem_nil_iff, or_false] at hy
          rcases hy with rfl | hy | rfl
          · omega
          · exact dqL_lt (bts_lt _) y hy
          · omega
        · simp only [List.mem_cons, List.mem_append, List.mem_nil_iff, or_false] at hy
          rcases hy with rfl | rfl | hy | rfl
          · omega
          · omega
          · exact hexL_lt (bts_lt _) y hy
          · omega
/-- what is written is read as it was -/
theorem readZ_lit {x : Val} (hf : Fits x) (hc : chk x = 0) : readZ (litL x) = (x, 0) := by
  obtain ⟨k1, k2, k3, k4⟩ := chk_of hc
  obtain ⟨p, q, s⟩ := x
  obtain ⟨f1, f2, f3, f4⟩ := hf
  simp only at k1 k2 k3 k4 f1 f2 f3 f4
  unfold litL
  rw [if_neg (by rw [hc]; simp)]
  simp only
  by_cases p0 : p = 0
  · subst p0
    rw [if_pos rfl]
    have e1 := k2 (by omega)
    have e2 := empty_of (k3 (by omega))
    subst e1 e2
    rfl
  · rw [if_neg p0]
    by_cases p1 : p = 1
    · subst p1
      rw [if_pos rfl]
      have e2 := empty_of (k3 (by omega))
      subst e2
      obtain ⟨c, r, e1, n1, n2, n3⟩ := itoL_head q
      have hz := numZ_ito f3 f4
      unfold readZ
      rw [e1] at hz ⊢
      rw [if_neg (by simp only [nulL, List.cons.injEq]; intro h; exact n3 h.1)]
      simp only
      rw [if_neg n1, if_neg n2, hz]
    · rw [if_neg p1]
      have e1 := k2 p1
      subst e1
      have hl := bts_length s
      by_cases p2 : p = 2
      · subst p2
        rw [if_pos rfl]
        unfold readZ
        rw [if_neg (by simp [nulL])]
        simp only [↓reduceIte]
        rw [unq_dq]
        simp only [toldZ]
        rw [if_neg (by omega), bstr_bts]
      · obtain rfl : p = 3 := by omega
        rw [if_neg p2]
        unfold readZ
        rw [if_neg (by simp [nulL])]
        simp only
        rw [if_neg (by omega)]
        simp only [unx, ↓reduceIte]
        rw [unh_hex _ (bts_lt s)]
        simp only [toldZ]
        rw [if_neg (by omega), bstr_bts]
theorem toldZ_cases (k : Int) (o : Option (List Nat)) : (∃ t, o = some t ∧ t.length ≤ 1000 ∧ toldZ k o = ((k, 0, bstr t), 0)) ∨ (toldZ k o = (nulV, 3)) ∨ (o = none ∧ toldZ k o = (nulV, 6)) := by
  cases o with
  | none => exact .inr (.inr ⟨rfl, rfl⟩)
  | some t =>
    by_cases h : 1000 < t.length
    · exact .inr (.inl (by simp [toldZ, h]))
    · exact .inl ⟨t, rfl, by omega, by simp only [toldZ]; rw [if_neg h]⟩
/-- what is read may be, and is written as it was; else there is an error -/
theorem readZ_some {L : List Nat} (hl : ∀ x ∈ L, x < 256) : (∃ v, readZ L = (v, 0) ∧ Fits v ∧ chk v = 0 ∧ litL v = L) ∨ readZ L = (nulV, 3) ∨ readZ L = (nulV, 6) := by
  unfold readZ
  by_cases hn : L = nulL
  · rw [if_pos hn]
    exact .inl ⟨nulV, rfl, ⟨by decide, by decide, by decide, by decide⟩, by decide, by rw [hn]; rfl⟩
  · rw [if_neg hn]
    cases L with
    | nil => exact .inr (.inr rfl)
    | cons c r =>
      simp only
      have hlr : ∀ x ∈ r, x < 256 := fun x hx => hl x (by simp [hx])
      by_cases h39 : c = 39
      · rw [if_pos h39]
        rcases toldZ_cases 2 (unq r) with ⟨t, h1, h2, h3⟩ | h | ⟨_, h⟩
        · rw [h3]
          have e := unq_some _ r t (Nat.le_refl _) h1
          have ht : ∀ x ∈ t, x < 256 := by
            have hq : ∀ x ∈ dqL t, x < 256 := fun x hx => hlr x (by rw [e]; simp [hx])
            clear h1 h2 h3 e
            induction t with
            | nil => intro x hx; cases hx
            | cons a u ih =>
              intro x hx
              simp only [dqL] at hq
              split at hq
              · rename_i ha
                rcases List.mem_cons.1 hx with rfl | hx
                · omega
                · exact ih (fun y hy => hq y (by simp [hy])) x hx
              · rcases List.mem_cons.1 hx with rfl | hx
                · exact hq _ (by simp)
                · exact ih (fun y hy => hq y (by simp [hy])) x hx
          have hc0 : chk (2, 0, bstr t) = 0 := by unfold chk; rw [if_neg (by simp), if_neg (by simp only [bstr_size]; omega)]
          refine .inl ⟨_, rfl, ⟨by simp, by simp, by simp, by simp⟩, hc0, ?_⟩
          unfold litL
          rw [if_neg (by rw [hc0]; simp)]
          simp only [↓reduceIte]
          rw [if_neg (by omega), if_neg (by omega), bts_bstr _ ht, h39, e]
        · exact .inr (.inl h)
        · exact .inr (.inr h)
      · rw [if_neg h39]
        by_cases h120 : c = 120
        · rw [if_pos h120]
          rcases toldZ_cases 3 (unx r) with ⟨t, h1, h2, h3⟩ | h | ⟨_, h⟩
          · rw [h3]
            cases r with
            | nil => cases h1
            | cons d u =>
              simp only [unx] at h1
              split at h1
              · rename_i hd
                obtain ⟨e, ht⟩ := unh_some _ u t (Nat.le_refl _) h1
                have hc0 : chk (3, 0, bstr t) = 0 := by unfold chk; rw [if_neg (by simp), if_neg (by simp only [bstr_size]; omega)]
                refine .inl ⟨_, rfl, ⟨by simp, by simp, by simp, by simp⟩, hc0, ?_⟩
                unfold litL
                rw [if_neg (by rw [hc0]; simp)]
                simp only
                rw [if_neg (by omega), if_neg (by omega), if_neg (by omega), bts_bstr _ ht, h120, hd, e]
              · cases h1
          · exact .inr (.inl h)
          · exact .inr (.inr h)
        · rw [if_neg h120]
          cases hz : numZ (c :: r) with
          | none => exact .inr (.inr rfl)
          | some n =>
            obtain ⟨e, h0, h1⟩ := numZ_some hz
            have hc0 : chk (1, n, bstr []) = 0 := by unfold chk; rw [if_neg (by have : (bstr []).size = 0 := rfl; simp only; omega), if_neg (by simp [bstr_size])]
            refine .inl ⟨_, rfl, ⟨by simp, by simp, h0, h1⟩, hc0, ?_⟩
            unfold litL
            rw [if_neg (by rw [hc0]; simp)]
            simp only [↓reduceIte]
            rw [if_neg (by omega), ← e]
end Go.Proofs.YtibnmkjabpoppaaGreatDoor
