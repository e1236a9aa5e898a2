/- Plain mathematics of records: a row as bytes, and back. Conditions: those of each lemma. -/
import Derived.Test.YtocbdehcjcggeaaWords
import Derived.Test.YtocbdehcjcggeaaNumTaken
import Derived.Test.YtocbdehcjcggeaaNumFold
namespace Go.Proofs.Ytocbdehcjcggeaa
abbrev Val := Int × Int × ByteArray
/-- what is wrong with a value -/
def chk (x : Val) : Int := if 3 < x.1 ∨ (x.1 ≠ 1 ∧ x.2.1 ≠ 0) ∨ (x.1 < 2 ∧ x.2.2.size ≠ 0) then 2 else if 1000 < x.2.2.size then 3 else 0
def chkL : List Val → Int
  | [] => 0
  | x :: r => if chk x = 0 then chkL r else chk x
def chkR (l : List Val) : Int := if 16 < l.length then 90 else chkL l
/-- the numbers of a value fit their kinds -/
def Fits (x : Val) : Prop := 0 ≤ x.1 ∧ x.1 < 256 ∧ -9223372036854775808 ≤ x.2.1 ∧ x.2.1 ≤ 9223372036854775807
theorem chkL_app (a b : List Val) : chkL (a ++ b) = if chkL a = 0 then chkL b else chkL a := by
  induction a with
  | nil => simp [chkL]
  | cons x r ih =>
    by_cases h : chk x = 0
    · simp [chkL, h, ih]
    · simp [chkL, h]
theorem chkL_mem {l : List Val} (h : chkL l = 0) : ∀ x ∈ l, chk x = 0 := by
  induction l with
  | nil => intro x hx; cases hx
  | cons y r ih =>
    simp only [chkL] at h
    split at h
    · intro x hx
      rcases List.mem_cons.1 hx with rfl | hx
      · assumption
      · exact ih h x hx
    · contradiction
theorem chkL_zero {l : List Val} (h : ∀ x ∈ l, chk x = 0) : chkL l = 0 := by
  induction l with
  | nil => rfl
  | cons y r ih =>
    simp only [chkL]
    rw [if_pos (h y (by simp)), ih (fun x hx => h x (by simp [hx]))]
def foldN (i : Int) : Nat := (foldZ i).toNat
theorem foldN_lt {i : Int} (h0 : -9223372036854775808 ≤ i) (h1 : i ≤ 9223372036854775807) : foldN i < 18446744073709551616 := by
  unfold foldN foldZ; split <;> omega
theorem foldZ_pos (i : Int) : 0 ≤ foldZ i := by unfold foldZ; split <;> omega
theorem unfold_foldN (i : Int) : unfoldZ (foldN i) = i := by
  unfold foldN foldZ unfoldZ
  split <;> rename_i h
  · rw [Int.toNat_of_nonneg (by omega), if_pos (by omega)]; omega
  · rw [Int.toNat_of_nonneg (by omega), if_neg (by omega)]; omega
theorem fold_unfoldZ (n : Nat) : foldN (unfoldZ n) = n := by
  unfold foldN foldZ unfoldZ
  split <;> split <;> omega
theorem unfoldZ_fits {n : Nat} (h : n < 18446744073709551616) : -9223372036854775808 ≤ unfoldZ n ∧ unfoldZ n ≤ 9223372036854775807 := by
  unfold unfoldZ; split <;> omega
def tagN (x : Val) : Nat := if x.1 = 0 then 0 else if x.1 = 1 then 1 else if x.1 = 2 then 2 * x.2.2.size + 2 else 2 * x.2.2.size + 3
def bodyL (x : Val) : List Nat := if x.1 = 1 then putL (foldN x.2.1) else bts x.2.2
def tagsL (l : List Val) : List Nat := l.flatMap fun x => putL (tagN x)
def bodsL (l : List Val) : List Nat := l.flatMap bodyL
/-- the record of a row -/
def recL (l : List Val) : List Nat := l.length :: (tagsL l ++ bodsL l)
theorem chk_of {x : Val} (h : chk x = 0) : x.1 ≤ 3 ∧ (x.1 ≠ 1 → x.2.1 = 0) ∧ (x.1 < 2 → x.2.2.size = 0) ∧ x.2.2.size ≤ 1000 := by
  unfold chk at h
  split at h
  · omega
  · split at h
    · omega
    · omega
theorem tagN_lt {x : Val} (h : x.2.2.size ≤ 140737488351232) : tagN x < 18446744073709551616 := by
  unfold tagN; repeat (first | omega | split)
def tagsA (acc : List Nat) : Nat → List Nat → Option (List Nat × List Nat)
  | 0, L => some (acc, L)
  | m + 1, L => if (takeS L).2.2 = 0 then tagsA (acc ++ [(takeS L).1]) m (L.drop (takeS L).2.1) else none
def oneF (t : Nat) (L : List Nat) : Option (Val × List Nat) :=
  if t = 0 then some ((0, 0, bstr []), L)
  else if t = 1 then (if (takeS L).2.2 = 0 then some ((1, unfoldZ (takeS L).1, bstr []), L.drop (takeS L).2.1) else none)
  else if L.length < t / 2 - 1 then none else some (((2 + t % 2 : Nat), 0, bstr (L.take (t / 2 - 1))), L.drop (t / 2 - 1))
def bodsA (acc : List Val) : List Nat → List Nat → Option (List Val × List Nat)
  | [], L => some (acc, L)
  | t :: ts, L => match oneF t L with
    | some (v, r) => bodsA (acc ++ [v]) ts r
    | none => none
def parseR (L : List Nat) : Option (List Val × List Nat) :=
  match tagsA [] (L.getD 0 0) (L.drop 1) with
  | none => none
  | some (ts, r) => bodsA [] ts r
/-- the row whose record L is -/
def takeR (L : List Nat) : Option (List Val) :=
  if L = [] ∨ 16 < L.getD 0 0 ∨ 4000 < L.length then none else
  match parseR L with
  | none => none
  | some (row, r) => if r = [] ∧ chkL row = 0 then some row else none
theorem takeS_put (n : Nat) (more : List Nat) (h : n < 18446744073709551616) : takeS (putL n ++ more) = (n, sz n, 0) := by
  unfold takeS; rw [put_taken n more h]; simp
theorem takeS_some {L : List Nat} (hl : ∀ x ∈ L, x < 256) (h : (takeS L).2.2 = 0) :
    (takeS L).1 < 18446744073709551616 ∧ putL (takeS L).1 = L.take (takeS L).2.1 ∧ (takeS L).2.1 ≤ L.length := by
  cases hh : takeF 0 0 L with
  | none => unfold takeS at h; rw [hh] at h; simp at h
  | some p =>
    obtain ⟨n, k⟩ := p
    obtain ⟨_, _, h3, h4, h5⟩ := taken_put hl hh
    by_cases hs : sz n = k
    · have e : takeS L = (n, k, 0) := by unfold takeS; rw [hh]; simp [hs]
      rw [e]
      exact ⟨h4, h5 hs, h3⟩
    · unfold takeS at h; rw [hh] at h; simp [hs] at h
theorem tagsA_put : ∀ (ts acc more : List Nat), (∀ t ∈ ts, t < 18446744073709551616) → tagsA acc ts.length (ts.flatMap putL ++ more) = some (acc ++ ts, more)
  | [], acc, more, _ => by simp [tagsA]
  | t :: ts, acc, more, h => by
    simp only [List.length_cons, List.flatMap_cons, tagsA, List.append_assoc]
    rw [takeS_put t _ (h t (by simp))]
    simp only [↓reduceIte]
    rw [drop_app (putL_length t), tagsA_put ts _ more (fun x hx => h x (by simp [hx]))]
    simp
theorem tagsA_some : ∀ (m : Nat) (acc L ts r : List Nat), (∀ x ∈ L, x < 256) → tagsA acc m L = some (ts, r) → ∃ us, ts = acc ++ us ∧ us.length = m ∧ L = us.flatMap putL ++ r ∧ ∀ u ∈ us, u < 18446744073709551616
  | 0, acc, L, ts, r, _, h => by
    simp only [tagsA, Option.some.injEq, Prod.mk.injEq] at h
    exact ⟨[], by simp [h.1], rfl, by simp [h.2], fun u hu => by cases hu⟩
  | m + 1, acc, L, ts, r, hl, h => by
    simp only [tagsA] at h
    split at h
    · rename_i h0
      obtain ⟨h1, h2, h3⟩ := takeS_some hl h0
      obtain ⟨us, e1, e2, e3, e4⟩ := tagsA_some m _ _ ts r (fun x hx => hl x (List.mem_of_mem_drop hx)) h
      refine ⟨(takeS L).1 :: us, by rw [e1]; simp, by simp [e2], ?_, fun u hu => ?_⟩
      · rw [List.flatMap_cons, List.append_assoc, ← e3, h2, List.take_append_drop]
      · rcases List.mem_cons.1 hu with rfl | hu
        · exact h1
        · exact e4 u hu
    · cases h
theorem oneF_put {x : Val} (hf : Fits x) (h : chk x = 0) (more : List Nat) : oneF (tagN x) (bodyL x ++ more) = some (x, more) := by
  obtain ⟨k, n, s⟩ := x
  obtain ⟨h1, h2, h3, h4⟩ := chk_of h
  obtain ⟨f1, f2, f3, f4⟩ := hf
  simp only at h1 h2 h3 h4 f1 f2 f3 f4
  have hs := bts_length s
  by_cases k0 : k = 0
  · subst k0
    obtain rfl := h2 (by omega)
    obtain rfl := empty_of (h3 (by omega))
    simp [oneF, tagN, bodyL, bts_nil]
  · by_cases k1 : k = 1
    · subst k1
      obtain rfl := empty_of (h3 (by omega))
      simp only [oneF, tagN, bodyL, ↓reduceIte]
      rw [takeS_put _ _ (foldN_lt f3 f4)]
      simp only [↓reduceIte]
      rw [drop_app (putL_length _), unfold_foldN]
      simp
    · obtain rfl := h2 k1
      have e : ∀ c : Nat, (k = c) → 2 ≤ c → c ≤ 3 → oneF (2 * s.size + c) (bts s ++ more) = some ((k, 0, s), more) := by
        intro c hc c2 c3
        have hq : (2 * s.size + c) / 2 - 1 = s.size := by omega
        unfold oneF
        rw [if_neg (by omega), if_neg (by omega), hq, if_neg (by rw [List.length_append, hs]; omega), take_app hs, drop_app hs, bstr_bts]
        have hm : 2 + (2 * s.size + c) % 2 = c := by omega
        rw [hm, hc]
      by_cases k2 : k = 2
      · simpa [tagN, bodyL, k0, k1, k2] using e 2 k2 (by omega) (by omega)
      · have k3 : k = 3 := by omega
        simpa [tagN, bodyL, k0, k1, k2, k3] using e 3 k3 (by omega) (by omega)
theorem bodsA_put : ∀ (l acc : List Val) (more : List Nat), (∀ x ∈ l, Fits x ∧ chk x = 0) → bodsA acc (l.map tagN) (bodsL l ++ more) = some (acc ++ l, more)
  | [], acc, more, _ => by simp [bodsA, bodsL]
  | x :: l, acc, more, h => by
    obtain ⟨h1, h2⟩ := h x (by simp)
    have e : bodsL (x :: l) ++ more = bodyL x ++ (bodsL l ++ more) := by simp [bodsL]
    simp only [List.map_cons, bodsA]
    rw [e, oneF_put h1 h2]
    simp only
    rw [bodsA_put l _ more (fun y hy => h y (by simp [hy]))]
    simp
theorem oneF_some {t : Nat} {L r : List Nat} {x : Val} (hl : ∀ y ∈ L, y < 256) (ht : t < 18446744073709551616) (h : oneF t L = some (x, r)) :
    tagN x = t ∧ L = bodyL x ++ r ∧ Fits x ∧ (chk x = 0 ∨ chk x = 3 ∧ 1000 < x.2.2.size) ∧ r.length ≤ L.length ∧ x.2.2.size ≤ L.length := by
  unfold oneF at h
  split at h
  · rename_i t0
    simp only [Option.some.injEq, Prod.mk.injEq] at h
    obtain ⟨rfl, rfl⟩ := h
    subst t0
    exact ⟨rfl, rfl, by unfold Fits; simp, .inl (by decide), Nat.le_refl _, by rw [bstr_size]; simp⟩
  · split at h
    · rename_i t1
      split at h
      · rename_i h0
        obtain ⟨a1, a2, a3⟩ := takeS_some hl h0
        simp only [Option.some.injEq, Prod.mk.injEq] at h
        obtain ⟨rfl, rfl⟩ := h
        have hb := unfoldZ_fits a1
        refine ⟨by rw [t1]; rfl, ?_, ⟨by simp, by simp, hb.1, hb.2⟩, .inl (by unfold chk; rw [bstr_size]; simp), by rw [List.length_drop]; omega, by rw [bstr_size]; simp⟩
        simp only [bodyL, ↓reduceIte, fold_unfoldZ, a2, List.take_append_drop]
      · cases h
    · rename_i t0 t1
      split at h
      · cases h
      · rename_i hk
        simp only [Option.some.injEq, Prod.mk.injEq] at h
        obtain ⟨rfl, rfl⟩ := h
        have hz : (bstr (L.take (t / 2 - 1))).size = t / 2 - 1 := by rw [bstr_size, List.length_take]; omega
        have hb : bts (bstr (L.take (t / 2 - 1))) = L.take (t / 2 - 1) := bts_bstr _ (fun y hy => hl y (List.mem_of_mem_take hy))
        refine ⟨?_, ?_, ⟨by simp; omega, by simp; omega, by simp, by simp⟩, ?_, by rw [List.length_drop]; omega, by simp only [hz]; omega⟩
        · simp only [tagN, hz]
          rw [if_neg (by omega), if_neg (by omega)]
          split <;> omega
        · simp only [bodyL, hb]
          rw [if_neg (by omega), List.take_append_drop]
        · unfold chk
          simp only [hz]
          rw [if_neg (by omega)]
          split <;> rename_i hh
          · exact .inr ⟨rfl, hh⟩
          · exact .inl rfl
theorem bodsA_some : ∀ (ts L r : List Nat) (acc row : List Val), (∀ x ∈ L, x < 256) → (∀ t ∈ ts, t < 18446744073709551616) → bodsA acc ts L = some (row, r) →
    ∃ us, row = acc ++ us ∧ us.map tagN = ts ∧ L = bodsL us ++ r ∧ ∀ u ∈ us, Fits u
  | [], L, r, acc, row, _, _, h => by
    simp only [bodsA, Option.some.injEq, Prod.mk.injEq] at h
    exact ⟨[], by simp [h.1], rfl, by simp [bodsL, h.2], fun u hu => by cases hu⟩
  | t :: ts, L, r, acc, row, hl, ht, h => by
    simp only [bodsA] at h
    split at h
    · rename_i v r' h1
      obtain ⟨a1, a2, a3, _, _, _⟩ := oneF_some hl (ht t (by simp)) h1
      obtain ⟨us, e1, e2, e3, e4⟩ := bodsA_some ts r' r _ row (fun x hx => hl x (by rw [a2]; simp [hx])) (fun y hy => ht y (by simp [hy])) h
      refine ⟨v :: us, by rw [e1]; simp, by simp [a1, e2], ?_, fun u hu => ?_⟩
      · rw [a2, e3]; simp [bodsL]
      · rcases List.mem_cons.1 hu with rfl | hu
        · exact a3
        · exact e4 u hu
    · cases h
theorem parse_put (l : List Val) (more : List Nat) (h : ∀ x ∈ l, Fits x ∧ chk x = 0) : parseR (recL l ++ more) = some (l, more) := by
  have e : (recL l ++ more).drop 1 = (l.map tagN).flatMap putL ++ (bodsL l ++ more) := by
    simp [recL, tagsL, List.flatMap_map]
  have e0 : (recL l ++ more).getD 0 0 = (l.map tagN).length := by simp [recL]
  unfold parseR
  rw [e, e0, tagsA_put _ _ _ (fun t ht => by
    obtain ⟨x, hx, rfl⟩ := List.mem_map.1 ht
    exact tagN_lt (by have := (chk_of (h x hx).2).2.2.2; omega))]
  simp only [List.nil_append]
  rw [bodsA_put l _ _ h]; simp
theorem recL_ne (l : List Val) : recL l ≠ [] := by simp [recL]
theorem takeR_put (l : List Val) (hf : ∀ x ∈ l, Fits x) (h : chkR l = 0) (h4 : (recL l).length ≤ 4000) : takeR (recL l) = some l := by
  have h16 : l.length ≤ 16 := by unfold chkR at h; split at h <;> omega
  have hc : chkL l = 0 := by unfold chkR at h; rwa [if_neg (by omega)] at h
  have hm := chkL_mem hc
  have hp := parse_put l [] (fun x hx => ⟨hf x hx, hm x hx⟩)
  rw [List.append_nil] at hp
  unfold takeR
  rw [if_neg (by
    rintro (h1 | h1 | h1)
    · exact recL_ne l h1
    · simp [recL] at h1; omega
    · omega), hp]
  simp [hc]
theorem takeR_some {L : List Nat} {row : List Val} (hl : ∀ x ∈ L, x < 256) (h : takeR L = some row) : recL row = L ∧ chkR row = 0 ∧ L.length ≤ 4000 ∧ ∀ x ∈ row, Fits x := by
  unfold takeR at h
  split at h
  · cases h
  · rename_i hh
    have h1 : L ≠ [] := fun e => hh (.inl e)
    have h2 : L.getD 0 0 ≤ 16 := by
      rcases Nat.lt_or_ge 16 (L.getD 0 0) with g | g
      · exact absurd (.inr (.inl g)) hh
      · exact g
    have h3 : L.length ≤ 4000 := by
      rcases Nat.lt_or_ge 4000 L.length with g | g
      · exact absurd (.inr (.inr g)) hh
      · exact g
    split at h
    · cases h
    · rename_i row' r hp
      split at h
      · rename_i hr
        simp only [Option.some.injEq] at h
        subst h
        obtain ⟨rfl, hc⟩ := hr
        unfold parseR at hp
        split at hp
        · cases hp
        · rename_i ts r1 ht
          obtain ⟨us, e1, e2, e3, e4⟩ := tagsA_some _ _ _ _ _ (fun x hx => hl x (List.mem_of_mem_drop hx)) ht
          simp only [List.nil_append] at e1
          subst e1
          have hl2 : ∀ x ∈ r1, x < 256 := fun x hx => hl x (List.mem_of_mem_drop (by rw [e3]; simp [hx]))
          obtain ⟨vs, d1, d2, d3, d4⟩ := bodsA_some _ _ _ _ _ hl2 e4 hp
          simp only [List.nil_append] at d1
          subst d1
          have hlen : row'.length = L.getD 0 0 := by rw [← e2, ← d2, List.length_map]
          refine ⟨?_, ?_, h3, d4⟩
          · cases L with
            | nil => exact absurd rfl h1
            | cons c L =>
              have e3' : L = ts.flatMap putL ++ r1 := e3
              unfold recL
              rw [hlen]
              show c :: _ = c :: L
              rw [e3', d3, ← d2]
              simp [tagsL, List.flatMap_map]
          · unfold chkR
            rw [if_neg (by omega), hc]
      · cases h
theorem chkR_chkL {l : List Val} (h : chkR l = 0) : chkL l = 0 := by
  unfold chkR at h
  split at h
  · omega
  · exact h
theorem rec_prefix {a b : List Val} {more : List Nat} (ha : ∀ x ∈ a, Fits x) (hb : ∀ x ∈ b, Fits x) (ca : chkR a = 0) (cb : chkR b = 0) (h : recL b = recL a ++ more) : more = [] := by
  have la : chkL a = 0 := chkR_chkL ca
  have lb : chkL b = 0 := chkR_chkL cb
  have pa := parse_put a more (fun x hx => ⟨ha x hx, chkL_mem la x hx⟩)
  have pb := parse_put b [] (fun x hx => ⟨hb x hx, chkL_mem lb x hx⟩)
  rw [List.append_nil, h, pa] at pb
  simp only [Option.some.injEq, Prod.mk.injEq] at pb
  exact pb.2
/-- the document's own way: a text that is too long ends it at once -/
def oneG (t : Nat) (L : List Nat) : Option (Val × List Nat) :=
  if t = 0 then some ((0, 0, bstr []), L)
  else if t = 1 then (if (takeS L).2.2 = 0 then some ((1, unfoldZ (takeS L).1, bstr []), L.drop (takeS L).2.1) else none)
  else if 1000 < t / 2 - 1 ∨ L.length < t / 2 - 1 then none else some (((2 + t % 2 : Nat), 0, bstr (L.take (t / 2 - 1))), L.drop (t / 2 - 1))
def bodsG (acc : List Val) : List Nat → List Nat → Option (List Val × List Nat)
  | [], L => some (acc, L)
  | t :: ts, L => match oneG t L with
    | some (v, r) => bodsG (acc ++ [v]) ts r
    | none => none
theorem oneG_eq {t : Nat} {L : List Nat} : oneG t L = (oneF t L).filter (fun p => decide (chk p.1 = 0)) := by
  unfold oneG oneF
  split
  · simp [Option.filter, chk, bstr_size]
  · split
    · split
      · simp [Option.filter, chk, bstr_size]
      · rfl
    · by_cases h1 : L.length < t / 2 - 1
      · rw [if_pos (.inr h1), if_pos h1]; rfl
      · rw [if_neg h1]
        have hz : (bstr (L.take (t / 2 - 1))).size = t / 2 - 1 := by rw [bstr_size, List.length_take]; omega
        have hc : chk (((2 + t % 2 : Nat) : Int), 0, bstr (L.take (t / 2 - 1))) = if 1000 < t / 2 - 1 then 3 else 0 := by
          unfold chk
          simp only [hz]
          rw [if_neg (by omega)]
        by_cases h2 : 1000 < t / 2 - 1
        · rw [if_pos (.inl h2)]
          rw [if_pos h2] at hc
          simp only [Option.filter, hc]; rfl
        · rw [if_neg (by omega)]
          rw [if_neg h2] at hc
          simp only [Option.filter, hc]; rfl
theorem bodsA_head : ∀ (ts L r : List Nat) (acc row : List Val), bodsA acc ts L = some (row, r) → ∃ us, row = acc ++ us
  | [], L, r, acc, row, h => by
    simp only [bodsA, Option.some.injEq, Prod.mk.injEq] at h
    exact ⟨[], by simp [h.1]⟩
  | t :: ts, L, r, acc, row, h => by
    simp only [bodsA] at h
    split at h
    · obtain ⟨us, e⟩ := bodsA_head ts _ r _ row h
      exact ⟨_, by rw [e, List.append_assoc]⟩
    · cases h
theorem bodsG_eq : ∀ (ts L : List Nat) (acc : List Val), chkL acc = 0 → bodsG acc ts L = (bodsA acc ts L).filter (fun p => decide (chkL p.1 = 0))
  | [], L, acc, h => by simp [bodsG, bodsA, Option.filter, h]
  | t :: ts, L, acc, h => by
    simp only [bodsG, bodsA, oneG_eq]
    cases h1 : oneF t L with
    | none => rfl
    | some p =>
      obtain ⟨v, r⟩ := p
      by_cases hc : chk v = 0
      · simp only [Option.filter, hc, decide_true, ↓reduceIte]
        have := bodsG_eq ts r (acc ++ [v]) (by rw [chkL_app, if_pos h]; simp [chkL, hc])
        simpa [Option.filter] using this
      · simp only [Option.filter, hc, decide_false]
        cases h2 : bodsA (acc ++ [v]) ts r with
        | none => rfl
        | some q =>
          obtain ⟨row, r'⟩ := q
          obtain ⟨us, e⟩ := bodsA_head _ _ _ _ _ h2
          have hn : chkL row ≠ 0 := by
            rw [e, chkL_app]
            have hv : chkL (acc ++ [v]) = chk v := by rw [chkL_app, if_pos h]; simp [chkL, hc]
            rw [hv, if_neg hc]
            exact hc
          simp [hn]
def takeRef (L : List Nat) : Option (List Val) :=
  if L = [] ∨ 4000 < L.length ∨ 16 < L.getD 0 0 then none else
  match tagsA [] (L.getD 0 0) (L.drop 1) with
  | none => none
  | some (ts, r) => match bodsG [] ts r with
    | none => none
    | some (row, r) => if r = [] then some row else none
theorem or_turn {a b c : Prop} (h : a ∨ b ∨ c) : a ∨ c ∨ b := by
  rcases h with h | h | h
  · exact .inl h
  · exact .inr (.inr h)
  · exact .inr (.inl h)
theorem takeRef_eq (L : List Nat) : takeRef L = takeR L := by
  unfold takeRef takeR parseR
  by_cases h : L = [] ∨ 16 < L.getD 0 0 ∨ 4000 < L.length
  · rw [if_pos h, if_pos (or_turn h)]
  · rw [if_neg h, if_neg (fun g => h (or_turn g))]
    cases tagsA [] (L.getD 0 0) (L.drop 1) with
    | none => rfl
    | some p =>
      obtain ⟨ts, r⟩ := p
      simp only [bodsG_eq ts r [] rfl]
      cases bodsA [] ts r with
      | none => rfl
      | some q =>
        obtain ⟨row, r'⟩ := q
        by_cases hc : chkL row = 0
        · simp [Option.filter, hc]
        · simp [Option.filter, hc]
end Go.Proofs.Ytocbdehcjcggeaa
