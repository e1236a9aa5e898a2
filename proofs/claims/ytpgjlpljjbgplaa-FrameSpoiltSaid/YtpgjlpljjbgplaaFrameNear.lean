/- Plain mathematics: of two texts that are taken as frames, or as heads, and differ in one block at most, both are the same. Conditions: those of each lemma. -/
import Derived.Test.YtpgjlpljjbgplaaFrameMath
namespace Go.Proofs.Ytpgjlpljjbgplaa
theorem getD_cut (L : List Nat) (a n i : Nat) : ((L.drop a).take n).getD i 0 = if i < n then L.getD (a + i) 0 else 0 := by
  simp only [List.getD_eq_getElem?_getD, List.getElem?_take]
  split
  · rw [List.getElem?_drop]
  · rfl
theorem cut_eq {L M : List Nat} (hl : L.length = M.length) (a n : Nat) (h : ∀ i, a ≤ i → i < a + n → L.getD i 0 = M.getD i 0) : (L.drop a).take n = (M.drop a).take n := by
  refine list_of_getD (by rw [List.length_take, List.length_take, List.length_drop, List.length_drop, hl]) fun i => ?_
  rw [getD_cut, getD_cut]
  split
  · exact h _ (by omega) (by omega)
  · rfl
theorem take_of_take {L : List Nat} {a n m : Nat} (h : a + n ≤ m) : ((L.take m).drop a).take n = (L.drop a).take n := by
  rw [List.drop_take, List.take_take, Nat.min_eq_left (by omega)]
theorem fW_near {L M : List Nat} (h16 : L.take 16 = M.take 16) : fW L 0 = fW M 0 ∧ fW L 1 = fW M 1 := by
  unfold fW
  rw [← take_of_take (L := L) (a := 4 * 0) (n := 4) (m := 16) (by omega), ← take_of_take (L := M) (a := 4 * 0) (n := 4) (m := 16) (by omega), ← take_of_take (L := L) (a := 4 * 1) (n := 4) (m := 16) (by omega), ← take_of_take (L := M) (a := 4 * 1) (n := 4) (m := 16) (by omega), h16]
  exact ⟨rfl, rfl⟩
theorem f_near {p : Int × Int} {salt : Nat} {L M : List Nat} {k0 : Nat} (hp : Fit p) (hL : ∀ x ∈ L, x < 256) (hM : ∀ x ∈ M, x < 256) (lL : L.length = 576) (lM : M.length = 576) (hn : Near L M k0) (h1 : fErr p salt L = 0) (h2 : fErr p salt M = 0) : L = M := by
  have f1 := f_form hL h1
  have f2 := f_form hM h2
  rw [List.take_of_length_le (by omega)] at f1 f2
  have hlen : L.length = M.length := by omega
  have done : fW L 0 = fW M 0 → fW L 1 = fW M 1 → fD L = fD M → L = M := fun a b c => by rw [f1, f2, a, b, c]
  by_cases hk : k0 = 0 ∨ 8 ≤ k0
  · have e16 : (L.drop 16).take 8 = (M.drop 16).take 8 := cut_eq hlen 16 8 fun i _ _ => hn i (by omega)
    obtain ⟨_, _, _, _, _, _, q1⟩ := f_ok h1
    obtain ⟨_, _, _, _, _, _, q2⟩ := f_ok h2
    have w4 : fW L 4 = fW M 4 := by unfold fW; rw [cut_eq hlen (4 * 4) 4 fun i _ _ => hn i (by omega)]
    have w5 : fW L 5 = fW M 5 := by unfold fW; rw [cut_eq hlen (4 * 5) 4 fun i _ _ => hn i (by omega)]
    have hq : fQ p L = fQ p M := by rw [q1, q2, w4, w5]
    have l1 : (L.take 16).length = 8 * 2 := by rw [List.length_take]; omega
    have l2 : (M.take 16).length = 8 * 2 := by rw [List.length_take]; omega
    have d1 : (fD L).length = 512 := len_cut (by omega)
    have d2 : (fD M).length = 512 := len_cut (by omega)
    unfold fQ at hq
    rw [← addL_join _ _ 2 l1, ← addL_join _ _ 2 l2] at hq
    have gX : ∀ (Y : List Nat), Y.length = 576 → ∀ i, (Y.take 16 ++ fD Y).getD i 0 = if i < 16 then Y.getD i 0 else if i < 528 then Y.getD (48 + i) 0 else 0 := fun Y hY i => by
      have ly : (Y.take 16).length = 16 := by rw [List.length_take]; omega
      by_cases hi : i < 16
      · rw [if_pos hi, getD_left _ _ _ (by omega)]
        have := getD_cut Y 0 16 i
        rw [List.drop_zero, if_pos hi, Nat.zero_add] at this
        exact this
      · rw [if_neg hi, getD_right _ _ _ (by omega), ly]
        unfold fD
        rw [getD_cut]
        by_cases hi2 : i < 528
        · rw [if_pos hi2, if_pos (by omega), show 64 + (i - 16) = 48 + i from by omega]
        · rw [if_neg hi2, if_neg (by omega)]
    have hb : ∀ (Y : List Nat), (∀ x ∈ Y, x < 256) → ∀ k, (Y.take 16 ++ fD Y).getD k 0 < 256 := fun Y hY => getD_of_lt fun x hx => by
      rcases List.mem_append.1 hx with h | h
      · exact hY x (List.mem_of_mem_take h)
      · exact mem_cut hY 64 512 x h
    have hnx : Near (L.take 16 ++ fD L) (M.take 16 ++ fD M) (if k0 = 0 then 0 else k0 - 6) := fun i hi => by
      rw [gX L lL, gX M lM]
      by_cases h16 : i < 16
      · rw [if_pos h16, if_pos h16]
        refine hn i ?_
        by_cases hk0 : k0 = 0
        · rw [if_pos hk0] at hi; omega
        · omega
      · rw [if_neg h16, if_neg h16]
        by_cases h528 : i < 528
        · rw [if_pos h528, if_pos h528]
          refine hn _ ?_
          by_cases hk0 : k0 = 0
          · omega
          · rw [if_neg hk0] at hi; omega
        · rw [if_neg h528, if_neg h528]
    by_cases hbig : 72 ≤ k0
    · refine list_of_getD hlen fun i => ?_
      by_cases hi : i < 576
      · exact hn i (by omega)
      · rw [List.getD_eq_getElem?_getD, List.getD_eq_getElem?_getD, List.getElem?_eq_none (by omega), List.getElem?_eq_none (by omega)]
    · have hx := (addL_near hnx (by rw [List.length_append, List.length_append, l1, l2, d1, d2]) (by rw [List.length_append, l1, d1]; split <;> omega) (hb L hL) (hb M hM) p hp).1 hq
      have t16 := List.append_inj_left hx (by rw [l1, l2])
      have tD := List.append_inj_right hx (by rw [l1, l2])
      obtain ⟨a, b⟩ := fW_near t16
      exact done a b tD
  · refine done ?_ ?_ ?_
    · unfold fW; rw [cut_eq hlen (4 * 0) 4 fun i _ _ => hn i (by omega)]
    · unfold fW; rw [cut_eq hlen (4 * 1) 4 fun i _ _ => hn i (by omega)]
    · unfold fD; exact cut_eq hlen 64 512 fun i _ _ => hn i (by omega)
theorem sumT_inj {A B : List Nat} (h : sumT A = sumT B) : addL A (0, 0) = addL B (0, 0) := textL_inj (fit_addL fit0) (fit_addL fit0) h
theorem th_near {L M : List Nat} {k0 : Nat} (hL : ∀ x ∈ L, x < 256) (hM : ∀ x ∈ M, x < 256) (lL : L.length = 64) (lM : M.length = 64) (hn : Near L M k0) (h1 : thErr L = 0) (h2 : thErr M = 0) : L = M := by
  have f1 := (th_form hL h1).1
  have f2 := (th_form hM h2).1
  rw [List.take_of_length_le (by omega)] at f1 f2
  have hlen : L.length = M.length := by omega
  have done : (L.drop 8).take 8 = (M.drop 8).take 8 → (L.drop 16).take 4 = (M.drop 16).take 4 → (L.drop 20).take 4 = (M.drop 20).take 4 → L = M := fun a b c => by
    rw [f1, f2]
    unfold thN thF thP
    rw [a, b, c]
  by_cases hk : k0 = 1 ∨ k0 = 2
  · have e : (L.drop 24).take 8 = (M.drop 24).take 8 := cut_eq hlen 24 8 fun i _ _ => hn i (by omega)
    obtain ⟨_, _, _, _, _, s1⟩ := th_ok h1
    obtain ⟨_, _, _, _, _, s2⟩ := th_ok h2
    rw [s1, s2] at e
    have gX : ∀ (Y : List Nat) i, (Y.take 24).getD i 0 = if i < 24 then Y.getD i 0 else 0 := fun Y i => by
      have := getD_cut Y 0 24 i
      rwa [List.drop_zero, Nat.zero_add] at this
    have hb : ∀ (Y : List Nat), (∀ x ∈ Y, x < 256) → ∀ k, (Y.take 24).getD k 0 < 256 := fun Y hY => getD_of_lt fun x hx => hY x (List.mem_of_mem_take hx)
    have h24 := (addL_near (L := L.take 24) (M := M.take 24) (k0 := k0) (fun i hi => by
      rw [gX, gX]
      split
      · exact hn i hi
      · rfl) (by rw [List.length_take, List.length_take, hlen]) (by rw [List.length_take]; omega) (hb L hL) (hb M hM) (0, 0) fit0).1 (sumT_inj e)
    refine done ?_ ?_ ?_
    · rw [← take_of_take (L := L) (a := 8) (n := 8) (m := 24) (by omega), ← take_of_take (L := M) (a := 8) (n := 8) (m := 24) (by omega), h24]
    · rw [← take_of_take (L := L) (a := 16) (n := 4) (m := 24) (by omega), ← take_of_take (L := M) (a := 16) (n := 4) (m := 24) (by omega), h24]
    · rw [← take_of_take (L := L) (a := 20) (n := 4) (m := 24) (by omega), ← take_of_take (L := M) (a := 20) (n := 4) (m := 24) (by omega), h24]
  · exact done (cut_eq hlen 8 8 fun i _ _ => hn i (by omega)) (cut_eq hlen 16 4 fun i _ _ => hn i (by omega)) (cut_eq hlen 20 4 fun i _ _ => hn i (by omega))
end Go.Proofs.Ytpgjlpljjbgplaa
