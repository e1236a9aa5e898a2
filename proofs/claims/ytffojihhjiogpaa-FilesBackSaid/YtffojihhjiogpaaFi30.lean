/- Layer 3: what a Write leaves, sector by sector, as plain maths. Conditions: those of each lemma. -/
import Derived.Test.YtffojihhjiogpaaFi29
namespace Go.Proofs.Ytffojihhjiogpaa
open Go.RowKit Go Go.Maps
set_option linter.unusedVariables false
set_option linter.unusedSimpArgs false
/-- a sector of a text -/
def secOf (s : ByteArray) (q : Nat) : Sec := ((bts s).drop (q * 64)).take 64
def wrP (l : Fl) (i p : Nat) (s : ByteArray) (k : Nat) : Fl := ((List.range k).map (wrC i p s)).foldl doneF l
theorem wrP_succ (l : Fl) (i p : Nat) (s : ByteArray) (k : Nat) : wrP l i p s (k + 1) = putS (wrP l i p s k) (p + k) (secOf s k) := by
  unfold wrP
  rw [List.range_succ, List.map_append, List.foldl_append]
  rfl
theorem wrP_length (l : Fl) (i p : Nat) (s : ByteArray) : ∀ k, (wrP l i p s k).length = if k = 0 then l.length else max l.length (p + k)
  | 0 => rfl
  | k + 1 => by
    rw [wrP_succ, putS_length, wrP_length l i p s k, if_neg (show ¬ k + 1 = 0 by omega)]
    by_cases h : k = 0
    · rw [if_pos h]; omega
    · rw [if_neg h]; omega
theorem wrP_get (l : Fl) (i p : Nat) (s : ByteArray) (j : Nat) : ∀ k, (wrP l i p s k).getD j zS = if p ≤ j ∧ j < p + k then secOf s (j - p) else l.getD j zS
  | 0 => by rw [if_neg (by omega)]; rfl
  | k + 1 => by
    rw [wrP_succ, putS_get, wrP_get l i p s j k]
    by_cases h : j = p + k
    · rw [if_pos h, if_pos (by omega), show j - p = k by omega]
    · rw [if_neg h]
      by_cases h2 : p ≤ j ∧ j < p + k
      · rw [if_pos h2, if_pos (by omega)]
      · rw [if_neg h2, if_neg (by omega)]
/-- a Write that failed changes no size -/
theorem write_fail (d : Dk) (f p : Int) (s : ByteArray) (g : Int) (h : (writeD d f p s).2 ≠ 0) : sizeD (writeD d f p s).1 g = sizeD d g := by
  rcases write_made d f p s with e | ⟨_, _, e⟩
  · rw [e]
  · rw [e] at h ⊢
    rcases opD_cases d (wrL f.toNat p.toNat s) with ⟨h1, _, _⟩ | ⟨_, h2, _⟩
    · unfold sizeD; rw [h1]
    · exact absurd h2 h
/-- a Write that went well -/
theorem write_good (d : Dk) (f p : Int) (s : ByteArray) (h : (writeD d f p s).2 = 0) : 0 ≤ f ∧ f < 8 ∧ 0 ≤ p ∧ 0 < s.size / 64 ∧ s.size % 64 = 0 ∧ (writeD d f p s).1.off = d.off ∧ (writeD d f p s).1.fl f.toNat = wrP (d.fl f.toNat) f.toNat p.toNat s (s.size / 64) ∧ ∀ j, j < 8 → j ≠ f.toNat → (writeD d f p s).1.fl j = d.fl j := by
  unfold writeD at h ⊢
  by_cases hr : readyD d f = 0
  · rw [if_neg (by simpa using hr)] at h ⊢
    by_cases h1 : s.size / 64 = 0 ∨ s.size % 64 ≠ 0
    · rw [if_pos h1] at h
      exact absurd h (by simp)
    · rw [if_neg h1] at h ⊢
      by_cases h2 : p < 0 ∨ 8192 < s.size / 64 ∨ 8192 - (s.size / 64 : Nat) < p
      · rw [if_pos h2] at h
        exact absurd h (by simp)
      · rw [if_neg h2] at h ⊢
        have hf := ready_in hr
        have hz : s.size % 64 = 0 := by
          by_cases e : s.size % 64 = 0
          · exact e
          · exact absurd (.inr e) h1
        have h0 : 0 < s.size / 64 := by
          by_cases e : s.size / 64 = 0
          · exact absurd (.inl e) h1
          · omega
        rcases opD_cases d (wrL f.toNat p.toNat s) with ⟨_, _, h3⟩ | ⟨h3, _, _⟩
        · exact absurd h h3
        · refine ⟨hf.1, hf.2, by omega, h0, hz, ?_, ?_, fun j hj hne => ?_⟩
          · rw [h3]
            show (doneAll 0 d.op1 _).off = d.off
            rw [(doneAll_rest 0 _ _).2.2.2.2]
            rfl
          · rw [h3]
            show (doneAll 0 d.op1 _).fl f.toNat = _
            rw [doneAll_fl, mine0]
            have e : mine f.toNat (wrL f.toNat p.toNat s) = wrL f.toNat p.toNat s := by
              unfold mine
              rw [List.filter_eq_self]
              intro c hc
              simpa using wrL_file c hc
            rw [e]
            rfl
          · rw [h3]
            show (doneAll 0 d.op1 _).fl j = _
            rw [doneAll_fl, mine0, mine_none (fun c hc e => hne (by rw [← e, wrL_file c hc]))]
            rfl
  · rw [if_pos hr] at h
    exact absurd h hr
/-- the sectors of a text of whole sectors, joined, are it -/
theorem secs_join (L : List Nat) : ∀ n, L.length = n * 64 → ((List.range n).map fun q => (L.drop (q * 64)).take 64).flatten = L := by
  intro n
  induction n generalizing L with
  | zero => intro h; simp at h; rw [h]; rfl
  | succ n ih =>
    intro h
    rw [List.range_succ_eq_map, List.map_cons, List.flatten_cons, List.map_map]
    have e := ih (L.drop 64) (by rw [List.length_drop]; omega)
    have e2 : ((List.range n).map ((fun q => (L.drop (q * 64)).take 64) ∘ Nat.succ)) = (List.range n).map fun q => ((L.drop 64).drop (q * 64)).take 64 := by
      apply List.map_congr_left
      intro q _
      simp only [Function.comp, List.drop_drop]
      congr 2
      omega
    rw [e2, e, Nat.zero_mul, List.drop_zero]
    exact List.take_append_drop 64 L
/-- what is read of a file where a text was written -/
theorem read_back (l : Fl) (i p : Nat) (s : ByteArray) (n : Nat) (hn : s.size = n * 64) (h0 : 0 < n) : (((wrP l i p s n).drop p).take n).flatten = bts s := by
  have hl := wrP_length l i p s n
  rw [if_neg (by omega)] at hl
  have e : ((wrP l i p s n).drop p).take n = (List.range n).map fun q => secOf s q := by
    apply List.ext_getElem?
    intro q
    by_cases hq : q < n
    · rw [List.getElem?_take, if_pos hq, List.getElem?_drop]
      have hg := wrP_get l i p s (p + q) n
      rw [if_pos (by omega), show p + q - p = q by omega, List.getD_eq_getElem?_getD, List.getElem?_eq_getElem (by omega)] at hg
      rw [List.getElem?_eq_getElem (by omega)]
      simp only [Option.getD_some] at hg
      rw [hg]
      simp [hq]
    · rw [List.getElem?_eq_none (by rw [List.length_take]; omega), List.getElem?_eq_none (by simp; omega)]
  rw [e]
  exact secs_join (bts s) n (by rw [bts_length]; exact hn)
theorem flat_sec : ∀ (l : List Sec) (k : Nat), (∀ s ∈ l, SecOk s) → k < l.length → (l.flatten.drop (k * 64)).take 64 = l.getD k zS
  | [], k, _, h => by simp at h
  | s :: l, 0, h, _ => by
    have hs := (h s (by simp)).1
    rw [List.flatten_cons, Nat.zero_mul, List.drop_zero, ← hs, List.take_left']
    · rfl
    · rfl
  | s :: l, k + 1, h, hk => by
    have hs := (h s (by simp)).1
    rw [List.length_cons] at hk
    rw [List.flatten_cons, show (k + 1) * 64 = s.length + k * 64 by omega, List.drop_length_add_append, flat_sec l k (fun x hx => h x (by simp [hx])) (by omega)]
    rfl
theorem bstr_mid (L : List Nat) (a b : Nat) : (bstr L).extract a b = bstr ((L.take b).drop a) := by
  apply ByteArray.ext
  apply Array.ext'
  simp [bstr, List.drop_take]
/-- a sector out of a file's bytes -/
theorem allF_sec {d : Dk} {f : Int} {i k : Nat} (h0 : 0 ≤ f) (h8 : f < 8) (hi : f.toNat = i) (ho : d.off = false) (hok : ∀ s ∈ d.fl i, SecOk s) (hk : k < (d.fl i).length) (hk3 : k < 300) : (allF d f).extract (k * 64) ((k + 1) * 64) = bstr ((d.fl i).getD k zS) := by
  rw [allF_of h0 h8 ho, hi, bstr_mid]
  congr 1
  have hl : k < ((d.fl i).take (min (d.fl i).length 300)).length := by rw [List.length_take]; omega
  have e := flat_sec ((d.fl i).take (min (d.fl i).length 300)) k (fun s hs => hok s (List.mem_of_mem_take hs)) hl
  have e2 : ((d.fl i).take (min (d.fl i).length 300)).getD k zS = (d.fl i).getD k zS := by
    rw [List.getD_eq_getElem?_getD, List.getD_eq_getElem?_getD, List.getElem?_take, if_pos (by omega)]
  rw [← e2, ← e, List.drop_take]
  congr 1
  omega
end Go.Proofs.Ytffojihhjiogpaa
