/- What counterfoilref01.digits and counterfoilref01.Put answer. Conditions: the numbers fit their kinds. -/
import Derived.Test.YtocbdehcjcggeaaProg
import Derived.Test.YtocbdehcjcggeaaRefFixed
import Derived.Test.YtocbdehcjcggeaaNumSize
import Derived.Test.YtocbdehcjcggeaaNumTaken
namespace Go.Proofs.Ytocbdehcjcggeaa
open Go.RowKit
/-- the k lowest digits of n to the base 128, the highest first -/
def digL : Nat → Nat → List Nat
  | 0, _ => []
  | k + 1, n => (n / 128 ^ k % 128) :: digL k n
theorem digL_length (k n : Nat) : (digL k n).length = k := by induction k with | zero => rfl | succ k ih => simp [digL, ih]
set_option maxRecDepth 100000 in
set_option maxHeartbeats 1000000 in
theorem digits_any (n least K : Nat) (w : World) (hn : n < 18446744073709551616) (h1 : 1 ≤ K) (h8 : K ≤ 8) (hl : least ≤ K) (hK : n / 128 ^ K = 0) (hk : ∀ k, k < K → 0 < n / 128 ^ k ∨ k < least) :
    Calls Try.prog 98 #[.int .u64 n, .int .i64 least] w fun e w' => ∃ g cap, e = .returned (.slice (some ⟨g, 0, none⟩) K cap) ∧ w'.ownsRow w.heap.size 5 1 (.slice (some ⟨g, 0, none⟩) K cap) K (vals8 (digL K n)) ∧ Below w.heap.size w w' := by
  obtain ⟨i0, hi0, hz0, hz1, hz2⟩ := info_parts u8_info
  go_enter Try.func98, Try.ntmps98
  go_wp2_with fail
  go_loopw [0, 5] (fun v o wr => ∃ (k m c : Nat) (A : Option Addr), k ≤ K ∧ m = n / 128 ^ k ∧ v = .int .u64 m ∧ o = .slice A k c ∧ wr.ownsRow w.heap.size 5 1 (.slice A k c) k (vals8 (digL k n)) ∧ Below w.heap.size w wr) (fun _ o _ => K - lenOf o)
  case atStart => exact ⟨0, n, 0, none, by omega, by simp, rfl, rfl, World.ownsRow_nil _ _ _ _, Below.refl _ _⟩
  case round =>
    obtain ⟨k, m, c, A, hk1, hm, rfl, rfl, hown, hb⟩ := hrel
    by_cases hlt : k < K
    · have hm1 : m < 18446744073709551616 := by rw [hm]; exact Nat.lt_of_le_of_lt (Nat.div_le_self _ _) hn
      have hgo := hk k hlt
      rw [← hm] at hgo
      have hrd := (Reads.of_own hown).alloc (Nat.le_refl _) (.cells #[Value.int .u8 ((m : Int) % 128)] 5)
      have hlit := own_lit wr w.heap.size 5 (Value.int .u8 ((m : Int) % 128)) hb.size
      have HM := Lib.hid hm
      clear hm hk hK
      have hfin : ∀ (v1 : Value) (w1 : World), w1.ownsRow w.heap.size 5 1 v1 (1 + k) ([Value.int .u8 ((m : Int) % 128)] ++ vals8 (digL k n)) → (wr.alloc (.cells #[Value.int .u8 ((m : Int) % 128)] 5)).grownBy w1 (some wr.heap.size) →
          ∃ g cap, v1 = .slice (some ⟨g, 0, none⟩) (k + 1) cap ∧ w1.ownsRow w.heap.size 5 1 (.slice (some ⟨g, 0, none⟩) (k + 1) cap) (k + 1) (vals8 (digL (k + 1) n)) ∧ Below w.heap.size w w1 := by
        intro v1 w1 hown1 hg1
        obtain ⟨g, cap, rfl, hbg, hlt2⟩ := hown1.form (by omega)
        have e1 : (1 + k) = k + 1 := by omega
        have e2 : [Value.int .u8 ((m : Int) % 128)] ++ vals8 (digL k n) = vals8 (digL (k + 1) n) := by simp [vals8, digL, ← HM.out]
        rw [e1, e2] at hown1
        exact ⟨g, cap, by rw [e1], hown1, (hb.alloc hb.size _).grown hg1 (by simp; have := hb.size; omega) (fun q hq => by
          have e : wr.heap.size = q := by simpa using hq
          rw [← e]; exact hb.size)⟩
      by_cases h0 : 0 < m
      · go_wp2_with (at_builtin; refine wpList_append_any _ rfl (.tmp 17) (.tmp 18) 45 rfl w.heap.size 5 i0 _ 1 1 Try.underlying45 hi0 hz0 hz1 hz2 rfl (by omega) (.slice (some ⟨wr.heap.size, 0, none⟩) 1 1) 1 [Value.int .u8 ((m : Int) % 128)] rfl hlit wr.heap.size A k c (vals8 (digL k n)) rfl hrd (vals8_one _) (by simp only [maxLen]; omega) (by omega) (by have := hb.size; simp; omega) ?_; intro v1 w1 hown1 hg1 hat1)
        obtain ⟨g, cap, rfl, hown2, hb2⟩ := hfin v1 w1 hown1 hg1
        exact ⟨⟨k + 1, m / 128, cap, some ⟨g, 0, none⟩, by omega, by rw [HM.out, div_pow], by simp, rfl, hown2, hb2⟩, by simp [lenOf]; omega⟩
      · have hle : k < least := by omega
        go_wp2_with (at_builtin; refine wpList_append_any _ rfl (.tmp 17) (.tmp 18) 45 rfl w.heap.size 5 i0 _ 1 1 Try.underlying45 hi0 hz0 hz1 hz2 rfl (by omega) (.slice (some ⟨wr.heap.size, 0, none⟩) 1 1) 1 [Value.int .u8 ((m : Int) % 128)] rfl hlit wr.heap.size A k c (vals8 (digL k n)) rfl hrd (vals8_one _) (by simp only [maxLen]; omega) (by omega) (by have := hb.size; simp; omega) ?_; intro v1 w1 hown1 hg1 hat1)
        obtain ⟨g, cap, rfl, hown2, hb2⟩ := hfin v1 w1 hown1 hg1
        exact ⟨⟨k + 1, m / 128, cap, some ⟨g, 0, none⟩, by omega, by rw [HM.out, div_pow], by simp, rfl, hown2, hb2⟩, by simp [lenOf]; omega⟩
    · obtain rfl : k = K := by omega
      obtain ⟨g, cap, hv, hbg, hlt2⟩ := hown.form (by omega)
      obtain ⟨rfl, rfl⟩ : A = some ⟨g, 0, none⟩ ∧ c = cap := by injection hv with e1 _ e2; exact ⟨e1, e2⟩
      obtain rfl : m = 0 := by omega
      have hnl : ¬ (k < least) := by omega
      clear hm hK hk hv
      have HO := Lib.hid hown
      clear hown
      go_wp2
      go_ret
      exact ⟨g, c, rfl, HO.out, hb⟩
theorem own_set {w : World} {base e g n cap j : Nat} {xs : List Value} (h : w.ownsRow base e 1 (.slice (some ⟨g, 0, none⟩) n cap) n xs) (u : Value) :
    (w.setCell ⟨g, j, none⟩ u).ownsRow base e 1 (.slice (some ⟨g, 0, none⟩) n cap) n (xs.set j u) := by
  obtain ⟨hl, h⟩ := h
  rcases h with ⟨hv, _⟩ | ⟨g', cap', cur, hv, hb, hh, hnc, hcm, hs, ht⟩
  · cases hv
  · injection hv with e1 _ e3
    injection e1 with e1
    injection e1 with e1 _ _
    subst e1 e3
    refine ⟨by simpa using hl, .inr ⟨g, cap, cur.setIfInBounds j u, rfl, hb, ?_, hnc, hcm, by simpa using hs, ?_⟩⟩
    · simp [World.setCell, Array.getElem?_modify, hh]
    · rw [Array.toList_setIfInBounds, List.take_set, ht]
theorem own_frozen {w : World} {base e g n cap j : Nat} {xs : List Value} (h : w.ownsRow base e 1 (.slice (some ⟨g, 0, none⟩) n cap) n xs) : w.frozen? ⟨g, j, none⟩ = false := by
  rcases h.2 with ⟨hv, _⟩ | ⟨g', cap', cur, hv, hb, hh, _⟩
  · cases hv
  · injection hv with e1 _ e3
    injection e1 with e1
    injection e1 with e1 _ _
    subst e1
    simp [World.frozen?, hh]
/-- the first j of them, 128 more each -/
def upL (j : Nat) (l : List Nat) : List Nat := (l.take j).map (· + 128) ++ l.drop j
theorem upL_length (j : Nat) (l : List Nat) (_h : j ≤ l.length) : (upL j l).length = l.length := by simp [upL]; omega
theorem upL_get (j : Nat) (l : List Nat) (h : j < l.length) : (upL j l).getD j 0 = l.getD j 0 := by
  unfold upL
  simp only [List.getD_eq_getElem?_getD]
  rw [List.getElem?_append_right (by simp; omega)]
  simp
  rw [show j + (j - min j l.length) = j from by omega]
theorem upL_set (j : Nat) (l : List Nat) (h : j < l.length) : (vals8 (upL j l)).set j (.int .u8 (((l.getD j 0 : Nat) : Int) + 128)) = vals8 (upL (j + 1) l) := by
  unfold vals8
  have e : (Value.int .u8 (((l.getD j 0 : Nat) : Int) + 128)) = (fun x : Nat => Value.int .u8 (x : Int)) (l.getD j 0 + 128) := by simp
  rw [e, ← List.map_set]
  congr 1
  unfold upL
  rw [List.set_append_right _ _ (by simp; omega)]
  simp only [List.length_map, List.length_take]
  rw [Nat.min_eq_left (by omega), Nat.sub_self, List.drop_eq_getElem_cons h, List.set_cons_zero, List.take_succ_eq_append_getElem h]
  simp only [List.map_append, List.map_cons, List.map_nil, List.append_assoc, List.singleton_append]
  rw [List.getD_eq_getElem?_getD, List.getElem?_eq_getElem h]
  rfl
theorem digL_snoc (t n : Nat) : digL (t + 1) n = digL t (n / 128) ++ [n % 128] := by
  induction t with
  | zero => simp [digL]
  | succ t ih =>
    rw [show digL (t + 1 + 1) n = (n / 128 ^ (t + 1) % 128) :: digL (t + 1) n from rfl, ih]
    rw [show digL (t + 1) (n / 128) = (n / 128 / 128 ^ t % 128) :: digL t (n / 128) from rfl, Nat.div_div_eq_div_mul, Nat.mul_comm 128, ← Nat.pow_succ]
    rfl
theorem digL_up (t m : Nat) : (digL t m).map (· + 128) = digs t m := by
  induction t with
  | zero => rfl
  | succ t ih => simp [digL, digs, ih]
theorem digL_lt (t m : Nat) : ∀ x ∈ digL t m, x < 128 := by
  induction t with
  | zero => intro x h; cases h
  | succ t ih => intro x h; simp only [digL, List.mem_cons] at h; rcases h with rfl | h; omega; exact ih x h
theorem digL_getD_lt (t m k : Nat) : (digL t m).getD k 0 < 128 := by
  rw [List.getD_eq_getElem?_getD]
  rcases Nat.lt_or_ge k (digL t m).length with h | h
  · rw [List.getElem?_eq_getElem h]; exact digL_lt t m _ (List.getElem_mem h)
  · rw [List.getElem?_eq_none h]; decide
theorem up_put (t n : Nat) : upL t (digL (t + 1) n) = digs t (n / 128) ++ [n % 128] := by
  rw [digL_snoc]
  unfold upL
  rw [List.take_append_of_le_length (by rw [digL_length]; omega), List.drop_append_of_le_length (by rw [digL_length]; omega)]
  rw [List.take_of_length_le (by rw [digL_length]; omega), List.drop_of_length_le (by rw [digL_length]; omega), digL_up]
  rfl
theorem up_all (t m : Nat) : upL t (digL t m) = digs t m := by
  unfold upL
  rw [List.take_of_length_le (by rw [digL_length]; omega), List.drop_of_length_le (by rw [digL_length]; omega), digL_up, List.append_nil]
set_option maxRecDepth 100000 in
set_option maxHeartbeats 1000000 in
theorem refPut_small (n : Nat) (w : World) (hn : n < 72057594037927936) :
    Calls Try.prog 71 #[.int .u64 n] w fun e w' => e = .returned (.string (bstr (putL n))) ∧ Below w.heap.size w w' := by
  have hs := sz_le n
  have h8 : sz n ≤ 8 := by unfold sz; repeat (first | omega | split)
  have hz : n / 128 ^ sz n = 0 := Nat.div_eq_of_lt ((sz_iff hs.1 h8).2 (Nat.le_refl _))
  have hk : ∀ k, k < sz n → 0 < n / 128 ^ k ∨ k < 1 := by
    intro k hk
    by_cases h0 : k < 1
    · exact .inr h0
    · refine .inl ((pos_div n k).2 ?_)
      rcases Nat.lt_or_ge n (128 ^ k) with h | h
      · have := (sz_iff (a := n) (n := k) (by omega) (by omega)).1 h; omega
      · exact h
  have hP : putL n = upL (sz n - 1) (digL (sz n) n) := by
    have e : sz n = (sz n - 1) + 1 := by omega
    unfold putL high low
    rw [if_pos hn, if_pos hn]
    conv => rhs; rw [e]
    rw [show sz n - 1 + 1 - 1 = sz n - 1 from by omega, up_put]
  have HP := Lib.hid hP
  clear hP
  have hD := digits_any n 1 (sz n) w (by omega) hs.1 h8 hs.1 hz hk
  have HD := Lib.hid hD
  clear hD hz hk
  obtain ⟨hs1, hs2⟩ := hs
  have hlt := digL_getD_lt (sz n) n
  have hll := digL_length (sz n) n
  have HLL := Lib.hid hll
  clear hll
  generalize digL (sz n) n = D at *
  generalize sz n = K at *
  have hnI : (n : Int) < 72057594037927936 := by omega
  clear hn
  go_enter Try.func71, Try.ntmps71
  go_wp2_with fail
  refine HD.out.mono ?_
  rintro e w1 ⟨g, cap, rfl, hown, hb⟩
  clear hnI HD
  go_wp2_with fail
  go_loopw [4] (fun i wr => ∃ j : Nat, j + 1 ≤ K ∧ i = .int .i64 j ∧ wr.ownsRow w.heap.size 5 1 (.slice (some ⟨g, 0, none⟩) K cap) K (vals8 (upL j D)) ∧ Below w.heap.size w wr) (fun i _ => K - (intOf i).toNat)
  case atStart => exact ⟨0, by omega, rfl, by simpa [upL] using hown, hb⟩
  case round =>
    obtain ⟨j, hj, rfl, hown, hb⟩ := hrel
    have hgb : w.heap.size ≤ g := by
      obtain ⟨g', cap', hv, _, hbg, _, _⟩ := cells_of_own hown (by omega)
      injection hv with e1 _ _
      injection e1 with e1
      injection e1 with e1 _ _
      omega
    by_cases hlast : j + 1 < K
    · obtain ⟨g', cap', hv, hl, hbg, hgl, hcell⟩ := cells_of_own hown (by omega)
      have hc := hcell j (by omega)
      obtain rfl : g' = g := by injection hv with e1 _ _; injection e1 with e1; injection e1 with e1 _ _; exact e1.symm
      have hfz := own_frozen (j := j) hown
      have hset := own_set hown (j := j) (.int .u8 (((D.getD j 0 : Nat) : Int) + 128))
      rw [upL_set j D (by rw [HLL.out]; omega)] at hset
      have hg : ((upL j D).map Int.ofNat).getD j 0 = ((D.getD j 0 : Nat) : Int) := by
        have := upL_get j D (by rw [HLL.out]; omega)
        rw [← this]
        simp only [List.getD_eq_getElem?_getD, List.getElem?_map]
        cases (upL j D)[j]? <;> rfl
      rw [hg, Nat.zero_add] at hc
      have hx := hlt j
      generalize D.getD j 0 = x at *
      clear hg hcell hv hl hlt
      have HSET := Lib.hid hset
      clear hset
      go_wp2
      go_roundw
      case rel => exact ⟨j + 1, by omega, by go_num, HSET.out, hb.setCell hgb _⟩
      case measure => simp [intOf]; omega
    · obtain rfl : K = j + 1 := by omega
      obtain ⟨g', cap', hv, hl, hbg, hgl, hcell⟩ := cells_of_own hown (by omega)
      obtain ⟨rfl, rfl⟩ : g' = g ∧ cap' = cap := by injection hv with e1 _ e3; injection e1 with e1; injection e1 with e1 _ _; exact ⟨e1.symm, e3.symm⟩
      have hcv := run_convert_bytes_arg (P := Try.prog) wr 45 5 Try.underlying45 Try.underlying5 g' 0 (j + 1) cap' ((upL j D).map Int.ofNat) (by simp; omega) hcell 9 Try.underlying9
      rw [bstr_nums] at hcv
      have e1 : j + 1 - 1 = j := by omega
      have hp2 := HP.out
      rw [e1] at hp2
      have HP2 := Lib.hid hp2
      clear hp2 e1 hcell hv hl hown
      go_wp2
      go_ret
      exact ⟨by rw [HP2.out]; rfl, hb⟩
theorem digits_int (z : Int) (least K : Nat) (w : World) (h0 : 0 ≤ z) (hn : z < 18446744073709551616) (h1 : 1 ≤ K) (h8 : K ≤ 8) (hl : least ≤ K) (hK : z.toNat / 128 ^ K = 0) (hk : ∀ k, k < K → 0 < z.toNat / 128 ^ k ∨ k < least) :
    Calls Try.prog 98 #[.int .u64 z, .int .i64 least] w fun e w' => ∃ g cap, e = .returned (.slice (some ⟨g, 0, none⟩) K cap) ∧ w'.ownsRow w.heap.size 5 1 (.slice (some ⟨g, 0, none⟩) K cap) K (vals8 (digL K z.toNat)) ∧ Below w.heap.size w w' := by
  obtain ⟨n, rfl⟩ := Int.eq_ofNat_of_zero_le h0
  exact digits_any n least K w (by omega) h1 h8 hl hK hk
set_option maxRecDepth 100000 in
set_option maxHeartbeats 1000000 in
theorem refPut_big (n : Nat) (w : World) (hn : 72057594037927936 ≤ n) (hn2 : n < 18446744073709551616) :
    Calls Try.prog 71 #[.int .u64 n] w fun e w' => e = .returned (.string (bstr (putL n))) ∧ Below w.heap.size w w' := by
  obtain ⟨i0, hi0, hz0, hz1, hz2⟩ := info_parts u8_info
  have hsz := sz_big hn
  have hz : ((n : Int) / 256).toNat / 128 ^ 8 = 0 := Nat.div_eq_of_lt (by
    have e : (128 : Nat) ^ 8 = 72057594037927936 := by decide
    rw [e]; omega)
  have hP : putL n = upL 8 (digL 8 (n / 256)) ++ [n % 256] := by
    unfold putL high low
    rw [if_neg (by omega), if_neg (by omega), hsz, up_all]
  have HP := Lib.hid hP
  clear hP hsz
  have hD := digits_int ((n : Int) / 256) 8 8 w (by omega) (by omega) (by omega) (by omega) (by omega) hz (fun k hk => .inr hk)
  rw [show ((n : Int) / 256).toNat = n / 256 from by omega] at hD
  have HD := Lib.hid hD
  clear hD hz
  have hlt := digL_getD_lt 8 (n / 256)
  have hll := digL_length 8 (n / 256)
  have HLL := Lib.hid hll
  clear hll
  generalize digL 8 (n / 256) = D at *
  have hnI : ¬ ((n : Int) < 72057594037927936) := by omega
  have hnJ : (n : Int) < 18446744073709551616 := by omega
  clear hn hn2
  go_enter Try.func71, Try.ntmps71
  go_wp2_with fail
  refine HD.out.mono ?_
  rintro e w1 ⟨g, cap, rfl, hown, hb⟩
  clear hnI HD
  go_wp2_with fail
  go_loopw [6] (fun i wr => ∃ j : Nat, j ≤ 8 ∧ i = .int .i64 j ∧ wr.ownsRow w.heap.size 5 1 (.slice (some ⟨g, 0, none⟩) 8 cap) 8 (vals8 (upL j D)) ∧ Below w.heap.size w wr) (fun i _ => 8 - (intOf i).toNat)
  case atStart => exact ⟨0, by omega, rfl, by simpa [upL] using hown, hb⟩
  case round =>
    obtain ⟨j, hj, rfl, hown, hb⟩ := hrel
    have hgb : w.heap.size ≤ g := by
      obtain ⟨g', cap', hv, _, hbg, _, _⟩ := cells_of_own hown (by omega)
      injection hv with e1 _ _
      injection e1 with e1
      injection e1 with e1 _ _
      omega
    by_cases hlast : j < 8
    · obtain ⟨g', cap', hv, hl, hbg, hgl, hcell⟩ := cells_of_own hown (by omega)
      have hc := hcell j (by omega)
      obtain rfl : g' = g := by injection hv with e1 _ _; injection e1 with e1; injection e1 with e1 _ _; exact e1.symm
      have hfz := own_frozen (j := j) hown
      have hset := own_set hown (j := j) (.int .u8 (((D.getD j 0 : Nat) : Int) + 128))
      rw [upL_set j D (by rw [HLL.out]; omega)] at hset
      have hg : ((upL j D).map Int.ofNat).getD j 0 = ((D.getD j 0 : Nat) : Int) := by
        have := upL_get j D (by rw [HLL.out]; omega)
        rw [← this]
        simp only [List.getD_eq_getElem?_getD, List.getElem?_map]
        cases (upL j D)[j]? <;> rfl
      rw [hg, Nat.zero_add] at hc
      have hx := hlt j
      generalize D.getD j 0 = x at *
      clear hg hcell hv hl hlt hnJ
      have HSET := Lib.hid hset
      clear hset
      go_wp2
      go_roundw
      case rel => exact ⟨j + 1, by omega, by go_num, HSET.out, hb.setCell hgb _⟩
      case measure => simp [intOf]; omega
    · obtain rfl : j = 8 := by omega
      have hr1 : Reads (wr.alloc (.cells #[Value.int .u8 ((n : Int) % 256)] 5)) (wr.heap.size + 1) 1 (some ⟨wr.heap.size, 0, none⟩) 1 [Value.int .u8 ((n : Int) % 256)] :=
        (Reads.of_own (own_lit wr 0 5 (Value.int .u8 ((n : Int) % 256)) (Nat.zero_le _))).more (by simp)
      have hown2 := hown.alloc (.cells #[Value.int .u8 ((n : Int) % 256)] 5)
      have hlen : (upL 8 D).length = 8 := by rw [upL_length _ _ (by rw [HLL.out]; omega), HLL.out]
      have HLEN := Lib.hid hlen
      have hfin : ∀ (v1 : Value) (w2 : World), w2.ownsRow w.heap.size 5 1 v1 (8 + 1) (vals8 (upL 8 D) ++ [Value.int .u8 ((n : Int) % 256)]) → (wr.alloc (.cells #[Value.int .u8 ((n : Int) % 256)] 5)).grownBy w2 (some g) →
          ∃ g2 cap2, v1 = .slice (some ⟨g2, 0, none⟩) 9 cap2 ∧ (convert 45 9 (.slice (some ⟨g2, 0, none⟩) 9 cap2)).run Try.prog w2 = .ok (.string (bstr (upL 8 D ++ [n % 256]))) w2 ∧ Below w.heap.size w w2 := by
        intro v1 w2 hown1 hg1
        have e2 : vals8 (upL 8 D) ++ [Value.int .u8 ((n : Int) % 256)] = vals8 (upL 8 D ++ [n % 256]) := by simp [vals8]
        rw [e2, show 8 + 1 = 9 from rfl] at hown1
        obtain ⟨g2, cap2, rfl, hl, hbg, hgl, hcell⟩ := cells_of_own hown1 (by omega)
        have hcv := run_convert_bytes_arg (P := Try.prog) w2 45 5 Try.underlying45 Try.underlying5 g2 0 9 cap2 ((upL 8 D ++ [n % 256]).map Int.ofNat) (by simp [hlen]) hcell 9 Try.underlying9
        rw [bstr_nums] at hcv
        exact ⟨g2, cap2, rfl, hcv, (hb.alloc hb.size _).grown hg1 (by simp; have := hb.size; omega) (fun q hq => by
          have e : g = q := by simpa using hq
          rw [← e]; exact hgb)⟩
      clear hlen hlt hown hnJ
      go_wp2_with (at_builtin; refine wpList_append_any _ rfl (.tmp 45) (.tmp 49) 45 rfl w.heap.size 5 i0 _ 1 1 Try.underlying45 hi0 hz0 hz1 hz2 rfl (by omega) (.slice (some ⟨g, 0, none⟩) 8 cap) 8 (vals8 (upL 8 D)) rfl hown2 (wr.heap.size + 1) (some ⟨wr.heap.size, 0, none⟩) 1 1 [Value.int .u8 ((n : Int) % 256)] rfl hr1 (by intro u hu; simp at hu; subst hu; rfl) (by simp only [maxLen]; omega) (by omega) (by have := hb.size; simp; omega) ?_; intro v1 w2 hown1 hg1 hat1; obtain ⟨g2, cap2, rfl, hcv, hb2⟩ := hfin v1 w2 hown1 hg1; clear hown1 hg1 hat1 hfin hown2 hr1)
      go_ret
      exact ⟨by rw [HP.out]; rfl, hb2⟩
theorem refPut_any (n : Nat) (w : World) (hn : n < 18446744073709551616) :
    Calls Try.prog 71 #[.int .u64 n] w fun e w' => e = .returned (.string (bstr (putL n))) ∧ Below w.heap.size w w' := by
  by_cases h : n < 72057594037927936
  · exact refPut_small n w h
  · exact refPut_big n w (by omega) hn
end Go.Proofs.Ytocbdehcjcggeaa
