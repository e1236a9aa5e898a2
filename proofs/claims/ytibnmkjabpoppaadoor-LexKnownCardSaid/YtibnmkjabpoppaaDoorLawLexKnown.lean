/- Layer 13: lists of texts; the tables of words; tokens that a slice is built of; the document's examples; the walk of LexKnown. Conditions: those of each lemma. -/
import Derived.Test.YtibnmkjabpoppaaDoorLawLexBack
import Derived.Test.YtibnmkjabpoppaaDoorOpenStrs
namespace Go.Proofs.YtibnmkjabpoppaaDoor
open Go Go.RowKit
set_option linter.unusedVariables false
set_option linter.unusedSimpArgs false
theorem strs_blk {W : World} {g : Nat} {t : TypeId} {l : List ByteArray} (h : Blk W g t (l.map Value.string).toArray) : StrsI W (some ⟨g, 0, none⟩) l :=
  .inr ⟨g, 0, rfl, Blk.lt h, fun j s hj => by
    rw [Nat.zero_add, h.cell j]
    simp [hj]⟩
/-- a token's cells, one after another -/
def tiCs : List TI → List Value
  | [] => []
  | t :: r => .int .u8 t.1 :: .string t.2.1 :: .int .u64 t.2.2.1 :: .int .i64 t.2.2.2 :: tiCs r
theorem tiCs_get : ∀ (l : List TI) (j k : Nat) (x : ByteArray) (n : Nat) (p : Int), l[j]? = some (k, x, n, p) → (tiCs l)[j * 4]? = some (.int .u8 k) ∧ (tiCs l)[j * 4 + 1]? = some (.string x) ∧ (tiCs l)[j * 4 + 2]? = some (.int .u64 n) ∧ (tiCs l)[j * 4 + 3]? = some (.int .i64 p)
  | [], j, k, x, n, p, h => by simp at h
  | t :: l, 0, k, x, n, p, h => by
    simp only [List.getElem?_cons_zero, Option.some.injEq] at h
    subst h
    exact ⟨rfl, rfl, rfl, rfl⟩
  | t :: l, j + 1, k, x, n, p, h => by
    have ih := tiCs_get l j k x n p (by simpa using h)
    have e : ∀ i, (tiCs (t :: l))[i + 4]? = (tiCs l)[i]? := fun i => rfl
    rw [show (j + 1) * 4 = j * 4 + 4 by omega, show j * 4 + 4 + 1 = j * 4 + 1 + 4 by omega, show j * 4 + 4 + 2 = j * 4 + 2 + 4 by omega, show j * 4 + 4 + 3 = j * 4 + 3 + 4 by omega, e, e, e, e]
    exact ih
theorem tki_blk {W : World} {g : Nat} {t : TypeId} {l : List TI} (h : Blk W g t (tiCs l).toArray) : TksI W (some ⟨g, 0, none⟩) l :=
  .inr ⟨g, 0, rfl, Blk.lt h, fun j k x n p hj => by
    obtain ⟨a, b, c, d⟩ := tiCs_get l j k x n p hj
    have e : ∀ i u, (tiCs l)[i]? = some u → W.cell? ⟨g, 0 + i, none⟩ = some u := fun i u hi => by rw [Nat.zero_add, h.cell i]; simpa using hi
    refine ⟨e _ _ a, ?_, ?_, ?_⟩
    · rw [Nat.add_assoc]; exact e _ _ b
    · rw [Nat.add_assoc]; exact e _ _ c
    · rw [Nat.add_assoc]; exact e _ _ d⟩
set_option maxRecDepth 100000 in
set_option maxHeartbeats 4000000 in
theorem strEq_any (A C : Option Addr) (l : List ByteArray) (c c' : Nat) (w : World) (hI : StrsI w A l) (hJ : StrsI w C l) (h0 : l ≠ []) (hm : l.length ≤ 100000) (n : Nat) (hn : n = l.length) :
    Calls Tryd.prog 13 #[.slice A n c, .slice C n c'] w fun e w' => e = .returned (.bool true) ∧ Below w.heap.size w w' := by
  obtain ⟨b1, o1, rfl, l1, c1⟩ := hI.resolve_left h0
  obtain ⟨b2, o2, rfl, l2, c2⟩ := hJ.resolve_left h0
  have hnn : ((n : Int) != n) = false := by simp
  have H1 := Lib.hid c1
  have H2 := Lib.hid c2
  have HN := Lib.hid hn
  rw [← hn] at hm
  clear c1 c2 hI hJ h0 hn
  go_enter Tryd.func13, Tryd.ntmps13
  go_wp2
  go_loopw [5, 13] (fun a i wr => ∃ j : Nat, j ≤ n ∧ i = .int .i64 j ∧ Below w.heap.size w wr) (fun _ i _ => n - (intOf i).toNat)
  case atStart => exact ⟨0, by omega, rfl, Below.refl _ _⟩
  case round =>
    obtain ⟨j, hj, rfl, hbw⟩ := hrel
    clear hnn
    by_cases hlt : j < n
    · obtain ⟨x, g1⟩ : ∃ t, l[j]? = some t := ⟨l[j]'(by rw [← HN.out]; exact hlt), List.getElem?_eq_getElem _⟩
      have d1 := (hbw.cell (p := ⟨b1, _, none⟩) l1).trans (H1.out j x g1)
      have d5 := (hbw.cell (p := ⟨b2, _, none⟩) l2).trans (H2.out j x g1)
      clear g1
      have i1 : (0 : Int) ≤ (j : Int) := by omega
      have i2 : (j : Int) < (n : Int) := by omega
      go_wp2_with fail
      go_quiet (fail)
      go_wp2
      go_roundw
      case rel => exact ⟨j + 1, by omega, by go_num, below_drewN hbw _⟩
      case measure => simp [intOf]; omega
    · obtain rfl : j = n := by omega
      go_wp2
      go_ret
      exact ⟨rfl, hbw⟩
theorem take_set {α : Type} (l : List α) (d x : α) (j : Nat) (hx : l[j]? = some x) : (l.take j ++ List.replicate (l.length - j) d).set j x = l.take (j + 1) ++ List.replicate (l.length - (j + 1)) d := by
  obtain ⟨hj, rfl⟩ := List.getElem?_eq_some_iff.1 hx
  rw [List.set_append_right _ _ (by rw [List.length_take]; omega), List.length_take, Nat.min_eq_left (by omega), Nat.sub_self, show l.length - j = (l.length - (j + 1)) + 1 by omega, List.replicate_succ, List.set_cons_zero, List.take_succ_eq_append_getElem hj, List.append_assoc]
  rfl
/-- a table as far as it is copied -/
def arrW (j : Nat) : Array Value := ((wordsB.take j ++ List.replicate (wordsB.length - j) (⟨#[]⟩ : ByteArray)).map Value.string).toArray
theorem arrW_0 : (Array.replicate 43 (.string ⟨#[]⟩) : Array Value) = arrW 0 := by kernel_rfl
theorem wordsB_len : wordsB.length = 43 := by kernel_rfl
theorem arrW_set {j : Nat} {x : ByteArray} (h : wordsB[j]? = some x) : (arrW j).setIfInBounds j (.string x) = arrW (j + 1) := by
  unfold arrW
  rw [List.setIfInBounds_toArray, ← List.map_set, take_set _ _ _ _ h]
theorem arrW_all : arrW 43 = (wordsB.map Value.string).toArray := by
  unfold arrW
  rw [List.take_of_length_le (by rw [wordsB_len]; exact Nat.le_refl _), wordsB_len]
  simp
theorem arrW_cell {W : World} {g j : Nat} {t : TypeId} (h : Blk W g t (arrW j)) (hj : j < 43) : ∃ v, W.cell? ⟨g, j, none⟩ = some v := by
  rw [h.cell j]
  have : (arrW j).size = 43 := by unfold arrW; simp [wordsB_len]; omega
  exact ⟨_, Array.getElem?_eq_getElem (by omega)⟩
set_option maxRecDepth 100000 in
set_option maxHeartbeats 4000000 in
theorem words_any (w : World) (hG : Gt w) : Calls Tryd.prog 14 #[] w fun e w' => (∃ g, e = .returned (.slice (some ⟨g, 0, none⟩) 43 43) ∧ StrsI w' (some ⟨g, 0, none⟩) wordsB) ∧ Below w.heap.size w w' := by
  have hmk : ∀ W : World, (Instr.makeSlice 33 (.int .i64 43) (.int .i64 43)).run Tryd.prog W = .ok (.slice (some ⟨W.heap.size, 0, none⟩) 43 43) (W.alloc (.cells (Array.replicate 43 (.string ⟨#[]⟩)) 9)) := fun W => by kernel_rfl
  rw [arrW_0] at hmk
  have HT := Lib.hid hG.1
  have HA := Lib.hid (Blk.new w 9 (arrW 0))
  have HB := Lib.hid (one_alloc (w := w) (o := .cells (arrW 0) 9))
  clear hG
  go_enter Tryd.func14, Tryd.ntmps14
  go_wp2
  clear hmk
  go_loopw [4] (fun i wr => ∃ j : Nat, j ≤ 43 ∧ i = .int .i64 j ∧ Blk wr w.heap.size 9 (arrW j) ∧ Below w.heap.size w wr) (fun i _ => 43 - (intOf i).toNat)
  case atStart => exact ⟨0, by omega, rfl, HA.out, HB.out⟩
  case round =>
    clear HA HB
    obtain ⟨j, hj, rfl, hk, hb⟩ := hrel
    have HK := Lib.hid hk
    have HBW := Lib.hid hb
    by_cases hlt : j < 43
    · obtain ⟨x, g1⟩ : ∃ x, wordsB[j]? = some x := ⟨wordsB[j]'(by rw [wordsB_len]; exact hlt), List.getElem?_eq_getElem _⟩
      have d1 := tb_wd (tb_step HT.out hb) g1
      obtain ⟨v, d2⟩ := arrW_cell hk hlt
      have d3 := hk.frozen j
      have HS := Lib.hid (hk.set_ j (.string x))
      rw [arrW_set g1] at HS
      have jI : (j : Int) < 43 := by omega
      have jI0 : (0 : Int) ≤ j := by omega
      clear g1 hk hb
      go_wp2_with fail
      go_roundw
      case rel => exact ⟨j + 1, by omega, by go_num, HS.out, HBW.out.setCell (p := ⟨w.heap.size, j, none⟩) (Nat.le_refl _) _⟩
      case measure => simp [intOf]; omega
    · obtain rfl : j = 43 := by omega
      clear hk hb
      go_wp2
      go_ret
      exact ⟨⟨_, rfl, strs_blk (by rw [← arrW_all]; exact HK.out)⟩, HBW.out⟩
set_option maxRecDepth 100000 in
set_option maxHeartbeats 4000000 in
theorem refWords_any (w : World) : Calls Tryd.prog 15 #[] w fun e w' => (∃ g, e = .returned (.slice (some ⟨g, 0, none⟩) 43 43) ∧ StrsI w' (some ⟨g, 0, none⟩) wordsB) ∧ Below w.heap.size w w' := by
  have HA := Lib.hid (Blk.new w 9 (wordsB.map Value.string).toArray)
  have HB := Lib.hid (one_alloc (w := w) (o := .cells (wordsB.map Value.string).toArray 9))
  go_enter Tryd.func15, Tryd.ntmps15
  go_wp2
  go_ret
  exact ⟨⟨_, rfl, strs_blk HA.out⟩, HB.out⟩
theorem kn_1 : tokensA ⟨#[39, 105, 116, 39, 39, 115, 39]⟩ = .ok ((4, ⟨#[105, 116, 39, 115]⟩, 0, 0) :: []) := by kernel_rfl
theorem kn_2 : tokensA ⟨#[120, 39, 48, 102, 39]⟩ = .ok ((5, ⟨#[15]⟩, 0, 0) :: []) := by kernel_rfl
theorem kn_3 : tokensA ⟨#[97, 45, 45, 98]⟩ = .ok ((2, ⟨#[97]⟩, 0, 0) :: []) := by kernel_rfl
def knS : List ByteArray := [⟨#[83, 69, 76, 69, 67]⟩, ⟨#[97, 66]⟩, ⟨#[49, 50, 97]⟩, ⟨#[48, 49]⟩, ⟨#[39, 97]⟩, ⟨#[120, 39, 48]⟩, ⟨#[33]⟩]
def knP : List Nat := [0, 1, 2, 1, 2, 3, 0]
theorem kn_bad (j : Nat) (h : j < 7) : ∃ s p, knS[j]? = some s ∧ knP[j]? = some p ∧ tokensA s = .error (6, p) := by
  rcases j with _ | _ | _ | _ | _ | _ | _ | j
  · exact ⟨_, _, rfl, rfl, by kernel_rfl⟩
  · exact ⟨_, _, rfl, rfl, by kernel_rfl⟩
  · exact ⟨_, _, rfl, rfl, by kernel_rfl⟩
  · exact ⟨_, _, rfl, rfl, by kernel_rfl⟩
  · exact ⟨_, _, rfl, rfl, by kernel_rfl⟩
  · exact ⟨_, _, rfl, rfl, by kernel_rfl⟩
  · exact ⟨_, _, rfl, rfl, by kernel_rfl⟩
  · omega
theorem kn_big : tokensA ⟨#[57, 50, 50, 51, 51, 55, 50, 48, 51, 54, 56, 53, 52, 55, 55, 53, 56, 48, 57]⟩ = .error (5, 0) := by kernel_rfl
theorem kn_33 : tokensA ⟨(Lib.repeatL (⟨#[97]⟩ : ByteArray).data.toList 33).toArray⟩ = .error (3, 0) := by kernel_rfl
theorem kn_4097 : tokensA ⟨(Lib.repeatL (⟨#[32]⟩ : ByteArray).data.toList 4097).toArray⟩ = .error (3, 4096) := by
  unfold tokensA
  rw [if_pos (by decide +kernel)]
theorem kn_w : wrJ true [(2, ⟨#[97]⟩, 0, 0), (6, ⟨#[60, 61]⟩, 0, 0), (4, ⟨#[39]⟩, 0, 0)] = some [97, 32, 60, 61, 32, 39, 39, 39, 39] := by kernel_rfl
theorem kn_no : wrJ true [(2, ⟨#[65]⟩, 0, 0)] = none := by kernel_rfl
theorem tok_ok {S : ByteArray} {l : List TK} {n : Nat} (h : tokensA S = .ok l) (hn : l.length = n) (W : World) (hG : Gt W) :
    Calls Tryd.prog 9 #[.string S] W fun e w' => ∃ A c, e = .returned (.tuple #[.slice A n c, spotV 0 0]) ∧ TksI w' A (l.map toI) ∧ Below W.heap.size W w' := by
  subst hn
  refine (tokens_any S W hG.1 hG.2).mono ?_
  rintro e w' ⟨hb, ⟨e1, q1, hF, rfl⟩ | ⟨m', A', c', hF, rfl, ho⟩⟩
  · rw [h] at hF; cases hF
  · rw [h] at hF
    injection hF with hF
    subst hF
    exact ⟨A', c', rfl, tki_of (tks_own ho), hb⟩
theorem tok_bad {S : ByteArray} {e q : Nat} (h : tokensA S = .error (e, q)) (W : World) (hG : Gt W) :
    Calls Tryd.prog 9 #[.string S] W fun r w' => r = .returned (.tuple #[.slice none 0 0, spotV e q]) ∧ Below W.heap.size W w' := by
  refine (tokens_any S W hG.1 hG.2).mono ?_
  rintro r w' ⟨hb, ⟨e1, q1, hF, rfl⟩ | ⟨m', A', c', hF, rfl, ho⟩⟩
  · rw [h] at hF
    injection hF with hF
    injection hF with h1 h2
    subst h1 h2
    exact ⟨rfl, hb⟩
  · rw [h] at hF; cases hF
theorem same_one {A : Option Addr} {g k n : Nat} {x : ByteArray} {p q : Int} {c : Nat} {W : World} (hI : TksI W A [(k, x, n, p)]) (hJ : Blk W g 32 #[.int .u8 k, .string x, .int .u64 n, .int .i64 q]) :
    Calls Tryd.prog 10 #[.slice A 1 c, .slice (some ⟨g, 0, none⟩) 1 1] W fun e w' => e = .returned (.bool true) ∧ Below W.heap.size W w' :=
  same_any A (some ⟨g, 0, none⟩) [(k, x, n, p)] [(k, x, n, q)] c 1 W hI (tki_blk (l := [(k, x, n, q)]) hJ) rfl (by simp)
theorem sm_1 (W : World) (A : Option Addr) (c g : Nat) (hg : g = W.heap.size) (hI : TksI W A [(4, ⟨#[105, 116, 39, 115]⟩, 0, 0)]) : Calls Tryd.prog 10 #[.slice A 1 c, .slice (some ⟨g, 0, none⟩) 1 1] (W.alloc (.cells #[.int .u8 4, .string ⟨#[105, 116, 39, 115]⟩, .int .u64 0, .int .i64 0] 32)) fun e w' => e = .returned (.bool true) ∧ Below W.heap.size W w' := by
  subst hg
  have hB : Blk (W.alloc (.cells #[.int .u8 4, .string ⟨#[105, 116, 39, 115]⟩, .int .u64 0, .int .i64 0] 32)) W.heap.size 32 #[.int .u8 4, .string ⟨#[105, 116, 39, 115]⟩, .int .u64 0, .int .i64 0] := Blk.new _ _ _
  have h := same_one (k := 4) (n := 0) (x := ⟨#[105, 116, 39, 115]⟩) (p := 0) (q := 0) (c := c) (tki_step hI one_alloc) hB
  exact h.mono fun e w' h => ⟨h.1, bj13 one_alloc h.2⟩
theorem sm_2 (W : World) (A : Option Addr) (c g : Nat) (hg : g = W.heap.size) (hI : TksI W A [(5, ⟨#[15]⟩, 0, 0)]) : Calls Tryd.prog 10 #[.slice A 1 c, .slice (some ⟨g, 0, none⟩) 1 1] (W.alloc (.cells #[.int .u8 5, .string ⟨#[15]⟩, .int .u64 0, .int .i64 0] 32)) fun e w' => e = .returned (.bool true) ∧ Below W.heap.size W w' := by
  subst hg
  have hB : Blk (W.alloc (.cells #[.int .u8 5, .string ⟨#[15]⟩, .int .u64 0, .int .i64 0] 32)) W.heap.size 32 #[.int .u8 5, .string ⟨#[15]⟩, .int .u64 0, .int .i64 0] := Blk.new _ _ _
  have h := same_one (k := 5) (n := 0) (x := ⟨#[15]⟩) (p := 0) (q := 0) (c := c) (tki_step hI one_alloc) hB
  exact h.mono fun e w' h => ⟨h.1, bj13 one_alloc h.2⟩
theorem sm_3 (W : World) (A : Option Addr) (c g : Nat) (hg : g = W.heap.size) (hI : TksI W A [(2, ⟨#[97]⟩, 0, 0)]) : Calls Tryd.prog 10 #[.slice A 1 c, .slice (some ⟨g, 0, none⟩) 1 1] (W.alloc (.cells #[.int .u8 2, .string ⟨#[97]⟩, .int .u64 0, .int .i64 0] 32)) fun e w' => e = .returned (.bool true) ∧ Below W.heap.size W w' := by
  subst hg
  have hB : Blk (W.alloc (.cells #[.int .u8 2, .string ⟨#[97]⟩, .int .u64 0, .int .i64 0] 32)) W.heap.size 32 #[.int .u8 2, .string ⟨#[97]⟩, .int .u64 0, .int .i64 0] := Blk.new _ _ _
  have h := same_one (k := 2) (n := 0) (x := ⟨#[97]⟩) (p := 0) (q := 0) (c := c) (tki_step hI one_alloc) hB
  exact h.mono fun e w' h => ⟨h.1, bj13 one_alloc h.2⟩
theorem fit_all {l : List TI} (h : (l.all fun t => decide (t.2.2.1 < 18446744073709551616) && decide (t.2.1.size ≤ 100000)) = true) : ∀ t ∈ l, FitI t := fun t ht => by
  have := List.all_eq_true.1 h t ht
  simp only [Bool.and_eq_true, decide_eq_true_eq] at this
  exact this
theorem write_lit {l : List TI} {g n : Nat} {R : Option (List Nat)} {s : ByteArray} {e : Int} (h : wrJ true l = R) (hr : wrR R = .tuple #[.string s, .int .i64 e]) (hn : l.length = n) (hf : ∀ t ∈ l, FitI t) (hl : l.length ≤ 100000) (W : World) (hG : Gv W) (hB : Blk W g 32 (tiCs l).toArray) :
    Calls Tryd.prog 12 #[.slice (some ⟨g, 0, none⟩) n n] W fun r w' => r = .returned (.tuple #[.string s, .int .i64 e]) ∧ Below W.heap.size W w' := by
  have hw := write_any (some ⟨g, 0, none⟩) l n W (tki_blk hB) hG hf hl
  rw [h, hr, hn] at hw
  exact hw
theorem wr_1 (W : World) (g : Nat) (hg : g = W.heap.size) (hG : Gv W) : Calls Tryd.prog 12 #[.slice (some ⟨g, 0, none⟩) 3 3] (W.alloc (.cells #[.int .u8 2, .string ⟨#[97]⟩, .int .u64 0, .int .i64 0, .int .u8 6, .string ⟨#[60, 61]⟩, .int .u64 0, .int .i64 0, .int .u8 4, .string ⟨#[39]⟩, .int .u64 0, .int .i64 0] 32)) fun r w' => r = .returned (.tuple #[.string ⟨#[97, 32, 60, 61, 32, 39, 39, 39, 39]⟩, .int .i64 0]) ∧ Below W.heap.size W w' := by
  subst hg
  have h := write_lit (n := 3) kn_w rfl rfl (fit_all (by decide)) (by decide) _ (gv_step hG one_alloc) (Blk.new W 32 #[.int .u8 2, .string ⟨#[97]⟩, .int .u64 0, .int .i64 0, .int .u8 6, .string ⟨#[60, 61]⟩, .int .u64 0, .int .i64 0, .int .u8 4, .string ⟨#[39]⟩, .int .u64 0, .int .i64 0])
  exact h.mono fun e w' h => ⟨h.1, bj13 one_alloc h.2⟩
theorem wr_2 (W : World) (g : Nat) (hg : g = W.heap.size) (hG : Gv W) : Calls Tryd.prog 12 #[.slice (some ⟨g, 0, none⟩) 1 1] (W.alloc (.cells #[.int .u8 2, .string ⟨#[65]⟩, .int .u64 0, .int .i64 0] 32)) fun r w' => r = .returned (.tuple #[.string ⟨#[]⟩, .int .i64 2]) ∧ Below W.heap.size W w' := by
  subst hg
  have h := write_lit (n := 1) kn_no rfl rfl (fit_all (by decide)) (by decide) _ (gv_step hG one_alloc) (Blk.new W 32 #[.int .u8 2, .string ⟨#[65]⟩, .int .u64 0, .int .i64 0])
  exact h.mono fun e w' h => ⟨h.1, bj13 one_alloc h.2⟩
set_option maxRecDepth 100000 in
set_option maxHeartbeats 8000000 in
theorem lexKnown_walk (w : World) (hG : Gv w) : Calls Tryd.prog 3 #[] w fun e w' => e = .returned (.bool true) ∧ Below w.heap.size w w' := by
  have HW := Lib.hid (works13_any w hG.1)
  have HG := Lib.hid hG
  have hrep1 : ∀ W, Calls Tryd.prog 11 #[.string ⟨#[97]⟩, .int .i64 33] W fun e w' => e = .returned (.string ⟨(Lib.repeatL (⟨#[97]⟩ : ByteArray).data.toList 33).toArray⟩) ∧ Below W.heap.size W w' := fun W => Tryd.strings_Repeat_main ⟨#[97]⟩ 33 W (by omega) (by omega) (by decide) (by decide)
  have hrep2 : ∀ W, Calls Tryd.prog 11 #[.string ⟨#[32]⟩, .int .i64 4097] W fun e w' => e = .returned (.string ⟨(Lib.repeatL (⟨#[32]⟩ : ByteArray).data.toList 4097).toArray⟩) ∧ Below W.heap.size W w' := fun W => Tryd.strings_Repeat_main ⟨#[32]⟩ 4097 W (by omega) (by omega) (by decide) (by decide)
  have HR1 := Lib.hid hrep1
  have HR2 := Lib.hid hrep2
  clear hG hrep1 hrep2
  go_enter Tryd.func3, Tryd.ntmps3
  go_wp2_with fail
  refine (HW.out).mono ?_
  rintro e w1 ⟨rfl, hb1⟩
  have HB1 := Lib.hid hb1
  clear hb1
  go_wp2_with fail
  refine (tok_ok kn_1 (n := 1) rfl _ (gv_step HG.out HB1.out).1).mono ?_
  rintro e w2 ⟨A1, c1, rfl, hi, hb⟩
  unfold spotV
  have HB2 := Lib.hid (bj13 (bj13 HB1.out hb) (one_alloc (o := .cells #[.int .i64 0, .int .i64 0] 26)))
  have HA1 := Lib.hid (tki_step hi (one_alloc (o := .cells #[.int .i64 0, .int .i64 0] 26)))
  clear hi hb
  go_wp2_with fail
  refine (tok_ok kn_2 (n := 1) rfl _ (gv_step HG.out HB2.out).1).mono ?_
  rintro e w3 ⟨A2, c2, rfl, hi, hb⟩
  unfold spotV
  have HB3 := Lib.hid (bj13 (bj13 HB2.out hb) (one_alloc (o := .cells #[.int .i64 0, .int .i64 0] 26)))
  have HA13 := Lib.hid (tki_step HA1.out (bj13 hb (one_alloc (o := .cells #[.int .i64 0, .int .i64 0] 26))))
  have HA23 := Lib.hid (tki_step hi (one_alloc (o := .cells #[.int .i64 0, .int .i64 0] 26)))
  clear hi hb
  go_wp2_with fail
  refine (tok_ok kn_3 (n := 1) rfl _ (gv_step HG.out HB3.out).1).mono ?_
  rintro e w4 ⟨A3, c3, rfl, hi, hb⟩
  unfold spotV
  have HB4 := Lib.hid (bj13 (bj13 HB3.out hb) (one_alloc (o := .cells #[.int .i64 0, .int .i64 0] 26)))
  have HA14 := Lib.hid (tki_step HA13.out (bj13 hb (one_alloc (o := .cells #[.int .i64 0, .int .i64 0] 26))))
  have HA24 := Lib.hid (tki_step HA23.out (bj13 hb (one_alloc (o := .cells #[.int .i64 0, .int .i64 0] 26))))
  have HA34 := Lib.hid (tki_step hi (one_alloc (o := .cells #[.int .i64 0, .int .i64 0] 26)))
  clear hi hb HA1 HA13 HA23
  go_wp2_with fail
  refine (sm_1 _ A1 c1 _ (by simp) HA14.out).mono ?_
  rintro e w5 ⟨rfl, hb5⟩
  have HB5 := Lib.hid (bj13 HB4.out hb5)
  have HA25 := Lib.hid (tki_step HA24.out hb5)
  have HA35 := Lib.hid (tki_step HA34.out hb5)
  clear hb5
  go_wp2_with fail
  refine (sm_2 _ A2 c2 _ rfl HA25.out).mono ?_
  rintro e w6 ⟨rfl, hb6⟩
  have HB6 := Lib.hid (bj13 HB5.out hb6)
  have HA36 := Lib.hid (tki_step HA35.out hb6)
  clear hb6
  go_wp2_with fail
  refine (sm_3 _ A3 c3 _ rfl HA36.out).mono ?_
  rintro e w7 ⟨rfl, hb⟩
  have HB7 := Lib.hid (bj13 HB6.out hb)
  have HK := Lib.hid (Blk.new w7 9 (knS.map Value.string).toArray)
  have HB8 := Lib.hid (bj13 HB7.out (one_alloc (o := .cells (knS.map Value.string).toArray 9)))
  clear hb
  go_wp2
  generalize w7.heap.size = g8 at *
  go_loopw [56] (fun i wr => ∃ j : Nat, j ≤ 7 ∧ i = .int .i64 j ∧ Blk wr g8 9 (knS.map Value.string).toArray ∧ Below w.heap.size w wr) (fun i _ => 7 - (intOf i).toNat)
  case atStart => exact ⟨0, by omega, rfl, HK.out, HB8.out⟩
  case round =>
    clear HK HB8
    obtain ⟨j, hj, rfl, hk, hbw⟩ := hrel
    have HK := Lib.hid hk
    have HBW := Lib.hid hbw
    by_cases hlt : j < 7
    · obtain ⟨s, p, hs, hp, ht⟩ := kn_bad j hlt
      have d1 : wr.cell? ⟨g8, j, none⟩ = some (.string s) := by rw [hk.cell j]; simp [hs]
      have jI : (j : Int) < 7 := by omega
      have jI0 : (0 : Int) ≤ j := by omega
      have HT := Lib.hid ht
      have HP := Lib.hid hp
      clear hk hbw hs hp ht
      go_wp2_with fail
      refine (tok_bad HT.out _ (gv_step HG.out HBW.out).1).mono ?_
      rintro e w9 ⟨rfl, hb⟩
      unfold spotV
      have h9 := Blk.new w9 26 #[.int .i64 6, .int .i64 p]
      obtain ⟨s0, s1, _, _⟩ := cell2b h9
      have hb9 := bj13 hb (one_alloc (o := .cells #[.int .i64 6, .int .i64 p] 26))
      have HB9 := Lib.hid (bj13 HBW.out hb9)
      have HK9 := Lib.hid (Blk.below HK.out hb9 (Blk.lt HK.out))
      have h10 := h9.alloc (.cells #[.int .i64 0, .int .i64 1, .int .i64 2, .int .i64 1, .int .i64 2, .int .i64 3, .int .i64 0] 3)
      obtain ⟨r0, r1, _, _⟩ := cell2b h10
      have hi := Blk.new (w9.alloc (.cells #[.int .i64 6, .int .i64 p] 26)) 3 #[.int .i64 0, .int .i64 1, .int .i64 2, .int .i64 1, .int .i64 2, .int .i64 3, .int .i64 0]
      have d2 := hi.cell j
      rw [show (#[.int .i64 0, .int .i64 1, .int .i64 2, .int .i64 1, .int .i64 2, .int .i64 3, .int .i64 0] : Array Value)[j]? = some (.int .i64 p) by
        have : (#[.int .i64 0, .int .i64 1, .int .i64 2, .int .i64 1, .int .i64 2, .int .i64 3, .int .i64 0] : Array Value) = (knP.map fun q : Nat => Value.int .i64 (q : Int)).toArray := rfl
        rw [this]
        simp [HP.out]] at d2
      have hsz1 : (w9.alloc (.cells #[.int .i64 6, .int .i64 p] 26)).heap.size = w9.heap.size + 1 := by simp
      rw [hsz1] at d2
      have i1 : ¬ (j : Int) < 0 := by omega
      have hba := one_alloc (w := w9.alloc (.cells #[.int .i64 6, .int .i64 p] 26)) (o := .cells #[.int .i64 0, .int .i64 1, .int .i64 2, .int .i64 1, .int .i64 2, .int .i64 3, .int .i64 0] 3)
      have HBA := Lib.hid hba
      have HSZ := Lib.hid hsz1
      clear hb hb9 h9 h10 hi hsz1 hba
      go_upto_region 12 with fail
      go_cut [77] (fun v wx => v = .bool false ∧ Below (w9.alloc (.cells #[.int .i64 6, .int .i64 p] 26)).heap.size (w9.alloc (.cells #[.int .i64 6, .int .i64 p] 26)) wx)
      case first =>
        go_region
        all_goals (go_wp2_with fail)
        all_goals go_meet
        all_goals exact ⟨rfl, HBA.out.os, HBA.out.tape, HBA.out.output, HBA.out.size, HBA.out.block⟩
      case rest =>
        obtain ⟨rfl, hcb⟩ := hcut
        rename World => wx
        have HB10 := Lib.hid (bj13 HB9.out hcb)
        have HK10 := Lib.hid (Blk.below HK9.out hcb (Blk.lt HK9.out))
        clear hcb
        go_wp2
        go_roundw
        case rel => exact ⟨j + 1, by omega, by go_num, HK10.out, HB10.out⟩
        case measure => simp [intOf]; omega
    · obtain rfl : j = 7 := by omega
      clear hk hbw HK
      go_wp2_with fail
      refine (tok_bad kn_big _ (gv_step HG.out HBW.out).1).mono ?_
      rintro e wa ⟨rfl, hb⟩
      unfold spotV
      have HB1 := Lib.hid (bj13 HBW.out (bj13 hb (one_alloc (o := .cells #[.int .i64 5, .int .i64 0] 26))))
      have HS1 := Lib.hid (Blk.new wa 26 #[.int .i64 5, .int .i64 0])
      clear hb
      go_wp2_with fail
      refine (HR1.out _).mono ?_
      rintro e wb ⟨rfl, hb⟩
      have HB2 := Lib.hid (bj13 HB1.out hb)
      have HS1b := Lib.hid (Blk.below HS1.out hb (Blk.lt HS1.out))
      clear hb
      go_wp2_with fail
      refine (tok_bad kn_33 _ (gv_step HG.out HB2.out).1).mono ?_
      rintro e wc ⟨rfl, hb⟩
      unfold spotV
      have hb2 := bj13 hb (one_alloc (o := .cells #[.int .i64 3, .int .i64 0] 26))
      have HB3 := Lib.hid (bj13 HB2.out hb2)
      have HS1c := Lib.hid (Blk.below HS1b.out hb2 (Blk.lt HS1b.out))
      have HS2 := Lib.hid (Blk.new wc 26 #[.int .i64 3, .int .i64 0])
      clear hb hb2
      go_wp2_with fail
      refine (HR2.out _).mono ?_
      rintro e wd ⟨rfl, hb⟩
      have HB4 := Lib.hid (bj13 HB3.out hb)
      have HS1d := Lib.hid (Blk.below HS1c.out hb (Blk.lt HS1c.out))
      have HS2d := Lib.hid (Blk.below HS2.out hb (Blk.lt HS2.out))
      clear hb
      go_wp2_with fail
      refine (tok_bad kn_4097 _ (gv_step HG.out HB4.out).1).mono ?_
      rintro e we ⟨rfl, hb⟩
      unfold spotV
      have hb2 := bj13 hb (one_alloc (o := .cells #[.int .i64 3, .int .i64 4096] 26))
      have HB5 := Lib.hid (bj13 HB4.out hb2)
      have HS1e := Lib.hid (Blk.below HS1d.out hb2 (Blk.lt HS1d.out))
      have HS2e := Lib.hid (Blk.below HS2d.out hb2 (Blk.lt HS2d.out))
      have HS3 := Lib.hid (Blk.new we 26 #[.int .i64 3, .int .i64 4096])
      clear hb hb2
      go_wp2_with fail
      refine (wr_1 _ _ (by simp) (gv_step HG.out HB5.out)).mono ?_
      rintro e wf ⟨rfl, hb⟩
      have HB6 := Lib.hid (bj13 HB5.out hb)
      have HS1f := Lib.hid (Blk.below HS1e.out hb (Blk.lt HS1e.out))
      have HS2f := Lib.hid (Blk.below HS2e.out hb (Blk.lt HS2e.out))
      have HS3f := Lib.hid (Blk.below HS3.out hb (Blk.lt HS3.out))
      clear hb
      go_wp2_with fail
      refine (wr_2 _ _ rfl (gv_step HG.out HB6.out)).mono ?_
      rintro e wg ⟨rfl, hb⟩
      have HB7 := Lib.hid (bj13 HB6.out hb)
      obtain ⟨s0, s1, _, _⟩ := cell2b (Blk.below HS1f.out hb (Blk.lt HS1f.out))
      obtain ⟨s2, s3, _, _⟩ := cell2b (Blk.below HS2f.out hb (Blk.lt HS2f.out))
      obtain ⟨s4, s5, _, _⟩ := cell2b (Blk.below HS3f.out hb (Blk.lt HS3f.out))
      clear hb
      go_wp2_with fail
      refine (words_any _ (gv_step HG.out HB7.out).1).mono ?_
      rintro e wh ⟨⟨ga, rfl, hga⟩, hb⟩
      have HB8 := Lib.hid (bj13 HB7.out hb)
      have HGA := Lib.hid hga
      clear hga hb s0 s1 s2 s3 s4 s5
      go_wp2_with fail
      refine (refWords_any _).mono ?_
      rintro e wi ⟨⟨gc, rfl, hgc⟩, hb⟩
      have HB9 := Lib.hid (bj13 HB8.out hb)
      have HGB := Lib.hid hgc
      have HGA2 := Lib.hid (stri_step HGA.out hb)
      clear hgc hb
      go_wp2_with fail
      refine (strEq_any _ _ wordsB _ _ _ HGA2.out HGB.out (by decide) (by rw [wordsB_len]; decide) 43 wordsB_len.symm).mono ?_
      rintro e wj ⟨rfl, hb⟩
      have HB10 := Lib.hid (bj13 HB9.out hb)
      clear hb
      go_wp2
      go_ret
      exact ⟨rfl, HB10.out⟩
end Go.Proofs.YtibnmkjabpoppaaDoor
