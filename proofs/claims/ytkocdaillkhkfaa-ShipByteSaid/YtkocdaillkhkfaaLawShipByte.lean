/- The walk of ShipByte. Conditions: the numbers fit their kinds. -/
import Derived.Test.YtkocdaillkhkfaaShipGreat
import Derived.Deep.RegionHeld3
namespace Go.Proofs.Ytkocdaillkhkfaa
open Go.RowKit
set_option linter.unusedVariables false
/-- the text S of which byte j is z -/
def byteT (S : ByteArray) (j z : Nat) : ByteArray := S.extract 0 j ++ bstr [z] ++ S.extract (j + 1) S.size
theorem bts_at (s : ByteArray) (j : Nat) (h : j < s.size) : (bts s).getD j 0 = s[j].toNat := by
  unfold bts
  rw [List.getD_eq_getElem?_getD, List.getElem?_map, List.getElem?_eq_getElem (by simpa using h)]
  rfl
theorem byteT_bts (S : ByteArray) (j z : Nat) (hz : z < 256) : bts (byteT S j z) = (bts S).take j ++ [z] ++ (bts S).drop (j + 1) := by
  unfold byteT
  rw [bts_app, bts_app, bts_cut0, bts_cutr, bts_bstr [z] (fun x hx => by rw [List.mem_singleton.1 hx]; exact hz)]
theorem byteT_getD (S : ByteArray) (j z : Nat) (hz : z < 256) (hj : j < S.size) (i : Nat) : (bts (byteT S j z)).getD i 0 = if i = j then z else (bts S).getD i 0 := by
  rw [byteT_bts S j z hz]
  have hl : ((bts S).take j).length = j := by rw [List.length_take, bts_length]; omega
  simp only [List.getD_eq_getElem?_getD]
  by_cases h1 : i < j
  · rw [List.append_assoc, List.getElem?_append_left (by omega), if_neg (by omega), List.getElem?_take, if_pos h1]
  · by_cases h2 : i = j
    · subst h2
      rw [List.append_assoc, List.getElem?_append_right (by omega), hl, Nat.sub_self, if_pos rfl]
      rfl
    · rw [List.getElem?_append_right (by rw [List.length_append, hl]; simp; omega), List.length_append, hl, if_neg h2, List.getElem?_drop]
      congr 2
      simp
      omega
theorem byteT_size (S : ByteArray) (j z : Nat) (hz : z < 256) (hj : j < S.size) : (byteT S j z).size = S.size := by
  rw [← bts_length, byteT_bts S j z hz, List.length_append, List.length_append, List.length_take, List.length_drop, bts_length]
  simp
  omega
theorem byteT_near (S : ByteArray) (j z : Nat) (hz : z < 256) (hj : j < S.size) : Near (bts (byteT S j z)) (bts S) (j / 8) := fun i hi => by
  rw [byteT_getD S j z hz hj, if_neg (by omega)]
theorem byteT_same (S : ByteArray) (j : Nat) (hj : j < S.size) : byteT S j ((bts S).getD j 0) = S := by
  have hlt : (bts S).getD j 0 < 256 := getD_of_lt (bts_lt S) j
  refine bts_inj (list_of_getD ?_ fun i => ?_)
  · rw [bts_length, bts_length, byteT_size S j _ hlt hj]
  · rw [byteT_getD S j _ hlt hj]
    split
    · next h => rw [h]
    · rfl
theorem byteT_other (S : ByteArray) (j z : Nat) (hz : z < 256) (hj : j < S.size) (h : byteT S j z = S) : z = (bts S).getD j 0 := by
  have := byteT_getD S j z hz hj j
  rw [h, if_pos rfl] at this
  exact this.symm
theorem bits_xor_u8_nat (a b : Nat) (ha : a < 256) (hb : b < 256) : bits .xor .u8 (a : Int) (b : Int) = ((a ^^^ b : Nat) : Int) := by
  unfold bits
  have e1 : (BitVec.ofInt 8 (a : Int)).toNat = a := by rw [BitVec.toNat_ofInt]; omega
  have e2 : (BitVec.ofInt 8 (b : Int)).toNat = b := by rw [BitVec.toNat_ofInt]; omega
  have hx : a ^^^ b < 2 ^ 8 := Nat.xor_lt_two_pow (by omega) (by omega)
  show IntKind.u8.wrap (((BitVec.ofInt 8 (a : Int) ^^^ BitVec.ofInt 8 (b : Int)).toNat : Nat) : Int) = _
  rw [BitVec.toNat_xor, e1, e2]
  generalize a ^^^ b = c at *
  unfold IntKind.wrap
  simp [IntKind.bits, IntKind.signed]
  omega
theorem xor_zero_iff (a b : Nat) : a ^^^ b = a ↔ b = 0 := by
  constructor
  · intro h
    have : a ^^^ (a ^^^ b) = a ^^^ a := by rw [h]
    rw [← Nat.xor_assoc, Nat.xor_self, Nat.zero_xor] at this
    exact this
  · rintro rfl
    exact Nat.xor_zero a
set_option maxRecDepth 100000 in
set_option maxHeartbeats 8000000 in
theorem shipByte_great (kind ep K pages at_ by_ : Int) (full : Bool) (A : Option Addr) (n c : Nat) (S : ByteArray) (ev : Int) (g : Bool) (w : World)
    (HG : Hid (∀ W, Sb w kind ep K pages full A n c W → Calls Try.prog 14 #[.agg #[.int .u8 kind, .int .u64 ep, .int .u64 K, .bool full, .int .i64 pages, .slice A n c]] W fun e w' => e = .returned (.bool g) ∧ Below W.heap.size W w'))
    (HP : Hid (∀ W, Sb w kind ep K pages full A n c W → Calls Try.prog 10 #[.agg #[.int .u8 kind, .int .u64 ep, .int .u64 K, .bool full, .int .i64 pages, .slice A n c]] W fun e w' => e = .returned (.tuple #[.string S, .int .i64 ev]) ∧ Below W.heap.size W w')) (hg : g = true) :
    Calls Try.prog 7 #[.agg #[.int .u8 kind, .int .u64 ep, .int .u64 K, .bool full, .int .i64 pages, .slice A n c], .int .i64 at_, .int .u8 by_] w fun e w' => e = .returned (.bool true) ∧ Below w.heap.size w w' := by
  subst hg
  have hs0 := sb_new w kind ep K pages full A n c
  go_enter Try.func7, Try.ntmps7
  go_wp2_with fail
  refine (works_any _).mono ?_
  rintro e w1 ⟨rfl, hb1⟩
  have hs1 := sb_step hb1 hs0
  obtain ⟨r0, r1, r2, r3, r4, r5⟩ := sbS hs1
  clear hb1 hs0
  go_wp2_with fail
  refine (HP.out _ hs1).mono ?_
  rintro e w2 ⟨rfl, hb2⟩
  have hs2 := sb_step hb2 hs1
  clear hb2 hs1 r0 r1 r2 r3 r4 r5
  obtain ⟨r0, r1, r2, r3, r4, r5⟩ := sbS hs2
  go_wp2_with fail
  refine (HG.out _ hs2).mono ?_
  rintro e w3 ⟨rfl, hb3⟩
  have hs3 := sb_step hb3 hs2
  clear hb3 hs2 r0 r1 r2 r3 r4 r5
  go_wp2
  go_ret
  exact ⟨rfl, hs3.2⟩
set_option maxRecDepth 100000 in
set_option maxHeartbeats 8000000 in
theorem shipByte_bad (kind ep K pages at_ by_ : Int) (full : Bool) (A : Option Addr) (n c : Nat) (S : ByteArray) (ev : Int) (g : Bool) (w : World)
    (HG : Hid (∀ W, Sb w kind ep K pages full A n c W → Calls Try.prog 14 #[.agg #[.int .u8 kind, .int .u64 ep, .int .u64 K, .bool full, .int .i64 pages, .slice A n c]] W fun e w' => e = .returned (.bool g) ∧ Below W.heap.size W w'))
    (HP : Hid (∀ W, Sb w kind ep K pages full A n c W → Calls Try.prog 10 #[.agg #[.int .u8 kind, .int .u64 ep, .int .u64 K, .bool full, .int .i64 pages, .slice A n c]] W fun e w' => e = .returned (.tuple #[.string S, .int .i64 ev]) ∧ Below W.heap.size W w')) (hg : g = false) (he : (ev != 0) = true) :
    Calls Try.prog 7 #[.agg #[.int .u8 kind, .int .u64 ep, .int .u64 K, .bool full, .int .i64 pages, .slice A n c], .int .i64 at_, .int .u8 by_] w fun e w' => e = .returned (.bool true) ∧ Below w.heap.size w w' := by
  subst hg
  have hs0 := sb_new w kind ep K pages full A n c
  go_enter Try.func7, Try.ntmps7
  go_wp2_with fail
  refine (works_any _).mono ?_
  rintro e w1 ⟨rfl, hb1⟩
  have hs1 := sb_step hb1 hs0
  obtain ⟨r0, r1, r2, r3, r4, r5⟩ := sbS hs1
  clear hb1 hs0
  go_wp2_with fail
  refine (HP.out _ hs1).mono ?_
  rintro e w2 ⟨rfl, hb2⟩
  have hs2 := sb_step hb2 hs1
  clear hb2 hs1 r0 r1 r2 r3 r4 r5
  obtain ⟨r0, r1, r2, r3, r4, r5⟩ := sbS hs2
  go_wp2_with fail
  refine (HG.out _ hs2).mono ?_
  rintro e w3 ⟨rfl, hb3⟩
  have hs3 := sb_step hb3 hs2
  clear hb3 hs2 r0 r1 r2 r3 r4 r5
  go_wp2
  go_ret
  exact ⟨rfl, hs3.2⟩
set_option maxRecDepth 100000 in
set_option maxHeartbeats 8000000 in
theorem shipByte_neg (kind ep K pages at_ by_ : Int) (full : Bool) (A : Option Addr) (n c : Nat) (S : ByteArray) (ev : Int) (g : Bool) (w : World)
    (HG : Hid (∀ W, Sb w kind ep K pages full A n c W → Calls Try.prog 14 #[.agg #[.int .u8 kind, .int .u64 ep, .int .u64 K, .bool full, .int .i64 pages, .slice A n c]] W fun e w' => e = .returned (.bool g) ∧ Below W.heap.size W w'))
    (HP : Hid (∀ W, Sb w kind ep K pages full A n c W → Calls Try.prog 10 #[.agg #[.int .u8 kind, .int .u64 ep, .int .u64 K, .bool full, .int .i64 pages, .slice A n c]] W fun e w' => e = .returned (.tuple #[.string S, .int .i64 ev]) ∧ Below W.heap.size W w')) (hg : g = false) (he : (ev != 0) = false) (ha : at_ < 0) :
    Calls Try.prog 7 #[.agg #[.int .u8 kind, .int .u64 ep, .int .u64 K, .bool full, .int .i64 pages, .slice A n c], .int .i64 at_, .int .u8 by_] w fun e w' => e = .returned (.bool true) ∧ Below w.heap.size w w' := by
  subst hg
  have hs0 := sb_new w kind ep K pages full A n c
  go_enter Try.func7, Try.ntmps7
  go_wp2_with fail
  refine (works_any _).mono ?_
  rintro e w1 ⟨rfl, hb1⟩
  have hs1 := sb_step hb1 hs0
  obtain ⟨r0, r1, r2, r3, r4, r5⟩ := sbS hs1
  clear hb1 hs0
  go_wp2_with fail
  refine (HP.out _ hs1).mono ?_
  rintro e w2 ⟨rfl, hb2⟩
  have hs2 := sb_step hb2 hs1
  clear hb2 hs1 r0 r1 r2 r3 r4 r5
  obtain ⟨r0, r1, r2, r3, r4, r5⟩ := sbS hs2
  go_wp2_with fail
  refine (HG.out _ hs2).mono ?_
  rintro e w3 ⟨rfl, hb3⟩
  have hs3 := sb_step hb3 hs2
  clear hb3 hs2 r0 r1 r2 r3 r4 r5
  go_wp2
  go_ret
  exact ⟨rfl, hs3.2⟩
set_option maxRecDepth 100000 in
set_option maxHeartbeats 8000000 in
theorem shipByte_far (kind ep K pages at_ by_ : Int) (full : Bool) (A : Option Addr) (n c : Nat) (S : ByteArray) (ev : Int) (g : Bool) (w : World)
    (HG : Hid (∀ W, Sb w kind ep K pages full A n c W → Calls Try.prog 14 #[.agg #[.int .u8 kind, .int .u64 ep, .int .u64 K, .bool full, .int .i64 pages, .slice A n c]] W fun e w' => e = .returned (.bool g) ∧ Below W.heap.size W w'))
    (HP : Hid (∀ W, Sb w kind ep K pages full A n c W → Calls Try.prog 10 #[.agg #[.int .u8 kind, .int .u64 ep, .int .u64 K, .bool full, .int .i64 pages, .slice A n c]] W fun e w' => e = .returned (.tuple #[.string S, .int .i64 ev]) ∧ Below W.heap.size W w')) (hg : g = false) (he : (ev != 0) = false) (h0 : 0 ≤ at_) (ha : (S.size : Int) ≤ at_) :
    Calls Try.prog 7 #[.agg #[.int .u8 kind, .int .u64 ep, .int .u64 K, .bool full, .int .i64 pages, .slice A n c], .int .i64 at_, .int .u8 by_] w fun e w' => e = .returned (.bool true) ∧ Below w.heap.size w w' := by
  subst hg
  have hs0 := sb_new w kind ep K pages full A n c
  go_enter Try.func7, Try.ntmps7
  go_wp2_with fail
  refine (works_any _).mono ?_
  rintro e w1 ⟨rfl, hb1⟩
  have hs1 := sb_step hb1 hs0
  obtain ⟨r0, r1, r2, r3, r4, r5⟩ := sbS hs1
  clear hb1 hs0
  go_wp2_with fail
  refine (HP.out _ hs1).mono ?_
  rintro e w2 ⟨rfl, hb2⟩
  have hs2 := sb_step hb2 hs1
  clear hb2 hs1 r0 r1 r2 r3 r4 r5
  obtain ⟨r0, r1, r2, r3, r4, r5⟩ := sbS hs2
  go_wp2_with fail
  refine (HG.out _ hs2).mono ?_
  rintro e w3 ⟨rfl, hb3⟩
  have hs3 := sb_step hb3 hs2
  clear hb3 hs2 r0 r1 r2 r3 r4 r5
  go_wp2
  go_ret
  exact ⟨rfl, hs3.2⟩
theorem conv1 (z : Nat) (w : World) : (convert 38 9 (.slice (some ⟨w.heap.size, 0, none⟩) 1 1)).run Try.prog ((w.alloc (.cells #[Value.int IntKind.u8 z] 5)).drew) = .ok (.string (bstr [z])) ((w.alloc (.cells #[Value.int IntKind.u8 z] 5)).drew) := by
  have hcv := run_convert_bytes_arg (P := Try.prog) ((w.alloc (.cells #[Value.int IntKind.u8 z] 5)).drew) 38 5 Try.underlying38 Try.underlying5 w.heap.size 0 1 1 ([z].map Int.ofNat) rfl (fun i hi => by
    obtain rfl : i = 0 := by omega
    exact ((Blk.new w 5 #[Value.int IntKind.u8 z]).drew).cell 0) 9 Try.underlying9
  rw [bstr_nums] at hcv
  exact hcv
set_option maxRecDepth 100000 in
set_option maxHeartbeats 8000000 in
theorem shipByte_main (kind ep K pages by_ : Int) (full : Bool) (A : Option Addr) (n c : Nat) (S : ByteArray) (j z : Nat) (y : Int) (bb : Bool) (w : World)
    (HG : Hid (∀ W, Sb w kind ep K pages full A n c W → Calls Try.prog 14 #[.agg #[.int .u8 kind, .int .u64 ep, .int .u64 K, .bool full, .int .i64 pages, .slice A n c]] W fun e w' => e = .returned (.bool false) ∧ Below W.heap.size W w'))
    (HP : Hid (∀ W, Sb w kind ep K pages full A n c W → Calls Try.prog 10 #[.agg #[.int .u8 kind, .int .u64 ep, .int .u64 K, .bool full, .int .i64 pages, .slice A n c]] W fun e w' => e = .returned (.tuple #[.string S, .int .i64 0]) ∧ Below W.heap.size W w'))
    (hj : j < S.size) (hS : S.size ≤ 1000000) (hx : bits .xor .u8 (S[j].toNat : Int) by_ = (z : Int)) (hy : Hid ((y == 0) = bb)) (hby : Hid ((by_ == 0) = bb))
    (HT : Hid (∀ W, Calls Try.prog 12 #[.string (S.extract 0 j ++ bstr [z] ++ S.extract (j + 1) S.size)] W fun e w' => ∃ v, e = .returned (.tuple #[v, .int .i64 y]) ∧ Below W.heap.size W w')) :
    Calls Try.prog 7 #[.agg #[.int .u8 kind, .int .u64 ep, .int .u64 K, .bool full, .int .i64 pages, .slice A n c], .int .i64 j, .int .u8 by_] w fun e w' => e = .returned (.bool true) ∧ Below w.heap.size w w' := by
  have hs0 := sb_new w kind ep K pages full A n c
  have hjI : (j : Int) < S.size := by omega
  have HX := Lib.hid hx
  clear hx
  go_enter Try.func7, Try.ntmps7
  go_wp2_with fail
  refine (works_any _).mono ?_
  rintro e w1 ⟨rfl, hb1⟩
  have hs1 := sb_step hb1 hs0
  obtain ⟨r0, r1, r2, r3, r4, r5⟩ := sbS hs1
  clear hb1 hs0
  go_wp2_with fail
  refine (HP.out _ hs1).mono ?_
  rintro e w2 ⟨rfl, hb2⟩
  have hs2 := sb_step hb2 hs1
  clear hb2 hs1 r0 r1 r2 r3 r4 r5
  obtain ⟨r0, r1, r2, r3, r4, r5⟩ := sbS hs2
  go_wp2_with fail
  refine (HG.out _ hs2).mono ?_
  rintro e w3 ⟨rfl, hb3⟩
  have hs3 := sb_step hb3 hs2
  clear hb3 hs2 r0 r1 r2 r3 r4 r5
  have HS3 := Lib.hid hs3
  clear hs3
  go_wp2_with fail
  have hx := HX.out
  have hw2 : IntKind.i64.wrap ((j : Int) + 1) = (j : Int) + 1 := by simp [IntKind.wrap, IntKind.bits, IntKind.signed]; omega
  have hf0 : (0 : Int) ≤ (j : Int) := by omega
  have hf1 : (j : Int) ≤ S.size := by omega
  have hf2 : (j : Int) + 1 ≤ S.size := by omega
  have hf3 : (0 : Int) ≤ (j : Int) + 1 := by omega
  have hf4 : ((j : Int) + 1).toNat = j + 1 := by omega
  have hcv := conv1 z w3
  have hsB : (bstr [z]).size = 1 := by rw [bstr_size]; rfl
  have hsA : (S.extract 0 j).size = j := by simp; omega
  have hsC : (S.extract (j + 1) S.size).size = S.size - (j + 1) := by simp
  have hct1 := fun w => run_string_add_sum (P := Try.prog) w (S.extract 0 j) (bstr [z]) (by omega)
  have hct2 := fun w => run_string_add_sum (P := Try.prog) w (S.extract 0 j ++ bstr [z]) (S.extract (j + 1) S.size) (by rw [ByteArray.size_append]; omega)
  have hm1 : min j S.size + 1 ≤ 9223372036854775807 := by omega
  have hm2 : min j S.size + 1 + (S.size - (j + 1)) ≤ 9223372036854775807 := by omega
  clear hsA hsC hS
  go_region_with ((go_at_call 12; (with_reducible refine (HT.out _).mono ?_); rintro e w5 ⟨v, rfl, hb5⟩))
  clear hx hw2 hf0 hf1 hf2 hf3 hf4 hcv hsB hct1 hct2 hm1 hm2
  have hs5 := sb_step hb5 (sb_drewN 1 (sb_step ((Below.refl _ _).alloc (Nat.le_refl _) _) HS3.out))
  have e1 := hy.out
  have e2 := hby.out
  cases bb
  all_goals
    go_wp2
    go_ret
    exact ⟨rfl, hs5.2⟩
theorem take_other (s : ByteArray) (hz : s.size ≤ 140737488351232) (hs : 56 ≤ s.size) (hm : s.size % 8 = 0) (h : ¬ sumOk s) : ∀ W, Calls Try.prog 12 #[.string s] W fun e w' => ∃ v, e = .returned (.tuple #[v, .int .i64 40]) ∧ Below W.heap.size W w' := fun W =>
  (take_sum s W hz hs hm h).mono fun _ _ he => ⟨_, he.1, he.2⟩
theorem takeOkS (s : ByteArray) {kind ep K : Nat} {full : Bool} {pages : Nat} {l : List (Int × ByteArray)} (hz : s.size ≤ 140737488351232) (h : IsShip s kind ep K full pages l) : ∀ W, Calls Try.prog 12 #[.string s] W fun e w' => ∃ v, e = .returned (.tuple #[v, .int .i64 0]) ∧ Below W.heap.size W w' := fun W =>
  (take_yes s kind ep K full pages l W hz h).mono fun _ _ he => by
    obtain ⟨A, c, h1, _, h3⟩ := he
    exact ⟨_, h1, h3⟩
theorem shipByte_walk (a0 b0 c0 : Int) (d0 : Bool) (e0 : Int) (A0 : Option Addr) (l0 : List (Int × ByteArray)) (n0 k0 : Nat) (a1 a2 : Int) (_wa0 : (Lit.int .u8 a0).wf = true) (wb0 : (Lit.int .u64 b0).wf = true) (wc0 : (Lit.int .u64 c0).wf = true) (_we0 : (Lit.int .i64 e0).wf = true) (hn0 : n0 = l0.length) (hm0 : n0 ≤ maxLen) (_hx0 : ∀ x ∈ l0, (Lit.int .i64 x.1).wf = true) (_w1 : (Lit.int .i64 a1).wf = true) (w2 : (Lit.int .u8 a2).wf = true) (w : World) (I0 : Imgs w w.heap.size A0 l0) :
    Calls Try.prog 7 #[.agg #[.int .u8 a0, .int .u64 b0, .int .u64 c0, .bool d0, .int .i64 e0, .slice A0 n0 k0], .int .i64 a1, .int .u8 a2] w fun e w' => e = .returned (.bool true) ∧ Below w.heap.size w w' := by
  have hG := fun W (h : Sb w a0 b0 c0 e0 d0 A0 n0 k0 W) => great_any a0 b0 c0 e0 d0 A0 l0 n0 k0 W (sb_imgs h I0) hn0 hm0
  have h2 := bounds_u8 w2
  rcases put_cases a0 b0 c0 e0 d0 A0 l0 n0 k0 w I0 hn0 hm0 (u64_lt wb0) (u64_lt wc0) with ⟨_, hp⟩ | ⟨k, e', K', p, rfl, rfl, rfl, rfl, hs, h256, hp⟩
  · cases hg : grB l0 with
    | true => exact shipByte_great a0 b0 c0 e0 a1 a2 d0 A0 n0 k0 _ _ _ w (Lib.hid hG) (Lib.hid hp) hg
    | false => exact shipByte_bad a0 b0 c0 e0 a1 a2 d0 A0 n0 k0 _ _ _ w (Lib.hid hG) (Lib.hid hp) hg rfl
  · cases hg : grB l0 with
    | true => exact shipByte_great k e' K' p a1 a2 d0 A0 n0 k0 _ _ _ w (Lib.hid hG) (Lib.hid hp) hg
    | false =>
      by_cases h1 : a1 < 0
      · exact shipByte_neg k e' K' p a1 a2 d0 A0 n0 k0 _ _ _ w (Lib.hid hG) (Lib.hid hp) hg rfl h1
      generalize hT : bstr (shipL k e' K' d0 p l0) = T at *
      have hsz := ship_size hs
      by_cases h3 : (T.size : Int) ≤ a1
      · exact shipByte_far k e' K' p a1 a2 d0 A0 n0 k0 _ _ _ w (Lib.hid hG) (Lib.hid hp) hg rfl (by omega) h3
      obtain ⟨j, rfl⟩ := Int.eq_ofNat_of_zero_le (show 0 ≤ a1 from by omega)
      obtain ⟨y, rfl⟩ := Int.eq_ofNat_of_zero_le h2.1
      rw [hg] at hG
      have hj : j < T.size := by omega
      have hSj : T[j].toNat < 256 := T[j].toNat_lt
      have hgd : (bts T).getD j 0 = T[j].toNat := bts_at T j hj
      have hz : T[j].toNat ^^^ y < 256 := Nat.xor_lt_two_pow (n := 8) (by omega) (by omega)
      have hx := bits_xor_u8_nat T[j].toNat y hSj (by omega)
      have hsz2 := byteT_size T j _ hz hj
      by_cases hy : y = 0
      · have e : byteT T j (T[j].toNat ^^^ y) = T := by rw [hy, Nat.xor_zero, ← hgd]; exact byteT_same T j hj
        refine shipByte_main k e' K' p y d0 A0 n0 k0 T j _ 0 true w (Lib.hid hG) (Lib.hid hp) hj (by omega) hx (Lib.hid rfl) (Lib.hid (by rw [hy]; rfl)) (Lib.hid ?_)
        have ht := takeOkS T (by omega) hs
        rw [← e] at ht
        exact ht
      · have hne : ¬ sumOk (byteT T j (T[j].toNat ^^^ y)) := fun h => by
          have e := ship_near (byteT_near T j _ hz hj) hsz2 (by omega) h (ship_sum hs)
          have := byteT_other T j _ hz hj e
          rw [hgd] at this
          exact hy ((xor_zero_iff _ _).1 this)
        refine shipByte_main k e' K' p y d0 A0 n0 k0 T j _ 40 false w (Lib.hid hG) (Lib.hid hp) hj (by omega) hx (Lib.hid rfl) (Lib.hid (by rw [beq_eq_false_iff_ne]; omega)) (Lib.hid ?_)
        exact take_other (byteT T j (T[j].toNat ^^^ y)) (by omega) (by omega) (by omega) hne
end Go.Proofs.Ytkocdaillkhkfaa
