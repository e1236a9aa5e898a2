/- The walk of ShipSizes. Conditions: the numbers fit their kinds. -/
import Derived.Test.YtkocdaillkhkfaaShipGreat
namespace Go.Proofs.Ytkocdaillkhkfaa
open Go.RowKit
set_option linter.unusedVariables false
set_option maxRecDepth 100000 in
set_option maxHeartbeats 8000000 in
theorem shipSizes_great (kind ep K pages : Int) (full : Bool) (A : Option Addr) (l : List (Int × ByteArray)) (n c : Nat) (w : World) (hI : Imgs w w.heap.size A l) (hn : n = l.length) (hm : n ≤ maxLen) (hg : grB l = true) :
    Calls Try.prog 9 #[.agg #[.int .u8 kind, .int .u64 ep, .int .u64 K, .bool full, .int .i64 pages, .slice A n c]] w fun e w' => e = .returned (.bool true) ∧ Below w.heap.size w w' := by
  have hG := fun W (h : Sb w kind ep K pages full A n c W) => great_any kind ep K pages full A l n c W (sb_imgs h hI) hn hm
  rw [hg] at hG
  have HG := Lib.hid hG
  have hs0 := sb_new w kind ep K pages full A n c
  clear hG hI hn hm hg
  go_enter Try.func9, Try.ntmps9
  go_wp2_with fail
  refine (works_any _).mono ?_
  rintro e w1 ⟨rfl, hb1⟩
  have hs1 := sb_step hb1 hs0
  obtain ⟨r0, r1, r2, r3, r4, r5⟩ := sbS hs1
  clear hb1 hs0
  go_wp2_with fail
  refine (HG.out _ hs1).mono ?_
  rintro e w2 ⟨rfl, hb2⟩
  have hs2 := sb_step hb2 hs1
  clear hb2 hs1 r0 r1 r2 r3 r4 r5
  go_wp2
  go_ret
  exact ⟨rfl, hs2.2⟩
set_option maxRecDepth 100000 in
set_option maxHeartbeats 8000000 in
theorem shipSizes_bad (kind ep K pages : Int) (full : Bool) (A : Option Addr) (l : List (Int × ByteArray)) (n c : Nat) (w : World) (hI : Imgs w w.heap.size A l) (hn : n = l.length) (hm : n ≤ maxLen) (hg : grB l = false)
    (HP : Hid (∀ W, Sb w kind ep K pages full A n c W → Calls Try.prog 10 #[.agg #[.int .u8 kind, .int .u64 ep, .int .u64 K, .bool full, .int .i64 pages, .slice A n c]] W fun e w' => e = .returned (.tuple #[.string ⟨#[]⟩, .int .i64 2]) ∧ Below W.heap.size W w')) :
    Calls Try.prog 9 #[.agg #[.int .u8 kind, .int .u64 ep, .int .u64 K, .bool full, .int .i64 pages, .slice A n c]] w fun e w' => e = .returned (.bool true) ∧ Below w.heap.size w w' := by
  have hG := fun W (h : Sb w kind ep K pages full A n c W) => great_any kind ep K pages full A l n c W (sb_imgs h hI) hn hm
  rw [hg] at hG
  have HG := Lib.hid hG
  have hs0 := sb_new w kind ep K pages full A n c
  clear hG hI hn hm hg
  go_enter Try.func9, Try.ntmps9
  go_wp2_with fail
  refine (works_any _).mono ?_
  rintro e w1 ⟨rfl, hb1⟩
  have hs1 := sb_step hb1 hs0
  obtain ⟨r0, r1, r2, r3, r4, r5⟩ := sbS hs1
  clear hb1 hs0
  go_wp2_with fail
  refine (HG.out _ hs1).mono ?_
  rintro e w2 ⟨rfl, hb2⟩
  have hs2 := sb_step hb2 hs1
  clear hb2 hs1 r0 r1 r2 r3 r4 r5
  obtain ⟨r0, r1, r2, r3, r4, r5⟩ := sbS hs2
  go_wp2_with fail
  refine (HP.out _ hs2).mono ?_
  rintro e w3 ⟨rfl, hb3⟩
  have hs3 := sb_step hb3 hs2
  clear hb3 hs2 r0 r1 r2 r3 r4 r5
  go_wp2
  go_ret
  exact ⟨rfl, hs3.2⟩
set_option maxRecDepth 100000 in
set_option maxHeartbeats 8000000 in
theorem shipSizes_good (kind ep K pages : Int) (full : Bool) (A : Option Addr) (l : List (Int × ByteArray)) (n c : Nat) (S : ByteArray) (w : World) (hI : Imgs w w.heap.size A l) (hn : n = l.length) (hm : n ≤ maxLen) (hg : grB l = false) (h256 : n ≤ 256) (hS : S.size = 56 + 520 * n)
    (HP : Hid (∀ W, Sb w kind ep K pages full A n c W → Calls Try.prog 10 #[.agg #[.int .u8 kind, .int .u64 ep, .int .u64 K, .bool full, .int .i64 pages, .slice A n c]] W fun e w' => e = .returned (.tuple #[.string S, .int .i64 0]) ∧ Below W.heap.size W w')) :
    Calls Try.prog 9 #[.agg #[.int .u8 kind, .int .u64 ep, .int .u64 K, .bool full, .int .i64 pages, .slice A n c]] w fun e w' => e = .returned (.bool true) ∧ Below w.heap.size w w' := by
  have hG := fun W (h : Sb w kind ep K pages full A n c W) => great_any kind ep K pages full A l n c W (sb_imgs h hI) hn hm
  rw [hg] at hG
  have HG := Lib.hid hG
  have hs0 := sb_new w kind ep K pages full A n c
  have q1 : ((S.size : Int) == 56 + 520 * (n : Int)) = true := by rw [beq_iff_eq]; omega
  have q2 : (S.size : Int) ≤ 262144 := by omega
  have q3 : (n : Int) ≤ 256 := by omega
  clear hG hI hn hm hg hS
  go_enter Try.func9, Try.ntmps9
  go_wp2_with fail
  refine (works_any _).mono ?_
  rintro e w1 ⟨rfl, hb1⟩
  have hs1 := sb_step hb1 hs0
  obtain ⟨r0, r1, r2, r3, r4, r5⟩ := sbS hs1
  clear hb1 hs0
  go_wp2_with fail
  refine (HG.out _ hs1).mono ?_
  rintro e w2 ⟨rfl, hb2⟩
  have hs2 := sb_step hb2 hs1
  clear hb2 hs1 r0 r1 r2 r3 r4 r5
  obtain ⟨r0, r1, r2, r3, r4, r5⟩ := sbS hs2
  go_wp2_with fail
  refine (HP.out _ hs2).mono ?_
  rintro e w3 ⟨rfl, hb3⟩
  have hs3 := sb_step hb3 hs2
  clear hb3 hs2 r0 r1 r2 r3 r4 r5
  obtain ⟨r0, r1, r2, r3, r4, r5⟩ := sbS hs3
  go_wp2
  go_ret
  exact ⟨rfl, hs3.2⟩
theorem shipSizes_walk (a0 b0 c0 : Int) (d0 : Bool) (e0 : Int) (A0 : Option Addr) (l0 : List (Int × ByteArray)) (n0 k0 : Nat) (_wa0 : (Lit.int .u8 a0).wf = true) (wb0 : (Lit.int .u64 b0).wf = true) (wc0 : (Lit.int .u64 c0).wf = true) (_we0 : (Lit.int .i64 e0).wf = true) (hn0 : n0 = l0.length) (hm0 : n0 ≤ maxLen) (_hx0 : ∀ x ∈ l0, (Lit.int .i64 x.1).wf = true) (w : World) (I0 : Imgs w w.heap.size A0 l0) :
    Calls Try.prog 9 #[.agg #[.int .u8 a0, .int .u64 b0, .int .u64 c0, .bool d0, .int .i64 e0, .slice A0 n0 k0]] w fun e w' => e = .returned (.bool true) ∧ Below w.heap.size w w' := by
  cases hg : grB l0 with
  | true => exact shipSizes_great a0 b0 c0 e0 d0 A0 l0 n0 k0 w I0 hn0 hm0 hg
  | false =>
    rcases put_cases a0 b0 c0 e0 d0 A0 l0 n0 k0 w I0 hn0 hm0 (u64_lt wb0) (u64_lt wc0) with ⟨_, hp⟩ | ⟨k, e', K', p, rfl, rfl, rfl, rfl, hs, h256, hp⟩
    · exact shipSizes_bad a0 b0 c0 e0 d0 A0 l0 n0 k0 w I0 hn0 hm0 hg (Lib.hid hp)
    · exact shipSizes_good k e' K' p d0 A0 l0 n0 k0 _ w I0 hn0 hm0 hg h256 (by rw [ship_size hs, hn0]) (Lib.hid hp)
end Go.Proofs.Ytkocdaillkhkfaa
