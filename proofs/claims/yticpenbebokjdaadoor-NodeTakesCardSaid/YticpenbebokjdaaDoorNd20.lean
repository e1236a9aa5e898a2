/- ref10.value, part. Conditions: those of each lemma. -/
import Derived.Test.YticpenbebokjdaaDoorNd16
import Derived.Test.YticpenbebokjdaaDoorNdM
namespace Go.Proofs.YticpenbebokjdaaDoor
open Go.RowKit Go
set_option linter.unusedVariables false
set_option linter.unusedSimpArgs false
def valR (s : ByteArray) (p many : Nat) : Nat := valL ((List.range many).map fun i => (bts s).getD (p + i) 0)
def partR (s : ByteArray) (p many : Nat) : ByteArray := if s.size < p then ⟨#[]⟩ else if s.size < p + many then s.extract p s.size else s.extract p (p + many)
theorem valR_succ (s : ByteArray) (p j : Nat) : valR s p (j + 1) = valR s p j * 256 + (bts s).getD (p + j) 0 := by
  unfold valR
  rw [List.range_succ, List.map_append, List.map_cons, List.map_nil, valL_snoc]
theorem valR_lt (s : ByteArray) (p : Nat) : ∀ j, valR s p j < 256 ^ j
  | 0 => by simp [valR, valL]
  | j + 1 => by
    have h := valR_lt s p j
    have h2 := bts_getD_lt s (p + j)
    rw [valR_succ, Nat.pow_succ]
    omega
theorem partR_size (s : ByteArray) (p many : Nat) : (partR s p many).size ≤ many := by
  unfold partR
  split
  · show 0 ≤ many; omega
  · split
    · rw [ByteArray.size_extract]; omega
    · rw [ByteArray.size_extract]; omega
set_option maxRecDepth 100000 in
set_option maxHeartbeats 8000000 in
theorem value_any (s : ByteArray) (p many : Nat) (w : World) (hs : s.size ≤ 4096) (hp : p ≤ 10000) (hm : many ≤ 4) :
    Calls Tryd.prog 37 #[.string s, .int .i64 p, .int .i64 many] w fun e w' => e = .returned (.int .i64 (valR s p many)) ∧ w = w' := by
  have hsI : (s.size : Int) ≤ 4096 := by omega
  have hpI : (p : Int) ≤ 10000 := by omega
  have hmI : (many : Int) ≤ 4 := by omega
  have HS := Lib.hid (And.intro hs (And.intro hp hm))
  clear hs hp hm
  go_enter Tryd.func37, Tryd.ntmps37
  go_wp2
  go_loopw [7, 8] (fun n i wr => ∃ j : Nat, j ≤ many ∧ i = .int .i64 ((p + j : Nat) : Int) ∧ n = .int .i64 (valR s p j) ∧ w = wr) (fun _ i _ => p + many - (intOf i).toNat)
  case atStart => exact ⟨0, by omega, rfl, rfl, rfl⟩
  case round =>
    obtain ⟨j, hj, rfl, rfl, rfl⟩ := hrel
    have hm4 := HS.out.2.2
    have hvl := valR_lt s p j
    have hsu := valR_succ s p j
    by_cases hjm : j < many
    · have hv : valR s p j ≤ 16777215 := by
        have : 256 ^ j ≤ 256 ^ 3 := Nat.pow_le_pow_right (by omega) (by omega)
        omega
      obtain ⟨V, hV⟩ : ∃ V, valR s p j = V := ⟨_, rfl⟩
      obtain ⟨q, hq⟩ : ∃ q, p + j = q := ⟨_, rfl⟩
      rw [hV] at hv hsu ⊢
      rw [hq] at hsu ⊢
      have hvI : (V : Int) ≤ 16777215 := by omega
      have hqm : (q : Int) < p + many := by omega
      have hqI : (q : Int) ≤ 20000 := by omega
      have HQ := Lib.hid hq
      by_cases hlt : q < s.size
      · have hltI : (q : Int) < s.size := by omega
        have hb := byte_at s q hlt
        have hbl := bts_getD_lt s q
        have HN : Hid (valR s p (j + 1) = V * 256 + s[q].toNat) := Lib.hid (by rw [hsu, hb])
        have hbI : (s[q].toNat : Int) ≤ 255 := by omega
        clear hsu hvl hV hq hb hbl hv hm4
        go_wp2
        go_roundw
        case rel => exact ⟨j + 1, by omega, congrArg (Value.int .i64) (by have := HQ.out; omega), congrArg (Value.int .i64) (by rw [HN.out]; omega), by first | rfl | trivial⟩
        case measure => simp [intOf]; have := HQ.out; omega
      · have hltI : decide ((q : Int) < s.size) = false := decide_eq_false (by omega)
        have HN : Hid (valR s p (j + 1) = 256 * V) := Lib.hid (by
          rw [hsu, List.getD_eq_getElem?_getD, List.getElem?_eq_none (by rw [bts_length]; omega)]
          simp; omega)
        clear hsu hvl hV hq hv hm4
        go_wp2
        go_roundw
        case rel => exact ⟨j + 1, by omega, congrArg (Value.int .i64) (by have := HQ.out; omega), congrArg (Value.int .i64) (by rw [HN.out]; omega), by first | rfl | trivial⟩
        case measure => simp [intOf]; have := HQ.out; omega
    · obtain rfl : j = many := by omega
      have hd : decide (((p + j : Nat) : Int) < (p : Int) + (j : Int)) = false := decide_eq_false (by omega)
      go_wp2
      go_ret
      exact ⟨rfl, rfl⟩
set_option maxRecDepth 100000 in
set_option maxHeartbeats 8000000 in
theorem part_any (s : ByteArray) (p many : Nat) (w : World) (hs : s.size ≤ 4096) (hp : p ≤ 10000) (hm : many ≤ 100000) :
    Calls Tryd.prog 38 #[.string s, .int .i64 p, .int .i64 many] w fun e w' => e = .returned (.string (partR s p many)) ∧ w = w' := by
  have hsI : (s.size : Int) ≤ 4096 := by omega
  have hpI : (p : Int) ≤ 10000 := by omega
  have hmI : (many : Int) ≤ 100000 := by omega
  clear hs hp hm
  unfold partR
  by_cases h1 : s.size < p
  · rw [if_pos h1]
    have h1I : (s.size : Int) < p := by omega
    go_enter Tryd.func38, Tryd.ntmps38
    go_wp2
    go_ret
    exact ⟨rfl, rfl⟩
  · rw [if_neg h1]
    have h1I : decide ((s.size : Int) < p) = false := decide_eq_false (by omega)
    have h1L : (p : Int) ≤ s.size := by omega
    by_cases h2 : s.size < p + many
    · rw [if_pos h2]
      have h2I : (s.size : Int) < p + many := by omega
      go_enter Tryd.func38, Tryd.ntmps38
      go_wp2
      go_ret
      exact ⟨by simp, rfl⟩
    · rw [if_neg h2]
      have h2I : decide ((s.size : Int) < p + many) = false := decide_eq_false (by omega)
      have h2L : (p : Int) + many ≤ s.size := by omega
      go_enter Tryd.func38, Tryd.ntmps38
      go_wp2
      go_ret
      exact ⟨by simp, rfl⟩
end Go.Proofs.YticpenbebokjdaaDoor
