/- A copy of a text's beginning into an array, and a word of four bytes. Conditions: those of each lemma. -/
import Derived.Test.YthipaabjmlgjmaaProg
import Derived.Test.YthipaabjmlgjmaaNumMath
import Derived.WalkKit
import Derived.WalkSpells
import Derived.WalkLawsBesides
import Derived.Lib.Hide
import Derived.Lib.BufferWrite
import Derived.Deep.QuietTactic
import Derived.BigQuiet
namespace Go.Proofs.Ythipaabjmlgjmaa
open Go.RowKit
open Go.Lib
theorem or_at (a c i : Nat) (h : c < 2 ^ i) : a * 2 ^ i ||| c = a * 2 ^ i + c := by
  rw [Nat.mul_comm, ← Nat.two_pow_add_eq_or_of_lt h]
theorem or32 (a c i : Nat) (h : c < 2 ^ i) (hb : a * 2 ^ i + c < 4294967296) : bits .or .u32 ((a * 2 ^ i : Nat) : Int) (c : Int) = ((a * 2 ^ i + c : Nat) : Int) := by
  rw [u32_or_nat _ _ (by omega) (by omega), or_at a c i h]
theorem or_a (a b : Nat) (ha : a < 256) (hb : b < 256) : bits .or .u32 ((a : Int) * 16777216) ((b : Int) * 65536) = (a : Int) * 16777216 + (b : Int) * 65536 := by
  have := or32 a (b * 65536) 24 (by omega) (by omega)
  simpa using this
theorem or_b (a b c : Nat) (ha : a < 256) (hb : b < 256) (hc : c < 256) : bits .or .u32 ((a : Int) * 16777216 + (b : Int) * 65536) ((c : Int) * 256) = (a : Int) * 16777216 + (b : Int) * 65536 + (c : Int) * 256 := by
  have := or32 (a * 256 + b) (c * 256) 16 (by omega) (by omega)
  have e : ((a * 256 + b) * 2 ^ 16 : Nat) = a * 16777216 + b * 65536 := by omega
  rw [e] at this
  simpa using this
theorem or_c (a b c d : Nat) (ha : a < 256) (hb : b < 256) (hc : c < 256) (hd : d < 256) : bits .or .u32 ((a : Int) * 16777216 + (b : Int) * 65536 + (c : Int) * 256) (d : Int) = (a : Int) * 16777216 + (b : Int) * 65536 + (c : Int) * 256 + d := by
  have := or32 ((a * 256 + b) * 256 + c) d 8 (by omega) (by omega)
  have e : (((a * 256 + b) * 256 + c) * 2 ^ 8 : Nat) = a * 16777216 + b * 65536 + c * 256 := by omega
  rw [e] at this
  simpa using this
set_option maxRecDepth 100000 in
set_option maxHeartbeats 1000000 in
theorem word0_any (g : Nat) (a b c d : Nat) (w : World) (ha : a < 256) (hb : b < 256) (hc : c < 256) (hd : d < 256)
    (c0 : w.cell? ⟨g, 0, none⟩ = some (.int .u8 a)) (c1 : w.cell? ⟨g, 1, none⟩ = some (.int .u8 b)) (c2 : w.cell? ⟨g, 2, none⟩ = some (.int .u8 c)) (c3 : w.cell? ⟨g, 3, none⟩ = some (.int .u8 d)) :
    Calls Try.prog 98 #[.int .i64 0, .pointer (some ⟨g, 0, none⟩)] w fun e w' => e = .returned (.int .u32 ((a : Int) * 16777216 + (b : Int) * 65536 + (c : Int) * 256 + d)) ∧ ∃ n, w' = w.drewN n := by
  have o1 := or_a a b ha hb
  have o2 := or_b a b c ha hb hc
  have o3 := or_c a b c d ha hb hc hd
  have hal : Try.prog.arrayLen 163 = 8 := by kernel_rfl
  go_enter Try.func98, Try.ntmps98
  go_wp2
  go_quiet (fail)
  go_wp2
  go_ret
  exact ⟨rfl, _, rfl⟩
set_option maxRecDepth 100000 in
set_option maxHeartbeats 1000000 in
theorem word4_any (g : Nat) (a b c d : Nat) (w : World) (ha : a < 256) (hb : b < 256) (hc : c < 256) (hd : d < 256)
    (c0 : w.cell? ⟨g, 4, none⟩ = some (.int .u8 a)) (c1 : w.cell? ⟨g, 5, none⟩ = some (.int .u8 b)) (c2 : w.cell? ⟨g, 6, none⟩ = some (.int .u8 c)) (c3 : w.cell? ⟨g, 7, none⟩ = some (.int .u8 d)) :
    Calls Try.prog 98 #[.int .i64 4, .pointer (some ⟨g, 0, none⟩)] w fun e w' => e = .returned (.int .u32 ((a : Int) * 16777216 + (b : Int) * 65536 + (c : Int) * 256 + d)) ∧ ∃ n, w' = w.drewN n := by
  have o1 := or_a a b ha hb
  have o2 := or_b a b c ha hb hc
  have o3 := or_c a b c d ha hb hc hd
  have hal : Try.prog.arrayLen 163 = 8 := by kernel_rfl
  go_enter Try.func98, Try.ntmps98
  go_wp2
  go_quiet (fail)
  go_wp2
  go_ret
  exact ⟨rfl, _, rfl⟩
theorem run_copy_min {P : Program} (w : World) (dT sT ty elem : TypeId) (g o dLen dCap n : Nat) (s : ByteArray) (cur : Array Value) (t : TypeId)
    (hu : P.underlying dT = some (.slice elem)) (hs : (P.info? elem).map (·.size) = some 1) (hg : w.heap[g]? = some (.cells cur t (0, 0))) (hn : Nat.min s.size dLen = n) (hfit : o + n ≤ cur.size) :
    (Builtin.copy_ #[dT, sT] ty #[.slice (some ⟨g, o, none⟩) dLen dCap, .string s]).run P w =
      .ok (goInt n) (w.setRow g (cur.toList.take o ++ byteCells (s.data.toList.take n) ++ cur.toList.drop (o + n)).toArray) := by
  have hns : n ≤ s.size := by rw [← hn]; exact Nat.min_le_left _ _
  have hlen : (byteCells (s.data.toList.take n)).length = n := by
    rw [byteCells_length, List.length_take, ← size_eq]; omega
  have hst := run_storeCells_at P g o t (byteCells (s.data.toList.take n)) 0 cur w hg (by rw [hlen]; simpa using hfit) (byteCells_one _)
  have htk : List.take n (List.map (fun b : UInt8 => Value.int IntKind.u8 (b.toNat : Int)) s.data.toList) = byteCells (s.data.toList.take n) := by
    rw [← List.map_take]
    rfl
  rw [hlen] at hst
  simp only [Nat.add_zero] at hst
  cases hq : P.info? elem with
  | none => simp [hq] at hs
  | some i =>
    simp [Builtin.copy_, run_underlying hu, Builtin.lenOf, Builtin.firstCells, sizeOf, typeInfo, hq, hn]
    rw [htk, hst]
    simp [Result.andThen]
end Go.Proofs.Ythipaabjmlgjmaa
