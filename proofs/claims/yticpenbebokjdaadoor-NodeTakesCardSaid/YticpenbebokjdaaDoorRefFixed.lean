/- What counterfoilref01.Fixed and counterfoilref01.Value answer. Conditions: at most eight bytes of a number of 64 bits; any text that a machine can hold. -/
import Derived.Test.YticpenbebokjdaaDoorProg
import Derived.Test.YticpenbebokjdaaDoorMem
import Derived.Test.YticpenbebokjdaaDoorNumMath
import Derived.WalkKit
import Derived.WalkSpells
import Derived.WalkLawsBesides
import Derived.Lib.Hide
namespace Go.Proofs.YticpenbebokjdaaDoor
open Go.RowKit
/-- the k lowest bytes of n, the highest first -/
def fixL : Nat → Nat → List Nat
  | 0, _ => []
  | k + 1, n => (n / 256 ^ k % 256) :: fixL k n
theorem fixL_length (k n : Nat) : (fixL k n).length = k := by induction k with | zero => rfl | succ k ih => simp [fixL, ih]
def lenOf : Value → Nat | .slice _ l _ => l | _ => 0
def vals8 (l : List Nat) : List Value := l.map fun (x : Nat) => Value.int .u8 (x : Int)
theorem vals8_length (l : List Nat) : (vals8 l).length = l.length := by simp [vals8]
theorem vals8_one (l : List Nat) : ∀ u ∈ vals8 l, u.oneCell' = true := by
  intro u h; simp only [vals8, List.mem_map] at h; obtain ⟨x, _, rfl⟩ := h; rfl
theorem own_lit (w : World) (base : Nat) (e : TypeId) (x : Value) (hb : base ≤ w.heap.size) :
    (w.alloc (.cells #[x] e)).ownsRow base e 1 (.slice (some ⟨w.heap.size, 0, none⟩) 1 1) 1 [x] :=
  ⟨by simp, .inr ⟨w.heap.size, 1, #[x], rfl, hb, heap_alloc_new w _, Nat.le_refl _, by unfold maxLen; omega, by simp, by simp⟩⟩
theorem u8_info : (Tryd.prog.info? 5).map (fun i => (i.zero, i.size, i.bytes)) = some (some (.int .u8 0), 1, 1) := by kernel_rfl
theorem cells_of_own {w : World} {base e : Nat} {v : Value} {n : Nat} {l : List Nat} (h : w.ownsRow base e 1 v n (vals8 l)) (hn : 0 < n) :
    ∃ g cap, v = .slice (some ⟨g, 0, none⟩) n cap ∧ n = l.length ∧ base ≤ g ∧ g < w.heap.size ∧ ∀ i, i < n → w.cell? ⟨g, 0 + i, none⟩ = some (.int .u8 ((l.map Int.ofNat).getD i 0)) := by
  obtain ⟨g, cap, rfl, hb, hlt⟩ := h.form hn
  have hl : n = l.length := by have := h.1; simp [vals8] at this; omega
  refine ⟨g, cap, rfl, hl, hb, hlt, fun i hi => ?_⟩
  have hc := h.cells (g := g) rfl i (.int .u8 ((l.map Int.ofNat).getD i 0)) (by
    simp only [vals8, List.getElem?_map, List.getD_eq_getElem?_getD]
    rw [List.getElem?_eq_getElem (by omega)]; rfl)
  have e1 : (⟨g, 0, none⟩ : Addr).add i = ⟨g, 0 + i, none⟩ := by unfold Addr.add; split <;> simp_all
  rw [e1] at hc
  exact hc
set_option maxRecDepth 100000 in
set_option maxHeartbeats 1000000 in
theorem refFixed_any (n many : Nat) (w : World) (hn : n < 18446744073709551616) (h1 : 1 ≤ many) (h8 : many ≤ 8) :
    Calls Tryd.prog 56 #[.int .u64 n, .int .i64 many] w fun e w' => e = .returned (.string (bstr (fixL many n))) ∧ Below w.heap.size w w' := by
  obtain ⟨i0, hi0, hz0, hz1, hz2⟩ := info_parts u8_info
  go_enter Tryd.func56, Tryd.ntmps56
  go_wp2_with fail
  go_loopw [0, 5] (fun v o wr => ∃ (k m c : Nat) (A : Option Addr), k ≤ many ∧ m = n / 256 ^ k ∧ v = .int .u64 m ∧ o = .slice A k c ∧ wr.ownsRow w.heap.size 5 1 (.slice A k c) k (vals8 (fixL k n)) ∧ Below w.heap.size w wr) (fun _ o _ => many - lenOf o)
  case atStart => exact ⟨0, n, 0, none, by omega, by simp, rfl, rfl, World.ownsRow_nil _ _ _ _, Below.refl _ _⟩
  case round =>
    obtain ⟨k, m, c, A, hk, hm, rfl, rfl, hown, hb⟩ := hrel
    by_cases hlt : k < many
    · have hm1 : m < 18446744073709551616 := by rw [hm]; exact Nat.lt_of_le_of_lt (Nat.div_le_self _ _) hn
      have hrd := (Reads.of_own hown).alloc (Nat.le_refl _) (.cells #[Value.int .u8 ((m : Int) % 256)] 5)
      have hlit := own_lit wr w.heap.size 5 (Value.int .u8 ((m : Int) % 256)) hb.size
      have HM := Lib.hid hm
      clear hm
      go_wp2_with (at_builtin; refine wpList_append_any _ rfl (.tmp 13) (.tmp 14) 41 rfl w.heap.size 5 i0 _ 1 1 Tryd.underlying41 hi0 hz0 hz1 hz2 rfl (by omega) (.slice (some ⟨wr.heap.size, 0, none⟩) 1 1) 1 [Value.int .u8 ((m : Int) % 256)] rfl hlit wr.heap.size A k c (vals8 (fixL k n)) rfl hrd (vals8_one _) (by simp only [maxLen]; omega) (by omega) (by have := hb.size; simp; omega) ?_; intro v1 w1 hown1 hg1 hat1)
      obtain ⟨g, cap, rfl, hbg, hlt2⟩ := hown1.form (by omega)
      have hb1 : Below w.heap.size w w1 := (hb.alloc hb.size _).grown hg1 (by simp; have := hb.size; omega) (fun q hq => by
        have e : wr.heap.size = q := by simpa [Value.ownBlock] using hq
        rw [← e]; exact hb.size)
      have e1 : (1 + k) = k + 1 := by omega
      have e2 : [Value.int .u8 ((m : Int) % 256)] ++ vals8 (fixL k n) = vals8 (fixL (k + 1) n) := by simp [vals8, fixL, ← HM.out]
      rw [e1, e2] at hown1
      rw [e1]
      exact ⟨⟨k + 1, m / 256, cap, some ⟨g, 0, none⟩, by omega, by rw [HM.out, Nat.div_div_eq_div_mul, Nat.pow_succ], by simp, rfl, hown1, hb1⟩, by simp [lenOf]; omega⟩
    · obtain rfl : k = many := by omega
      obtain ⟨g, cap, hv, hl, hbg, hgl, hcell⟩ := cells_of_own hown (by omega)
      have hcv := run_convert_bytes_arg (P := Tryd.prog) wr 41 5 Tryd.underlying41 Tryd.underlying5 g 0 k cap ((fixL k n).map Int.ofNat) (by simp; omega) hcell 9 Tryd.underlying9
      rw [bstr_nums] at hcv
      obtain ⟨rfl, rfl⟩ : A = some ⟨g, 0, none⟩ ∧ c = cap := by injection hv with e1 _ e2; exact ⟨e1, e2⟩
      clear hm hcell hv hl hown
      go_wp2
      go_ret
      exact ⟨rfl, hb⟩
end Go.Proofs.YticpenbebokjdaaDoor
