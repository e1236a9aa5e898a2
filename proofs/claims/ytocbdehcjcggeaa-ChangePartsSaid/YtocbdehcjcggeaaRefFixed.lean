/- What counterfoilref01.Fixed and counterfoilref01.Value answer. Conditions: at most eight bytes of a number of 64 bits; any text that a machine can hold. -/
import Derived.Test.YtocbdehcjcggeaaProg
import Derived.Test.YtocbdehcjcggeaaMem
import Derived.Test.YtocbdehcjcggeaaNumMath
import Derived.WalkKit
import Derived.WalkSpells
import Derived.WalkLawsBesides
import Derived.Lib.Hide
namespace Go.Proofs.Ytocbdehcjcggeaa
open Go.RowKit
/-- the k lowest bytes of n, the highest first -/
def fixL : Nat → Nat → List Nat
  | 0, _ => []
  | k + 1, n => (n / 256 ^ k % 256) :: fixL k n
theorem fixL_length (k n : Nat) : (fixL k n).length = k := by induction k with | zero => rfl | succ k ih => simp [fixL, ih]
def lenOf : Value → Nat | .slice _ l _ => l | _ => 0
def vals8 (l : List Nat) : List Value := l.map fun (x : Nat) => Value.int .u8 (x : Int)
theorem vals8_length (l : List Nat) : (vals8 l).length = l.length := by simp [vals8]
theorem vals8_one (l : List Nat) : ∀ u ∈ vals8 l, u.oneCell' = true := by
  intro u h; simp only [vals8, List.mem_map] at h; obtain ⟨x, _, rfl⟩ := h; rfl
theorem own_lit (w : World) (base : Nat) (e : TypeId) (x : Value) (hb : base ≤ w.heap.size) :
    (w.alloc (.cells #[x] e)).ownsRow base e 1 (.slice (some ⟨w.heap.size, 0, none⟩) 1 1) 1 [x] :=
  ⟨by simp, .inr ⟨w.heap.size, 1, #[x], rfl, hb, heap_alloc_new w _, Nat.le_refl _, by unfold maxLen; omega, by simp, by simp⟩⟩
theorem u8_info : (Try.prog.info? 5).map (fun i => (i.zero, i.size, i.bytes)) = some (some (.int .u8 0), 1, 1) := by kernel_rfl
theorem cells_of_own {w : World} {base e : Nat} {v : Value} {n : Nat} {l : List Nat} (h : w.ownsRow base e 1 v n (vals8 l)) (hn : 0 < n) :
    ∃ g cap, v = .slice (some ⟨g, 0, none⟩) n cap ∧ n = l.length ∧ base ≤ g ∧ g < w.heap.size ∧ ∀ i, i < n → w.cell? ⟨g, 0 + i, none⟩ = some (.int .u8 ((l.map Int.ofNat).getD i 0)) := by
  obtain ⟨g, cap, rfl, hb, hlt⟩ := h.form hn
  have hl : n = l.length := by have := h.1; simp [vals8] at this; omega
  refine ⟨g, cap, rfl, hl, hb, hlt, fun i hi => ?_⟩
  have hc := h.cells (g := g) rfl i (.int .u8 ((l.map Int.ofNat).getD i 0)) (by
    simp only [vals8, List.getElem?_map, List.getD_eq_getElem?_getD]
    rw [List.getElem?_eq_getElem (by omega)]; rfl)
  have e1 : (⟨g, 0, none⟩ : Addr).add i = ⟨g, 0 + i, none⟩ := by unfold Addr.add; split <;> simp_all
  rw [e1] at hc
  exact hc
end Go.Proofs.Ytocbdehcjcggeaa
