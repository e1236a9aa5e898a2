/- counterfoilref07.Literal. Conditions: the numbers fit their kinds. -/
import Derived.Test.YthacdfdnbhfooaaDoorLit3
namespace Go.Proofs.YthacdfdnbhfooaaDoor
open Go.RowKit
set_option linter.unusedVariables false
/-- behind the check the value stands -/
theorem rlit_at {w w1 : World} {p q : Int} {s : ByteArray} (hb1 : Below (w.alloc (.cells #[.int .u8 p, .int .i64 q, .string s] 24)).heap.size (w.alloc (.cells #[.int .u8 p, .int .i64 q, .string s] 24)) w1) :
    Blk w1 w.heap.size 24 #[.int .u8 p, .int .i64 q, .string s] ∧ Below w.heap.size w w1 ∧ w.heap.size + 1 ≤ w1.heap.size :=
  ⟨blk_at hb1, bja _ (Below.refl _ _) hb1, by have := hb1.size; simpa using this⟩
theorem dqL_app (a b : List Nat) : dqL (a ++ b) = dqL a ++ dqL b := by
  induction a with
  | nil => rfl
  | cons c r ih => simp only [List.cons_append, dqL]; split <;> simp [ih]
theorem dq_take {s : ByteArray} {j : Nat} (h : j < s.size) : dqL ((bts s).take (j + 1)) = dqL ((bts s).take j) ++ dqL [(bts s).getD j 0] := by
  rw [List.take_succ_eq_append_getElem (by rw [bts_length]; exact h), List.getD_eq_getElem?_getD, List.getElem?_eq_getElem (by rw [bts_length]; exact h), dqL_app]; rfl
/-- a row of bytes that the call owns, with the value that stands -/
def Rl (w : World) (s : ByteArray) (k : Int) (A : Option Addr) (n c : Nat) (L : List Nat) (W : World) : Prop :=
  W.ownsRow (w.heap.size + 1) 5 1 (.slice A n c) n (vals8 L) ∧ Blk W w.heap.size 24 #[.int .u8 k, .int .i64 0, .string s] ∧ Below w.heap.size w W ∧ w.heap.size + 1 ≤ W.heap.size ∧ n = L.length
theorem rl_cell {w W : World} {s : ByteArray} {k : Int} {A : Option Addr} {n c : Nat} {L : List Nat} (h : Rl w s k A n c L W) : W.cell? ⟨w.heap.size, 2, none⟩ = some (.string s) := h.2.1.cell 2
theorem rl_alloc {w W : World} {s : ByteArray} {k : Int} {A : Option Addr} {n c : Nat} {L : List Nat} (h : Rl w s k A n c L W) (o : Obj) : Rl w s k A n c L (W.alloc o) :=
  ⟨own_below h.1 ((Below.refl W.heap.size W).alloc (Nat.le_refl _) o), h.2.1.alloc o, h.2.2.1.alloc h.2.2.1.size o, by have := h.2.2.2.1; simp; omega, h.2.2.2.2⟩
theorem rl_grown {w W W' : World} {s : ByteArray} {k : Int} {A : Option Addr} {n c : Nat} {L M : List Nat} {v : Value} {m : Nat} (h : Rl w s k A n c L W) (ho : W'.ownsRow (w.heap.size + 1) 5 1 v m (vals8 M)) (hm : m = M.length) (hg : W.grownBy W' (Value.slice A n c).ownBlock) :
    ∃ A' c', v = .slice A' m c' ∧ Rl w s k A' m c' M W' := by
  obtain ⟨A', c', rfl⟩ := own_form ho
  have hlt : ∀ z, (Value.slice A n c).ownBlock = some z → w.heap.size + 1 ≤ z ∧ z < W.heap.size := fun z hz => h.1.lt z hz
  refine ⟨A', c', rfl, ho, h.2.1.grown hg (fun e => by have := hlt _ e.symm; omega), h.2.2.1.grown hg (by have := h.2.2.2.1; omega) (fun z hz => by have := hlt z hz; omega), Nat.le_trans h.2.2.2.1 hg.size, hm⟩
theorem rl_conv {w W : World} {s : ByteArray} {k : Int} {A : Option Addr} {n c : Nat} {L : List Nat} (h : Rl w s k A n c L W) :
    (convert 43 9 (.slice A n c)).run Tryd.prog W = .ok (.string (bstr L)) W := by
  obtain ⟨h1, _, _, _, rfl⟩ := h
  exact conv_own h1
theorem vals8_snoc (L : List Nat) (b : Nat) : vals8 L ++ [Value.int .u8 (b : Int)] = vals8 (L ++ [b]) := by simp [vals8]
end Go.Proofs.YthacdfdnbhfooaaDoor
