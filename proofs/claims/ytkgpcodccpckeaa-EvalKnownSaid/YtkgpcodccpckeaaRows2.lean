/- Rows of values that a call owns. Conditions: those of each lemma. -/
import Derived.Test.YtkgpcodccpckeaaProg
import Derived.Test.YtkgpcodccpckeaaVal
namespace Go.Proofs.Ytkgpcodccpckeaa
open Go.RowKit
set_option linter.unusedVariables false
def valCs (l : List Val) : List Value := l.flatMap fun x => [.int .u8 x.1, .int .i64 x.2.1, .string x.2.2]
theorem valCs_snoc (l : List Val) (x : Val) : valCs (l ++ [x]) = valCs l ++ [.int .u8 x.1, .int .i64 x.2.1, .string x.2.2] := by simp [valCs]
theorem valCs_at (l : List Val) (j : Nat) (x : Val) (h : l[j]? = some x) : (valCs l)[j * 3]? = some (.int .u8 x.1) ∧ (valCs l)[j * 3 + 1]? = some (.int .i64 x.2.1) ∧ (valCs l)[j * 3 + 2]? = some (.string x.2.2) := by
  induction l generalizing j with
  | nil => simp at h
  | cons y l ih =>
    cases j with
    | zero =>
      simp at h
      subst h
      simp [valCs]
    | succ j =>
      simp at h
      obtain ⟨h1, h2, h3⟩ := ih j h
      have e : valCs (y :: l) = .int .u8 y.1 :: .int .i64 y.2.1 :: .string y.2.2 :: valCs l := by simp [valCs]
      rw [e, show (j + 1) * 3 = j * 3 + 1 + 1 + 1 from by omega, show j * 3 + 1 + 1 + 1 + 1 = (j * 3 + 1) + 1 + 1 + 1 from rfl, show j * 3 + 1 + 1 + 1 + 2 = (j * 3 + 2) + 1 + 1 + 1 from rfl]
      simp only [List.getElem?_cons_succ]
      exact ⟨h1, h2, h3⟩
theorem own_below {W W' : World} {base : Nat} {e : TypeId} {size n : Nat} {v : Value} {xs : List Value} (h : W.ownsRow base e size v n xs) (hb : Below W.heap.size W W') : W'.ownsRow base e size v n xs := by
  obtain ⟨hl, h | ⟨g, cap, cur, hv, hbg, hg, hr⟩⟩ := h
  · exact ⟨hl, .inl h⟩
  · exact ⟨hl, .inr ⟨g, cap, cur, hv, hbg, blk_step (t := e) (cs := cur) hg hb, hr⟩⟩
theorem own_form {W : World} {base : Nat} {e : TypeId} {size n : Nat} {v : Value} {xs : List Value} (h : W.ownsRow base e size v n xs) : ∃ A c, v = .slice A n c := by
  rcases h.2 with ⟨h, h0⟩ | ⟨g, cap, cur, hv, _⟩
  · exact ⟨none, 0, by rw [h, h0]⟩
  · exact ⟨_, _, hv⟩
theorem own_cap {W : World} {base : Nat} {e : TypeId} {size n c : Nat} {A : Option Addr} {xs : List Value} (h : W.ownsRow base e size (.slice A n c) n xs) : n ≤ c := by
  rcases h.2 with ⟨h, h0⟩ | ⟨g, cap, cur, hv, _, _, hr, _⟩
  · omega
  · injection hv with _ _ hc
    omega
theorem vals_of_own {W : World} {base : Nat} {e : TypeId} {A : Option Addr} {n c : Nat} {l : List Val} (h : W.ownsRow base e 3 (.slice A n c) n (valCs l)) (hl : l.length = n) : Vals W W.heap.size A l := by
  by_cases h0 : n = 0
  · exact .inl (List.eq_nil_of_length_eq_zero (by omega))
  · obtain ⟨g, cap, hv, hb, hlt⟩ := h.form (by omega)
    injection hv with hA hn hc
    subst hA
    refine .inr ⟨g, 0, rfl, hlt, fun j x hx => ?_⟩
    obtain ⟨h1, h2, h3⟩ := valCs_at l j x hx
    have c1 := h.cells (g := g) rfl _ _ h1
    have c2 := h.cells (g := g) rfl _ _ h2
    have c3 := h.cells (g := g) rfl _ _ h3
    have ea : ∀ i, (⟨g, 0, none⟩ : Addr).add i = ⟨g, 0 + i, none⟩ := fun i => by unfold Addr.add; split <;> simp_all
    rw [ea] at c1 c2 c3
    exact ⟨c1, by rw [Nat.add_assoc]; exact c2, by rw [Nat.add_assoc]; exact c3⟩
theorem reads3 (W : World) (x : Val) (t : TypeId) : Reads (W.alloc (.cells (valC x) t)) (W.heap.size + 1) 3 (some ⟨W.heap.size, 0, none⟩) 1 [.int .u8 x.1, .int .i64 x.2.1, .string x.2.2] := by
  refine ⟨rfl, fun _ => ⟨_, rfl, by simp, fun j v hj => ?_⟩⟩
  have hb := Blk.new W t (valC x)
  match j, hj with
  | 0, hj => simp at hj; subst hj; exact hb.cell 0
  | 1, hj => simp at hj; subst hj; simp [Addr.add]
  | 2, hj => simp at hj; subst hj; simp [Addr.add]
theorem reads3g (W : World) (g : Nat) (x : Val) (t : TypeId) (hg : W.heap.size = g) : Reads (W.alloc (.cells (valC x) t)) (g + 1) 3 (some ⟨g, 0, none⟩) 1 [.int .u8 x.1, .int .i64 x.2.1, .string x.2.2] := by subst hg; exact reads3 W x t
end Go.Proofs.Ytkgpcodccpckeaa
