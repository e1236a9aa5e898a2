/- What counterfoillaw01.is answers, and what its answer answers. No condition. -/
import Derived.Test.YtgpghghoagocjaaProg
import Derived.Test.YtgpghghoagocjaaNumFix
namespace Go.Proofs.Ytgpghghoagocjaa
open Go.RowKit
/-- three cells that hold these -/
structure Holds3 (w : World) (n k e : Int) (a b c : Nat) : Prop where
  c1 : w.cell? ⟨a, 0, none⟩ = some (.int .u64 n)
  c2 : w.cell? ⟨b, 0, none⟩ = some (.int .i64 k)
  c3 : w.cell? ⟨c, 0, none⟩ = some (.int .i64 e)
  l1 : a < w.heap.size
  l2 : b < w.heap.size
  l3 : c < w.heap.size
theorem Holds3.below {w w' : World} {n k e : Int} {a b c : Nat} (h : Holds3 w n k e a b c) (hb : Below w.heap.size w w') : Holds3 w' n k e a b c :=
  ⟨(hb.cell (p := ⟨a, 0, none⟩) h.l1).trans h.c1, (hb.cell (p := ⟨b, 0, none⟩) h.l2).trans h.c2, (hb.cell (p := ⟨c, 0, none⟩) h.l3).trans h.c3, Nat.lt_of_lt_of_le h.l1 hb.size, Nat.lt_of_lt_of_le h.l2 hb.size, Nat.lt_of_lt_of_le h.l3 hb.size⟩
theorem Holds3.drew {w : World} {n k e : Int} {a b c : Nat} (h : Holds3 w n k e a b c) : Holds3 w.drew n k e a b c := ⟨h.c1, h.c2, h.c3, h.l1, h.l2, h.l3⟩
def isFn (a b c : Nat) : Value := .func (.func 28) #[] #[.pointer (some ⟨a, 0, none⟩), .pointer (some ⟨b, 0, none⟩), .pointer (some ⟨c, 0, none⟩)]
set_option maxRecDepth 100000 in
theorem is_any (n k e : Int) (w : World) :
    Calls Try.prog 14 #[.int .u64 n, .int .i64 k, .int .i64 e] w fun r w' => ∃ a b c, r = .returned (.func (.func 28) #[] #[.pointer (some ⟨a, 0, none⟩), .pointer (some ⟨b, 0, none⟩), .pointer (some ⟨c, 0, none⟩)]) ∧ Holds3 w' n k e a b c ∧ Below w.heap.size w w' := by
  go_enter Try.func14, Try.ntmps14
  go_wp2
  go_ret
  refine ⟨w.heap.size, w.heap.size + 1, w.heap.size + 1 + 1, rfl, ?_, ?_⟩
  · constructor
    · simp [go_sem]
    · simp [go_sem]
    · simp [go_sem]
    · simp; omega
    · simp
    · simp
  · exact (((Below.refl _ _).alloc (Nat.le_refl _) _).alloc (by simp) _).alloc (by simp; omega) _
set_option maxRecDepth 100000 in
theorem isf_yes (n k e : Int) (a b c : Nat) (w : World) (h : Holds3 w n k e a b c) :
    Calls Try.prog 28 #[.int .u64 n, .int .i64 k, .int .i64 e, .pointer (some ⟨a, 0, none⟩), .pointer (some ⟨b, 0, none⟩), .pointer (some ⟨c, 0, none⟩)] w fun r w' => r = .returned (.bool true) ∧ w = w' := by
  obtain ⟨h1, h2, h3, _, _, _⟩ := h
  go_enter Try.func28, Try.ntmps28
  go_wp2
  go_ret
  exact ⟨rfl, rfl⟩
end Go.Proofs.Ytgpghghoagocjaa
