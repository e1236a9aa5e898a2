/- Lists of blocks that stand whole: B those of the start, L those made since; what a call, an alloc, a draw leaves of them. Conditions: those of each lemma. -/
import Derived.Test.YticpenbebokjdaaDoorBase
namespace Go.Proofs.YticpenbebokjdaaDoor
open Go.RowKit
set_option linter.unusedVariables false
set_option linter.unusedSimpArgs false
abbrev BL := List (Nat × TypeId × Array Value)
def Bs (w : World) (B L : BL) (W : World) : Prop := (∀ x ∈ B, Blk W x.1 x.2.1 x.2.2) ∧ (∀ x ∈ L, Blk W x.1 x.2.1 x.2.2) ∧ Below w.heap.size w W
theorem bs_below {w W W' : World} {B L : BL} (h : Bs w B L W) (hb : Below W.heap.size W W') : Bs w B L W' := ⟨fun x hx => blk_step (h.1 x hx) hb, fun x hx => blk_step (h.2.1 x hx) hb, bj h.2.2 hb⟩
theorem bs_drew {w W : World} {B L : BL} (h : Bs w B L W) : Bs w B L W.drew := ⟨fun x hx => (h.1 x hx).drew, fun x hx => (h.2.1 x hx).drew, h.2.2.drew⟩
theorem bs_one {w : World} {o : Obj} : Below w.heap.size w (w.alloc o) := (Below.refl _ _).alloc (Nat.le_refl _) _
theorem bs_more {w W : World} {B L : BL} {g : Nat} {t : TypeId} {cs : Array Value} (h : Bs w B L W) (hb : Blk W g t cs) : Bs w B ((g, t, cs) :: L) W :=
  ⟨h.1, fun x hx => by
    rcases List.mem_cons.1 hx with rfl | hx
    · exact hb
    · exact h.2.1 x hx, h.2.2⟩
theorem bs_alloc {w W : World} {B L : BL} (h : Bs w B L W) (cs : Array Value) (t : TypeId) : Bs w B ((W.heap.size, t, cs) :: L) (W.alloc (.cells cs t)) := bs_more (bs_below h bs_one) (Blk.new _ _ _)
theorem bs_get {w W : World} {B L : BL} {g : Nat} {t : TypeId} {cs : Array Value} (h : Bs w B L W) (hm : (g, t, cs) ∈ L) : Blk W g t cs := h.2.1 _ hm
theorem bs_base {w W : World} {B L : BL} {g : Nat} {t : TypeId} {cs : Array Value} (h : Bs w B L W) (hm : (g, t, cs) ∈ B) : Blk W g t cs := h.1 _ hm
theorem bs_call {w W : World} {B L : BL} {P : Program} {f : FuncId} {args : Array Value} {v : Value} (h : Bs w B L W) (hc : Calls P f args W fun e w' => e = .returned v ∧ Below W.heap.size W w') : Calls P f args W fun e w' => e = .returned v ∧ Bs w B L w' :=
  hc.mono fun e w' he => ⟨he.1, bs_below h he.2⟩
theorem bs_start {w : World} : Bs w [] [] w := ⟨(fun x hx => by cases hx), (fun x hx => by cases hx), Below.refl _ _⟩
theorem bs_two {w W : World} {g g' : Nat} {t t' : TypeId} {cs cs' : Array Value} (h1 : Blk W g t cs) (h2 : Blk W g' t' cs') (hb : Below w.heap.size w W) : Bs w [(g, t, cs), (g', t', cs')] [] W := by
  refine ⟨fun x hx => ?_, fun x hx => ?_, hb⟩
  · rcases List.mem_cons.1 hx with rfl | hx
    · exact h1
    · rcases List.mem_cons.1 hx with rfl | hx
      · exact h2
      · cases hx
  · cases hx
/-- all made so far stand from here on as those of the start -/
theorem bs_rebase {w W : World} {B L B' : BL} (h : Bs w B L W) (hB : ∀ x ∈ B', x ∈ B ∨ x ∈ L) : Bs w B' [] W :=
  ⟨fun x hx => (hB x hx).elim (h.1 x) (h.2.1 x), (fun x hx => by cases hx), h.2.2⟩
end Go.Proofs.YticpenbebokjdaaDoor
