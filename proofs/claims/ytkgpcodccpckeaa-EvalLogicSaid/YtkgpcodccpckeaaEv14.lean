/- Expressions of integers and null under AND, OR, NOT: that they may be, and what they come to, in any world behind; the turning about. Conditions: those of each lemma. -/
import Derived.Test.YtkgpcodccpckeaaEv12
namespace Go.Proofs.Ytkgpcodccpckeaa
open Go.RowKit
set_option linter.unusedVariables false
set_option linter.unusedSimpArgs false
/-- null, or an integer -/
def Bz (v : Val) : Prop := v = (0, 0, ⟨#[]⟩) ∨ ∃ q, v = (1, q, ⟨#[]⟩)
def notZ (a : Val) : Val := if nullV a then (0, 0, ⟨#[]⟩) else truthV (!trueB a)
theorem null_truth (b : Bool) : nullV (truthV b) = false := rfl
theorem true_truth (b : Bool) : trueB (truthV b) = b := by cases b <;> rfl
theorem null_null : nullV (0, 0, ⟨#[]⟩) = true := rfl
theorem true_null : trueB (0, 0, ⟨#[]⟩) = false := rfl
theorem null_int (q : Int) : nullV (1, q, ⟨#[]⟩) = false := rfl
theorem bz_truth (b : Bool) : Bz (truthV b) := .inr ⟨_, rfl⟩
theorem bz_logic (op : Int) (a b : Val) : Bz (logicZ op a b) := by
  unfold logicZ
  split
  · exact bz_truth _
  · split
    · exact .inl rfl
    · exact bz_truth _
theorem bz_not (a : Val) : Bz (notZ a) := by
  unfold notZ
  split
  · exact .inl rfl
  · exact bz_truth _
theorem bz_only {a b : Val} (ha : Bz a) (hb : Bz b) : onlyB 1 [a.1, b.1] = true := by
  rcases ha with rfl | ⟨q, rfl⟩ <;> rcases hb with rfl | ⟨q', rfl⟩ <;> rfl
theorem logic_turn (op : Int) (a b : Val) (ho : op = 18 ∨ op = 19) (ha : Bz a) (hb : Bz b) : notZ (logicZ op a b) = logicZ (37 - op) (notZ a) (notZ b) := by
  have h18 : ((18 : Int) == 19) = false := rfl
  have h19 : ((19 : Int) == 19) = true := rfl
  have g18 : ((37 : Int) - 18 == 19) = true := rfl
  have g19 : ((37 : Int) - 19 == 19) = false := rfl
  rcases ho with rfl | rfl <;> rcases ha with rfl | ⟨q, rfl⟩ <;> rcases hb with rfl | ⟨q', rfl⟩
  · simp [logicZ, notZ, null_null, true_null, h18, g18]
  · cases h : trueB (1, q', ⟨#[]⟩) <;> simp [logicZ, notZ, null_null, true_null, null_int, null_truth, true_truth, h, h18, g18]
  · cases h : trueB (1, q, ⟨#[]⟩) <;> simp [logicZ, notZ, null_null, true_null, null_int, null_truth, true_truth, h, h18, g18]
  · cases h : trueB (1, q, ⟨#[]⟩) <;> cases h' : trueB (1, q', ⟨#[]⟩) <;> simp [logicZ, notZ, null_int, null_truth, true_truth, h, h', h18, g18]
  · simp [logicZ, notZ, null_null, true_null, h19, g19]
  · cases h : trueB (1, q', ⟨#[]⟩) <;> simp [logicZ, notZ, null_null, true_null, null_int, null_truth, true_truth, h, h19, g19]
  · cases h : trueB (1, q, ⟨#[]⟩) <;> simp [logicZ, notZ, null_null, true_null, null_int, null_truth, true_truth, h, h19, g19]
  · cases h : trueB (1, q, ⟨#[]⟩) <;> cases h' : trueB (1, q', ⟨#[]⟩) <;> simp [logicZ, notZ, null_int, null_truth, true_truth, h, h', h19, g19]
theorem logic_comm (op : Int) (a b : Val) : logicZ op a b = logicZ op b a := by
  unfold logicZ
  rw [Bool.or_comm (!nullV a && _), Bool.or_comm (nullV a)]
/-- x may be, and comes to v, in each world behind w -/
def OkX (w : World) (x : Ex) (v : Val) : Prop :=
  (∀ W, Below w.heap.size w W → Calls Try.prog 30 #[exV x, .int .i64 0, .int .i64 0] W fun e w' => e = .returned (.bool true) ∧ Below W.heap.size W w') ∧
  (∀ p W, Below w.heap.size w W → Calls Try.prog 34 #[scV 43 ⟨p, 0, none⟩ none 0 0, exV x] W fun e w' => e = .returned (.tuple #[valV v, .int .i64 0]) ∧ Below W.heap.size W w')
theorem okx_step {w w' : World} {x : Ex} {v : Val} (h : OkX w x v) (hb : Below w.heap.size w w') : OkX w' x v :=
  ⟨fun W h2 => h.1 W (bj hb h2), fun p W h2 => h.2 p W (bj hb h2)⟩
theorem okx_leaf (v : Val) (w : World) (hf : Fits v) (hc : chk v = 0) : OkX w (leafX v) v :=
  ⟨fun W _ => may_leaf v ⟨#[]⟩ ⟨#[]⟩ 0 none 0 0 0 W hf (by omega) hc, fun p W _ => come_leaf 43 ⟨p, 0, none⟩ none 0 0 v ⟨#[]⟩ ⟨#[]⟩ 0 none 0 0 W⟩
theorem doZ_logic (op : Int) (a b : Val) (rz : Val × Int) (ho : op = 18 ∨ op = 19) (ha : Bz a) (hb : Bz b) : doZ op 2 a b rz = (logicZ op a b, 0) := by
  have ht : togB op [a.1, b.1] = true := by
    have h := bz_only ha hb
    rcases ho with rfl | rfl
    · exact h
    · exact h
  unfold doZ
  rw [if_neg (by rw [ht]; simp), if_neg (by omega), if_pos ho]
theorem doZ_not (a : Val) (rz : Val × Int) (ha : Bz a) : doZ 4 1 a (0, 0, ⟨#[]⟩) rz = (notZ a, 0) := by
  have ht : togB 4 [a.1, (0 : Int)] = true := bz_only ha (.inl rfl)
  have hn : ([a, (0, 0, ⟨#[]⟩)].take 1).any nullV = nullV a := by simp
  unfold doZ notZ
  rw [if_neg (by rw [ht]; simp), if_neg (by omega), if_neg (by omega), hn]
  cases nullV a
  · rfl
  · rfl
theorem okx_two (op : Int) (a b : Val) (x y : Ex) (g : Nat) (w : World) (ho : op = 18 ∨ op = 19) (hk : Kids w w.heap.size (some ⟨g, 0, none⟩) [x, y]) (hx : OkX w x a) (hy : OkX w y b) (ha : Bz a) (hb : Bz b) :
    OkX w (nodeX op (some ⟨g, 0, none⟩) 2 2) (logicZ op a b) := by
  refine ⟨fun W hW => ?_, fun p W hW => ?_⟩
  · exact may_node op (0, 0, ⟨#[]⟩) ⟨#[]⟩ ⟨#[]⟩ 0 (some ⟨g, 0, none⟩) 2 2 [x, y] [true, true] 0 0 0 W false (by unfold groupedB; rw [decide_eq_false (by omega)]; rfl) rfl (by omega) (by omega) (by omega) (by omega) rfl rfl (by omega) (by omega) (kids_step hk hW) (Lib.hid fun W => fits_two op (by omega) (by omega) W)
      (two_kids (P := fun _ x b => ∀ W', Below W.heap.size W W' → Calls Try.prog 30 #[exV x, .int .i64 0, .int .i64 0] W' fun e w' => e = .returned (.bool b) ∧ Below W'.heap.size W' w') (fun W' h => hx.1 W' (bj hW h)) (fun W' h => hy.1 W' (bj hW h)))
  · have h := come_node 43 ⟨p, 0, none⟩ none 0 0 op (0, 0, ⟨#[]⟩) ⟨#[]⟩ ⟨#[]⟩ 0 (some ⟨g, 0, none⟩) 2 2 [x, y] a b ((0, 0, ⟨#[]⟩), 0) W (by omega) (by omega) (by omega) rfl (.inr rfl) (kids_step hk hW)
      (fun z hz W' h' => by simp at hz; subst hz; exact hx.2 p W' (bj hW h'))
      (fun z hz W' h' => by simp at hz; subst hz; exact hy.2 p W' (bj hW h'))
      (fun hc => by omega)
    rw [doZ_logic op a b _ ho ha hb] at h
    exact h
theorem okx_not (a : Val) (x : Ex) (g : Nat) (w : World) (hk : Kids w w.heap.size (some ⟨g, 0, none⟩) [x]) (hx : OkX w x a) (ha : Bz a) :
    OkX w (nodeX 4 (some ⟨g, 0, none⟩) 1 1) (notZ a) := by
  refine ⟨fun W hW => ?_, fun p W hW => ?_⟩
  · exact may_node 4 (0, 0, ⟨#[]⟩) ⟨#[]⟩ ⟨#[]⟩ 0 (some ⟨g, 0, none⟩) 1 1 [x] [true] 0 0 0 W false rfl rfl (by omega) (by omega) (by omega) (by omega) rfl rfl (by omega) (by omega) (kids_step hk hW) (Lib.hid fun W => fits_4 W)
      (fun j z b hz hb W' h => by
        match j, hz, hb with
        | 0, hz, hb => simp at hz hb; subst hz hb; exact hx.1 W' (bj hW h)
        | j + 1, hz, hb => simp at hz)
  · have h := come_node 43 ⟨p, 0, none⟩ none 0 0 4 (0, 0, ⟨#[]⟩) ⟨#[]⟩ ⟨#[]⟩ 0 (some ⟨g, 0, none⟩) 1 1 [x] a (0, 0, ⟨#[]⟩) ((0, 0, ⟨#[]⟩), 0) W (by omega) (by omega) (by omega) rfl (.inl ⟨rfl, rfl⟩) (kids_step hk hW)
      (fun z hz W' h' => by simp at hz; subst hz; exact hx.2 p W' (bj hW h'))
      (fun z hz W' h' => by simp at hz)
      (fun hc => by omega)
    rw [doZ_not a _ ha] at h
    exact h
theorem okx_eval (op : Int) (A : Option Addr) (m c : Nat) (v : Val) (w : World) (h : OkX w (nodeX op A m c) v) :
    Calls Try.prog 15 #[exV (nodeX op A m c), .slice none 0 0] w fun e w' => e = .returned (.tuple #[valV v, .int .i64 0]) ∧ Below w.heap.size w w' :=
  eval_ok op 0 0 0 ⟨#[]⟩ ⟨#[]⟩ ⟨#[]⟩ A m c v.1 v.2.1 0 v.2.2 w (fun W hb => h.1 W hb) (fun p W hb => h.2 p W hb)
end Go.Proofs.Ytkgpcodccpckeaa
