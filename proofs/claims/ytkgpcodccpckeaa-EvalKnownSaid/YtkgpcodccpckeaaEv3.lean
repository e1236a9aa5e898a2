/- eval.together, eval.logic; what a value, a column comes to. Conditions: those of each lemma. -/
import Derived.Test.YtkgpcodccpckeaaEv2
import Derived.Deep.QuietTactic
import Derived.BigQuiet
import Derived.Deep.RegionWith
import Derived.Deep.RegionHeld3
namespace Go.Proofs.Ytkgpcodccpckeaa
open Go.RowKit
set_option linter.unusedVariables false
def togB (op : Int) (l : List Int) : Bool := if op = 5 then true else if op = 11 then onlyB 2 l else if comparesB op then onlyB (l.headD 0) l || l.headD 0 == 0 else onlyB 1 l
set_option maxRecDepth 100000 in
set_option maxHeartbeats 4000000 in
theorem together_any (op : Int) (b o n c : Nat) (x : Int) (l : List Int) (w : World) (h1 : 3 ≤ op) (h2 : op ≤ 19) (hV : U8s w w.heap.size (some ⟨b, o, none⟩) (x :: l)) (hn : n = (x :: l).length) (hm : n ≤ 100) :
    Calls Try.prog 42 #[.int .u8 op, .slice (some ⟨b, o, none⟩) n c] w fun e w' => e = .returned (.bool (togB op (x :: l))) ∧ w = w' := by
  have hnI : (0 : Int) < n := by rw [hn]; simp
  have hx : w.cell? ⟨b, o, none⟩ = some (.int .u8 x) := by
    obtain ⟨b', o', he, _, hc⟩ := u8s_get hV (by simp)
    simp only [Option.some.injEq, Addr.mk.injEq, and_true] at he
    obtain ⟨rfl, rfl⟩ := he
    exact hc 0 x rfl
  have HO := Lib.hid (fun k => only_any k (some ⟨b, o, none⟩) (x :: l) n c w hV hn hm)
  clear hV hn
  have e20 := beq_no (a := op) (b := 20) (by omega)
  have e22 := beq_no (a := op) (b := 22) (by omega)
  have e23 := beq_no (a := op) (b := 23) (by omega)
  by_cases h5 : op = 5
  · subst h5
    have HT := Lib.hid (show togB 5 (x :: l) = true from rfl)
    clear e20 e22 e23 h1 h2
    go_enter Try.func42, Try.ntmps42
    go_wp2
    go_ret
    exact ⟨rbool HT.out.symm, rfl⟩
  · have e5 := beq_no h5
    by_cases h11 : op = 11
    · subst h11
      have HT := Lib.hid (show togB 11 (x :: l) = onlyB 2 (x :: l) from rfl)
      clear e20 e22 e23 e5 h1 h2 h5
      go_enter Try.func42, Try.ntmps42
      go_wp2_with fail
      refine (HO.out 2).mono ?_
      rintro e w2 ⟨rfl, rfl⟩
      go_wp2
      go_ret
      exact ⟨rbool HT.out.symm, rfl⟩
    · have e11 := beq_no h11
      have HC := Lib.hid (fun W => compares_any op W)
      cases hc : comparesB op
      · have HT := Lib.hid (show togB op (x :: l) = onlyB 1 (x :: l) by unfold togB; rw [if_neg h5, if_neg h11, if_neg (by rw [hc]; simp)])
        rw [hc] at HC
        clear h1 h2 h5 h11 hc
        go_enter Try.func42, Try.ntmps42
        go_wp2_with fail
        refine (HC.out _).mono ?_
        rintro e w2 ⟨rfl, rfl⟩
        go_wp2_with fail
        refine (HO.out 1).mono ?_
        rintro e w2 ⟨rfl, rfl⟩
        go_wp2
        go_ret
        exact ⟨rbool HT.out.symm, rfl⟩
      · have hT : togB op (x :: l) = (onlyB x (x :: l) || x == 0) := by unfold togB; rw [if_neg h5, if_neg h11, if_pos hc]; rfl
        rw [hc] at HC
        have HOX := Lib.hid (HO.out x)
        generalize onlyB x (x :: l) = bx at *
        cases bx
        · have HT := Lib.hid hT
          clear h1 h2 h5 h11 hc hT HO
          go_enter Try.func42, Try.ntmps42
          go_wp2_with fail
          refine (HC.out _).mono ?_
          rintro e w2 ⟨rfl, rfl⟩
          go_wp2_with fail
          refine (HOX.out).mono ?_
          rintro e w2 ⟨rfl, rfl⟩
          go_wp2
          go_ret
          exact ⟨rbool HT.out.symm, rfl⟩
        · have HT := Lib.hid hT
          clear h1 h2 h5 h11 hc hT HO
          go_enter Try.func42, Try.ntmps42
          go_wp2_with fail
          refine (HC.out _).mono ?_
          rintro e w2 ⟨rfl, rfl⟩
          go_wp2_with fail
          refine (HOX.out).mono ?_
          rintro e w2 ⟨rfl, rfl⟩
          go_wp2
          go_ret
          exact ⟨rbool HT.out.symm, rfl⟩
theorem vals_of1 {W : World} {g : Nat} {t : TypeId} {x : Val} (h : Blk W g t (valC x)) : Vals W W.heap.size (some ⟨g, 0, none⟩) [x] := by
  refine .inr ⟨g, 0, rfl, h.lt, fun j y hy => ?_⟩
  match j, hy with
  | 0, hy => simp at hy; subst hy; exact ⟨h.cell 0, h.cell 1, h.cell 2⟩
  | j + 1, hy => simp at hy
theorem vals_of2 {W : World} {g : Nat} {t : TypeId} {x y : Val} (h : Blk W g t #[.int .u8 x.1, .int .i64 x.2.1, .string x.2.2, .int .u8 y.1, .int .i64 y.2.1, .string y.2.2]) : Vals W W.heap.size (some ⟨g, 0, none⟩) [x, y] := by
  refine .inr ⟨g, 0, rfl, h.lt, fun j z hz => ?_⟩
  match j, hz with
  | 0, hz => simp at hz; subst hz; exact ⟨h.cell 0, h.cell 1, h.cell 2⟩
  | 1, hz => simp at hz; subst hz; exact ⟨h.cell 3, h.cell 4, h.cell 5⟩
  | j + 2, hz => simp at hz
def logicZ (op : Int) (a b : Val) : Val :=
  if (!nullV a && trueB a == (op == 19)) || (!nullV b && trueB b == (op == 19)) then truthV (op == 19) else if nullV a || nullV b then (0, 0, ⟨#[]⟩) else truthV (!(op == 19))
/-- two boxed values and an answer -/
def Lg (w : World) (a b : Val) (W : World) : Prop := Blk W w.heap.size 23 (valC a) ∧ Blk W (w.heap.size + 1) 23 (valC b) ∧ Blk W (w.heap.size + 1 + 1) 23 #[.int .u8 0, .int .i64 0, .string ⟨#[]⟩] ∧ Below w.heap.size w W
theorem lg_below {w W W' : World} {a b : Val} (h : Lg w a b W) (hb : Below W.heap.size W W') : Lg w a b W' := ⟨blk_step h.1 hb, blk_step h.2.1 hb, blk_step h.2.2.1 hb, bj h.2.2.2 hb⟩
theorem lg_alloc {w W : World} {a b : Val} (h : Lg w a b W) (o : Obj) : Lg w a b (W.alloc o) := lg_below h one_alloc
theorem lg_new (w : World) (a b : Val) : Lg w a b (((w.alloc (.cells (valC a) 23)).alloc (.cells (valC b) 23)).alloc (.cells #[.int .u8 0, .int .i64 0, .string ⟨#[]⟩] 23)) :=
  ⟨((Blk.new _ _ _).alloc _).alloc _, (blk_new _ _ _ _ (by simp)).alloc _, blk_new _ _ _ _ (by simp), bj (bj one_alloc one_alloc) one_alloc⟩
theorem lg_cells {w W : World} {p q p' q' : Int} {s s' : ByteArray} (h : Lg w (p, q, s) (p', q', s') W) : W.cell? ⟨w.heap.size, 0, none⟩ = some (.int .u8 p) ∧ W.cell? ⟨w.heap.size, 1, none⟩ = some (.int .i64 q) ∧ W.cell? ⟨w.heap.size, 2, none⟩ = some (.string s) ∧ W.cell? ⟨w.heap.size + 1, 0, none⟩ = some (.int .u8 p') ∧ W.cell? ⟨w.heap.size + 1, 1, none⟩ = some (.int .i64 q') ∧ W.cell? ⟨w.heap.size + 1, 2, none⟩ = some (.string s') ∧ W.cell? ⟨w.heap.size + 1 + 1, 0, none⟩ = some (.int .u8 0) ∧ W.cell? ⟨w.heap.size + 1 + 1, 1, none⟩ = some (.int .i64 0) ∧ W.cell? ⟨w.heap.size + 1 + 1, 2, none⟩ = some (.string ⟨#[]⟩) ∧ W.frozen? ⟨w.heap.size + 1 + 1, 0, none⟩ = false ∧ W.frozen? ⟨w.heap.size + 1 + 1, 1, none⟩ = false ∧ W.frozen? ⟨w.heap.size + 1 + 1, 2, none⟩ = false :=
  ⟨h.1.cell 0, h.1.cell 1, h.1.cell 2, h.2.1.cell 0, h.2.1.cell 1, h.2.1.cell 2, h.2.2.1.cell 0, h.2.2.1.cell 1, h.2.2.1.cell 2, h.2.2.1.frozen 0, h.2.2.1.frozen 1, h.2.2.1.frozen 2⟩
theorem below3_at {w W : World} {g : Nat} (h : Below w.heap.size w W) (hg : w.heap.size ≤ g) (x y z : Value) : Below w.heap.size w (((W.setCell ⟨g, 0, none⟩ x).setCell ⟨g, 1, none⟩ y).setCell ⟨g, 2, none⟩ z) :=
  ((h.setCell hg _).setCell hg _).setCell hg _
set_option maxRecDepth 100000 in
set_option maxHeartbeats 8000000 in
theorem logic_any (op : Int) (a b : Val) (w : World) (hop : op = 18 ∨ op = 19) :
    Calls Try.prog 47 #[.int .u8 op, valV a, valV b] w fun e w' => e = .returned (valV (logicZ op a b)) ∧ Below w.heap.size w w' := by
  obtain ⟨p, q, s⟩ := a
  obtain ⟨p', q', s'⟩ := b
  have h1 : ∀ W g, W.heap.size = g → Lg w (p, q, s) (p', q', s') W → Calls Try.prog 46 #[.slice (some ⟨g, 0, none⟩) 1 1] (W.alloc (.cells #[.int .u8 p, .int .i64 q, .string s] 23)) fun e w' => e = .returned (.bool ([(p, q, s)].any nullV)) ∧ Lg w (p, q, s) (p', q', s') w' := fun W g hg h => by
    subst hg
    exact (null_any (some ⟨W.heap.size, 0, none⟩) [(p, q, s)] 1 1 (W.alloc (.cells (valC (p, q, s)) 23)) (vals_of1 (Blk.new _ _ _)) rfl (by omega)).mono fun e w' he => And.intro he.1 (lg_below (lg_alloc h _) he.2)
  have h2 : ∀ W g, W.heap.size = g → Lg w (p, q, s) (p', q', s') W → Calls Try.prog 46 #[.slice (some ⟨g, 0, none⟩) 1 1] (W.alloc (.cells #[.int .u8 p', .int .i64 q', .string s'] 23)) fun e w' => e = .returned (.bool ([(p', q', s')].any nullV)) ∧ Lg w (p, q, s) (p', q', s') w' := fun W g hg h => by
    subst hg
    exact (null_any (some ⟨W.heap.size, 0, none⟩) [(p', q', s')] 1 1 (W.alloc (.cells (valC (p', q', s')) 23)) (vals_of1 (Blk.new _ _ _)) rfl (by omega)).mono fun e w' he => And.intro he.1 (lg_below (lg_alloc h _) he.2)
  have h3 : ∀ W g, W.heap.size = g → Lg w (p, q, s) (p', q', s') W → Calls Try.prog 46 #[.slice (some ⟨g, 0, none⟩) 2 2] (W.alloc (.cells #[.int .u8 p, .int .i64 q, .string s, .int .u8 p', .int .i64 q', .string s'] 23)) fun e w' => e = .returned (.bool ([(p, q, s), (p', q', s')].any nullV)) ∧ Lg w (p, q, s) (p', q', s') w' := fun W g hg h => by
    subst hg
    exact (null_any (some ⟨W.heap.size, 0, none⟩) [(p, q, s), (p', q', s')] 2 2 (W.alloc (.cells #[.int .u8 p, .int .i64 q, .string s, .int .u8 p', .int .i64 q', .string s'] 23)) (vals_of2 (x := (p, q, s)) (y := (p', q', s')) (Blk.new _ _ _)) rfl (by omega)).mono fun e w' he => And.intro he.1 (lg_below (lg_alloc h _) he.2)
  have h4 := fun W (h : Lg w (p, q, s) (p', q', s') W) => (vtrue_any (p, q, s) W).mono fun e w' he => And.intro he.1 (lg_below h he.2)
  have h5 := fun W (h : Lg w (p, q, s) (p', q', s') W) => (vtrue_any (p', q', s') W).mono fun e w' he => And.intro he.1 (lg_below h he.2)
  have H6 := Lib.hid (fun W (h : Lg w (p, q, s) (p', q', s') W) => (truth_true W).mono fun e w' he => And.intro he.1 (lg_below h he.2))
  have H7 := Lib.hid (fun W (h : Lg w (p, q, s) (p', q', s') W) => (truth_false W).mono fun e w' he => And.intro he.1 (lg_below h he.2))
  have hs := lg_new w (p, q, s) (p', q', s')
  have e1 : [(p, q, s)].any nullV = nullV (p, q, s) := by simp
  have e2 : [(p', q', s')].any nullV = nullV (p', q', s') := by simp
  have e3 : [(p, q, s), (p', q', s')].any nullV = (nullV (p, q, s) || nullV (p', q', s')) := by simp
  have hZ : logicZ op (p, q, s) (p', q', s') = if (!nullV (p, q, s) && trueB (p, q, s) == (op == 19)) || (!nullV (p', q', s') && trueB (p', q', s') == (op == 19)) then truthV (op == 19) else if nullV (p, q, s) || nullV (p', q', s') then (0, 0, ⟨#[]⟩) else truthV (!(op == 19)) := rfl
  rw [e1] at h1
  rw [e2] at h2
  rw [e3] at h3
  clear e1 e2 e3
  generalize logicZ op (p, q, s) (p', q', s') = ZV at *
  generalize nullV (p, q, s) = na at *
  generalize nullV (p', q', s') = nb at *
  generalize trueB (p, q, s) = ta at *
  generalize trueB (p', q', s') = tb at *
  obtain ⟨a0, a1, a2, b0, b1, b2, z0, z1, z2, f0, f1, f2⟩ := lg_cells hs
  rcases hop with rfl | rfl
  all_goals cases na
  all_goals cases nb
  all_goals cases ta
  all_goals cases tb
  all_goals
    obtain rfl := hZ
    have H1 := Lib.hid h1
    have H2 := Lib.hid h2
    have H3 := Lib.hid h3
    have H4 := Lib.hid h4
    have H5 := Lib.hid h5
    have HS := Lib.hid hs
    clear h1 h2 h3 h4 h5 hs
    go_enter Try.func47, Try.ntmps47
    repeat (
      go_wp2_with fail
      first
        | (with_reducible refine (H1.out _ _ (by first | rfl | simp) HS.out).mono ?_)
        | (with_reducible refine (H2.out _ _ (by first | rfl | simp) HS.out).mono ?_)
        | (with_reducible refine (H3.out _ _ (by first | rfl | simp) HS.out).mono ?_)
        | (with_reducible refine (H4.out _ HS.out).mono ?_)
        | (with_reducible refine (H5.out _ HS.out).mono ?_)
        | (with_reducible refine (H6.out _ HS.out).mono ?_)
        | (with_reducible refine (H7.out _ HS.out).mono ?_)
      rintro e w9 ⟨rfl, hs⟩
      obtain ⟨a0, a1, a2, b0, b1, b2, z0, z1, z2, f0, f1, f2⟩ := lg_cells hs
      have HS := Lib.hid hs
      clear hs)
    go_wp2
    first
      | (obtain ⟨e0, e1, e2, _, _, _⟩ := cell3 (blk3_set HS.out.2.2.1 (.int .u8 1) (.int .i64 1) (.string ⟨#[]⟩))
         exact bodyPost_ret (v := .agg #[.int .u8 1, .int .i64 1, .string ⟨#[]⟩]) (by simp [results, Try.results47, go_sem, e0, e1, e2]) rfl ⟨rfl, below3_at HS.out.2.2.2 (by omega) _ _ _⟩)
      | (obtain ⟨e0, e1, e2, _, _, _⟩ := cell3 (blk3_set HS.out.2.2.1 (.int .u8 1) (.int .i64 0) (.string ⟨#[]⟩))
         exact bodyPost_ret (v := .agg #[.int .u8 1, .int .i64 0, .string ⟨#[]⟩]) (by simp [results, Try.results47, go_sem, e0, e1, e2]) rfl ⟨rfl, below3_at HS.out.2.2.2 (by omega) _ _ _⟩)
      | (obtain ⟨e0, e1, e2, _, _, _⟩ := cell3 (blk3_set HS.out.2.2.1 (.int .u8 0) (.int .i64 0) (.string ⟨#[]⟩))
         exact bodyPost_ret (v := .agg #[.int .u8 0, .int .i64 0, .string ⟨#[]⟩]) (by simp [results, Try.results47, go_sem, e0, e1, e2]) rfl ⟨rfl, below3_at HS.out.2.2.2 (by omega) _ _ _⟩)
end Go.Proofs.Ytkgpcodccpckeaa
