/- counterfoilref09.Take: what lies in memory. Conditions: those of each lemma. -/
import Derived.Test.YtocbdehcjcggeaaProg
import Derived.Test.YtocbdehcjcggeaaRecT2
import Derived.Test.YtocbdehcjcggeaaRefTake
namespace Go.Proofs.Ytocbdehcjcggeaa
open Go.RowKit
set_option linter.unusedVariables false
def tagV (ts : List Nat) : List Value := ts.map fun x : Nat => Value.int .u64 (x : Int)
def valCs (l : List Val) : List Value := l.flatMap fun x => [.int .u8 x.1, .int .i64 x.2.1, .string x.2.2]
theorem valCs_snoc (l : List Val) (x : Val) : valCs (l ++ [x]) = valCs l ++ [.int .u8 x.1, .int .i64 x.2.1, .string x.2.2] := by simp [valCs]
theorem tagV_snoc (l : List Nat) (x : Nat) : tagV (l ++ [x]) = tagV l ++ [.int .u64 (x : Int)] := by simp [tagV]
theorem valCs_at (l : List Val) (j : Nat) (x : Val) (h : l[j]? = some x) : (valCs l)[j * 3]? = some (.int .u8 x.1) ∧ (valCs l)[j * 3 + 1]? = some (.int .i64 x.2.1) ∧ (valCs l)[j * 3 + 2]? = some (.string x.2.2) := by
  induction l generalizing j with
  | nil => simp at h
  | cons y l ih =>
    cases j with
    | zero =>
      simp at h
      subst h
      simp [valCs]
    | succ j =>
      simp at h
      obtain ⟨h1, h2, h3⟩ := ih j h
      have e : valCs (y :: l) = .int .u8 y.1 :: .int .i64 y.2.1 :: .string y.2.2 :: valCs l := by simp [valCs]
      rw [e, show (j + 1) * 3 = j * 3 + 1 + 1 + 1 from by omega, show j * 3 + 1 + 1 + 1 + 1 = (j * 3 + 1) + 1 + 1 + 1 from rfl, show j * 3 + 1 + 1 + 1 + 2 = (j * 3 + 2) + 1 + 1 + 1 from rfl]
      simp only [List.getElem?_cons_succ]
      exact ⟨h1, h2, h3⟩
theorem own_below {W W' : World} {base : Nat} {e : TypeId} {size n : Nat} {v : Value} {xs : List Value} (h : W.ownsRow base e size v n xs) (hb : Below W.heap.size W W') : W'.ownsRow base e size v n xs := by
  obtain ⟨hl, h | ⟨g, cap, cur, hv, hbg, hg, hr⟩⟩ := h
  · exact ⟨hl, .inl h⟩
  · exact ⟨hl, .inr ⟨g, cap, cur, hv, hbg, blk_step (t := e) (cs := cur) hg hb, hr⟩⟩
theorem own_form {W : World} {base : Nat} {e : TypeId} {size n : Nat} {v : Value} {xs : List Value} (h : W.ownsRow base e size v n xs) : ∃ A c, v = .slice A n c := by
  rcases h.2 with ⟨h, h0⟩ | ⟨g, cap, cur, hv, _⟩
  · exact ⟨none, 0, by rw [h, h0]⟩
  · exact ⟨_, _, hv⟩
theorem own_other {W W' : World} {base base' : Nat} {e e' : TypeId} {size n size' n' : Nat} {v v' : Value} {xs xs' : List Value} (h : W.ownsRow base e size v n xs) (h' : W.ownsRow base' e' size' v' n' xs') (hne : e ≠ e') (hg : W.grownBy W' v'.ownBlock) : W'.ownsRow base e size v n xs := by
  refine h.kept hg ?_
  rcases h.2 with ⟨hv, _⟩ | ⟨g, cap, cur, hv, _, hgb, _⟩
  · exact .inl (by rw [hv]; rfl)
  · refine .inr fun e1 => ?_
    rcases h'.2 with ⟨hv', _⟩ | ⟨g', cap', cur', hv', _, hgb', _⟩
    · rw [hv, hv'] at e1; cases e1
    · rw [hv, hv'] at e1
      simp only [Value.ownBlock, Option.some.injEq] at e1
      subst e1
      rw [hgb] at hgb'
      simp only [Option.some.injEq, Obj.cells.injEq] at hgb'
      exact hne hgb'.2.1
theorem vals_of_own {W : World} {base : Nat} {e : TypeId} {A : Option Addr} {n c : Nat} {l : List Val} (h : W.ownsRow base e 3 (.slice A n c) n (valCs l)) (hl : l.length = n) : Vals W W.heap.size A l := by
  by_cases h0 : n = 0
  · exact .inl (List.eq_nil_of_length_eq_zero (by omega))
  · obtain ⟨g, cap, hv, hb, hlt⟩ := h.form (by omega)
    injection hv with hA hn hc
    subst hA
    refine .inr ⟨g, 0, rfl, hlt, fun j x hx => ?_⟩
    obtain ⟨h1, h2, h3⟩ := valCs_at l j x hx
    have c1 := h.cells (g := g) rfl _ _ h1
    have c2 := h.cells (g := g) rfl _ _ h2
    have c3 := h.cells (g := g) rfl _ _ h3
    have ea : ∀ i, (⟨g, 0, none⟩ : Addr).add i = ⟨g, 0 + i, none⟩ := fun i => by unfold Addr.add; split <;> simp_all
    rw [ea] at c1 c2 c3
    exact ⟨c1, by rw [Nat.add_assoc]; exact c2, by rw [Nat.add_assoc]; exact c3⟩
def R1 (w : World) (acc : List Nat) (vt : Value) (W : World) : Prop := W.ownsRow w.heap.size 53 1 vt acc.length (tagV acc) ∧ Below w.heap.size w W
def R2 (w : World) (ts : List Nat) (vt : Value) (l : List Val) (v : Value) (W : World) : Prop := R1 w ts vt W ∧ W.ownsRow w.heap.size 56 3 v l.length (valCs l)
theorem r1_step {w W W' : World} {acc : List Nat} {vt : Value} (h : R1 w acc vt W) (hb : Below W.heap.size W W') : R1 w acc vt W' := ⟨own_below h.1 hb, bj h.2 hb⟩
theorem r2_step {w W W' : World} {ts : List Nat} {vt v : Value} {l : List Val} (h : R2 w ts vt l v W) (hb : Below W.heap.size W W') : R2 w ts vt l v W' := ⟨r1_step h.1 hb, own_below h.2 hb⟩
theorem r1_start (w : World) : R1 w [] (.slice none 0 0) w := ⟨World.ownsRow_nil _ _ _ _, Below.refl _ _⟩
theorem r2_start {w W : World} {ts : List Nat} {vt : Value} (h : R1 w ts vt W) : R2 w ts vt [] (.slice none 0 0) W := ⟨h, World.ownsRow_nil _ _ _ _⟩
theorem r1_app {w Wa w' : World} {acc : List Nat} {vt v' : Value} {n : Nat} (h : R1 w acc vt Wa) (ho : w'.ownsRow w.heap.size 53 1 v' (acc.length + 1) (tagV acc ++ [.int .u64 (n : Int)])) (hg : Wa.grownBy w' vt.ownBlock) : R1 w (acc ++ [n]) v' w' :=
  ⟨by rw [tagV_snoc, List.length_append]; exact ho, h.2.grown hg h.2.size (fun k hk => (h.1.lt k hk).1)⟩
theorem r2_app {w Wa w' : World} {ts : List Nat} {vt v v' : Value} {l : List Val} {x : Val} (h : R2 w ts vt l v Wa) (ho : w'.ownsRow w.heap.size 56 3 v' (l.length + 1) (valCs l ++ [.int .u8 x.1, .int .i64 x.2.1, .string x.2.2])) (hg : Wa.grownBy w' v.ownBlock) : R2 w ts vt (l ++ [x]) v' w' :=
  ⟨⟨own_other h.1.1 h.2 (by decide) hg, h.1.2.grown hg h.1.2.size (fun k hk => (h.2.lt k hk).1)⟩, by rw [valCs_snoc, List.length_append]; exact ho⟩
theorem reads1 (W : World) (u : Value) (t : TypeId) : Reads (W.alloc (.cells #[u] t)) (W.heap.size + 1) 1 (some ⟨W.heap.size, 0, none⟩) 1 [u] := by
  refine ⟨rfl, fun _ => ⟨_, rfl, by simp, fun j v hj => ?_⟩⟩
  match j, hj with
  | 0, hj => simp at hj; subst hj; simp [Addr.add]
theorem reads3 (W : World) (x : Val) (t : TypeId) : Reads (W.alloc (.cells (valC x) t)) (W.heap.size + 1) 3 (some ⟨W.heap.size, 0, none⟩) 1 [.int .u8 x.1, .int .i64 x.2.1, .string x.2.2] := by
  refine ⟨rfl, fun _ => ⟨_, rfl, by simp, fun j v hj => ?_⟩⟩
  have hb := Blk.new W t (valC x)
  match j, hj with
  | 0, hj => simp at hj; subst hj; exact hb.cell 0
  | 1, hj => simp at hj; subst hj; simp [Addr.add]
  | 2, hj => simp at hj; subst hj; simp [Addr.add]
theorem reads3g (W : World) (g : Nat) (x : Val) (t : TypeId) (hg : W.heap.size = g) : Reads (W.alloc (.cells (valC x) t)) (g + 1) 3 (some ⟨g, 0, none⟩) 1 [.int .u8 x.1, .int .i64 x.2.1, .string x.2.2] := by subst hg; exact reads3 W x t
theorem cell3 {W : World} {g : Nat} {t : TypeId} {a b c : Value} (h : Blk W g t #[a, b, c]) : W.cell? ⟨g, 0, none⟩ = some a ∧ W.cell? ⟨g, 1, none⟩ = some b ∧ W.cell? ⟨g, 2, none⟩ = some c ∧ W.frozen? ⟨g, 0, none⟩ = false ∧ W.frozen? ⟨g, 1, none⟩ = false ∧ W.frozen? ⟨g, 2, none⟩ = false :=
  ⟨h.cell 0, h.cell 1, h.cell 2, h.frozen 0, h.frozen 1, h.frozen 2⟩
theorem blk_set3 {W : World} {g : Nat} {t : TypeId} {a b c : Value} (h : Blk W g t #[a, b, c]) (v : Val) : Blk (set3 W g 0 v) g t (valC v) := by
  have h1 := ((h.set_ 0 (.int .u8 v.1)).set_ (0 + 1) (.int .i64 v.2.1)).set_ (0 + 2) (.string v.2.2)
  exact h1
theorem r1_tag {w W : World} {ts : List Nat} {A : Option Addr} {n c j : Nat} (h : R1 w ts (.slice A n c) W) (hj : j < ts.length) : ∃ g, A = some ⟨g, 0, none⟩ ∧ g < W.heap.size ∧ W.cell? ⟨g, j, none⟩ = some (.int .u64 (ts.getD j 0 : Nat)) := by
  obtain ⟨g, cap, hv, hb, hlt⟩ := h.1.form (by omega)
  injection hv with hA hn hc
  subst hA
  refine ⟨g, rfl, hlt, ?_⟩
  have hx : (tagV ts)[j]? = some (.int .u64 (ts.getD j 0 : Nat)) := by simp [tagV, List.getD_eq_getElem?_getD, hj]
  have c1 := h.1.cells (g := g) rfl _ _ hx
  have ea : ∀ i, (⟨g, 0, none⟩ : Addr).add i = ⟨g, 0 + i, none⟩ := fun i => by unfold Addr.add; split <;> simp_all
  rw [ea, Nat.zero_add] at c1
  exact c1
theorem takeRef_head {L : List Nat} (h : L = [] ∨ 16 < L.getD 0 0 ∨ 4000 < L.length) : takeR L = none := takeR_head h
theorem ref_tags {L : List Nat} (hh : ¬ (L = [] ∨ 16 < L.getD 0 0 ∨ 4000 < L.length)) (h : tagsA [] (L.getD 0 0) (L.drop 1) = none) : takeR L = none := by
  unfold takeR parseR; rw [if_neg hh, h]
theorem ref_bods {L ts r : List Nat} (hh : ¬ (L = [] ∨ 16 < L.getD 0 0 ∨ 4000 < L.length)) (h : tagsA [] (L.getD 0 0) (L.drop 1) = some (ts, r)) :
    takeR L = match bodsG [] ts r with | none => none | some (row, r) => if r = [] then some row else none := by
  rw [← takeRef_eq]
  unfold takeRef
  rw [if_neg (fun g => hh (by
    rcases g with g | g | g
    · exact .inl g
    · exact .inr (.inr g)
    · exact .inr (.inl g))), h]
  rfl
set_option maxRecDepth 100000 in
theorem refUnfold_any (n : Nat) (w : World) (h : n < 18446744073709551616) :
    Calls Try.prog 72 #[.int .u64 n] w fun e w' => e = .returned (.int .i64 (unfoldZ n)) ∧ w = w' := by
  by_cases h2 : n % 2 = 0
  · have HF := Lib.hid (show unfoldZ n = (n / 2 : Nat) by unfold unfoldZ; rw [if_pos (by omega)]; omega)
    have e1 : ((n : Int) % 2 == 0) = true := by rw [beq_iff_eq]; omega
    have e2 : (n : Int) / 2 = ((n / 2 : Nat) : Int) := by omega
    have hb : n / 2 < 9223372036854775808 := by omega
    generalize n / 2 = K at *
    generalize (n : Int) = N at *
    have hbI : (K : Int) < 9223372036854775808 := by omega
    clear hb h h2
    go_enter Try.func72, Try.ntmps72
    go_wp2
    go_ret
    exact ⟨rint (by rw [HF.out]), rfl⟩
  · have HF := Lib.hid (show unfoldZ n = - ((n / 2 : Nat) : Int) - 1 by unfold unfoldZ; rw [if_neg (by omega)]; omega)
    have e1 : ((n : Int) % 2 == 0) = false := by rw [beq_eq_false_iff_ne]; omega
    have e2 : (n : Int) / 2 = ((n / 2 : Nat) : Int) := by omega
    have hb : n / 2 < 9223372036854775808 := by omega
    generalize n / 2 = K at *
    generalize (n : Int) = N at *
    have hbI : (K : Int) < 9223372036854775808 := by omega
    clear hb h h2
    go_enter Try.func72, Try.ntmps72
    go_wp2
    go_ret
    exact ⟨rint (by rw [HF.out]), rfl⟩
end Go.Proofs.Ytocbdehcjcggeaa
