/- net's find, Deliver, Drop, Twice, Send. Conditions: those of each lemma. -/
import Derived.Test.YtndlcjpkpkfcpaaNt3
namespace Go.Proofs.Ytndlcjpkpkfcpaa
open Go.RowKit Go Go.Maps
set_option linter.unusedVariables false
set_option linter.unusedSimpArgs false
abbrev zL : Lt := ⟨0, 0, 0, ⟨#[]⟩, false⟩
def findL (L : List Lt) (k : Int) : Option Lt := L.find? (fun x => decide (x.id = k))
theorem find_has (L : List Lt) (k : Int) : L.any (fun x => decide (x.id = k)) = (findL L k).isSome := by
  unfold findL
  induction L with
  | nil => rfl
  | cons a L ih =>
    rw [List.any_cons, List.find?_cons]
    by_cases h : a.id = k
    · simp [h]
    · simp only [h, decide_false, Bool.false_or]
      exact ih
theorem find_id {L : List Lt} {k : Int} {x : Lt} (h : findL L k = some x) : x.id = k ∧ x ∈ L := by
  unfold findL at h
  exact ⟨by simpa using List.find?_some h, List.mem_of_find?_eq_some h⟩
theorem zero_letter (w : World) : (zeroValue 31).run Try.prog w = .ok (ltV zL) w := Try.zeroValue31 w
/-- what the map answers -/
theorem look_net {W : World} {gm : Nat} {L : List Lt} {k : Int} (h : W.ownsMap Try.prog 3 heldR gm L.length (mapOf L)) (hk : I64' k) : (Instr.lookup 46 (.map (some gm)) (.int .i64 k) true).run Try.prog W = .ok (.tuple #[ltV ((findL L k).getD zL), .bool (findL L k).isSome]) W := by
  obtain ⟨v, ps, hrun, hv⟩ := h.look_ok keyed Try.underlying46 (zero_letter W) (zd := .held (ltV zL)) (zp := []) rfl (key_int k hk.1 hk.2)
  rw [hrun, map_has, find_has]
  have e : v = ltV ((findL L k).getD zL) := by
    rw [map_at] at hv
    have h2 : DataW.held v = (match L.find? (fun x => decide (x.id = k)) with | some x => .held (ltV x) | none => .held (ltV zL)) := congrArg Prod.fst (Option.some.inj hv)
    unfold findL
    cases hf : L.find? (fun x => decide (x.id = k)) with
    | none => rw [hf] at h2; exact DataW.held.inj h2
    | some x => rw [hf] at h2; exact DataW.held.inj h2
  rw [e]
set_option maxRecDepth 100000 in
set_option maxHeartbeats 4000000 in
theorem find_nil (k : Int) (w : World) : Calls Try.prog 23 #[.pointer none, .int .i64 k] w fun e w' => e = .returned (.tuple #[ltV zL, .int .i64 1]) ∧ Below w.heap.size w w' := by
  go_enter Try.func23, Try.ntmps23
  go_wp2
  first
    | exact bodyPost_ret (v := .tuple #[ltV zL, .int .i64 1]) (by simp [results, Try.results23, go_sem]) rfl ⟨rfl, one_alloc⟩
    | (trace_state; fail)
theorem cell5 {W : World} {g : Nat} {t : TypeId} {a b c d e : Value} (h : Blk W g t #[a, b, c, d, e]) : W.cell? ⟨g, 0, none⟩ = some a ∧ W.cell? ⟨g, 1, none⟩ = some b ∧ W.cell? ⟨g, 2, none⟩ = some c ∧ W.cell? ⟨g, 3, none⟩ = some d ∧ W.cell? ⟨g, 4, none⟩ = some e := ⟨h.cell 0, h.cell 1, h.cell 2, h.cell 3, h.cell 4⟩
theorem froz5 {W : World} {g : Nat} {t : TypeId} {a b c d e : Value} (h : Blk W g t #[a, b, c, d, e]) : W.frozen? ⟨g, 0, none⟩ = false ∧ W.frozen? ⟨g, 1, none⟩ = false ∧ W.frozen? ⟨g, 2, none⟩ = false ∧ W.frozen? ⟨g, 3, none⟩ = false ∧ W.frozen? ⟨g, 4, none⟩ = false := ⟨h.frozen 0, h.frozen 1, h.frozen 2, h.frozen 3, h.frozen 4⟩
theorem set5 {W : World} {g : Nat} {t : TypeId} {a b c d e : Value} (h : Blk W g t #[a, b, c, d, e]) (p q r s u : Value) : Blk (((((W.setCell ⟨g, 0, none⟩ p).setCell ⟨g, 1, none⟩ q).setCell ⟨g, 2, none⟩ r).setCell ⟨g, 3, none⟩ s).setCell ⟨g, 4, none⟩ u) g t #[p, q, r, s, u] := by
  have h0 : Blk _ g t #[p, b, c, d, e] := h.set_ 0 p
  have h1 : Blk _ g t #[p, q, c, d, e] := h0.set_ 1 q
  have h2 : Blk _ g t #[p, q, r, d, e] := h1.set_ 2 r
  have h3 : Blk _ g t #[p, q, r, s, e] := h2.set_ 3 s
  exact h3.set_ 4 u
theorem below5 {w W : World} (h : Below w.heap.size w W) {g : Nat} (hg : w.heap.size ≤ g) (p q r s u : Value) : Below w.heap.size w (((((W.setCell ⟨g, 0, none⟩ p).setCell ⟨g, 1, none⟩ q).setCell ⟨g, 2, none⟩ r).setCell ⟨g, 3, none⟩ s).setCell ⟨g, 4, none⟩ u) :=
  ((((h.setCell (p := ⟨g, 0, none⟩) hg _).setCell (p := ⟨g, 1, none⟩) hg _).setCell (p := ⟨g, 2, none⟩) hg _).setCell (p := ⟨g, 3, none⟩) hg _).setCell (p := ⟨g, 4, none⟩) hg _
set_option maxRecDepth 100000 in
set_option maxHeartbeats 4000000 in
theorem find_any (k : Int) (gn gm : Nat) (L : List Lt) (N : Int) (w : World) (hs : NetS gn gm L N w) (hk : I64' k) :
    Calls Try.prog 23 #[.pointer (some ⟨gn, 0, none⟩), .int .i64 k] w fun e w' => e = .returned (.tuple #[ltV ((findL L k).getD zL), .int .i64 (if (findL L k).isSome then 0 else 4)]) ∧ Below w.heap.size w w' := by
  have h1 := net_step hs (one_alloc (o := .cells (ltC zL) 31))
  have hrun := look_net h1.2.1 hk
  have hn : findL L k = none → ltV ((findL L k).getD zL) = ltV zL := fun h => by rw [h]; rfl
  have hsm : findL L k = none ∨ (findL L k).isSome = true := by cases findL L k; exact .inl rfl; exact .inr rfl
  obtain ⟨x, hx⟩ : ∃ x, (findL L k).getD zL = x := ⟨_, rfl⟩
  rw [hx] at hrun hn ⊢
  clear hx
  obtain ⟨i, f, t, b, s⟩ := x
  obtain ⟨c0, c1⟩ := pair_at h1.1
  rcases hsm with hf | hf
  · obtain ⟨rfl, rfl, rfl, rfl, rfl⟩ : i = 0 ∧ f = 0 ∧ t = 0 ∧ b = ⟨#[]⟩ ∧ s = false := by simpa using hn hf
    have hq : (findL L k).isSome = false := by rw [hf]; rfl
    rw [hq] at hrun ⊢
    clear hs h1 hn hf hq
    go_enter Try.func23, Try.ntmps23
    go_wp2
    first
      | exact bodyPost_ret (v := .tuple #[ltV zL, .int .i64 4]) (by simp [results, Try.results23, go_sem]) rfl ⟨rfl, bj one_alloc one_alloc⟩
      | (trace_state; fail)
  · rw [hf] at hrun ⊢
    clear hs h1 hn hf
    go_enter Try.func23, Try.ntmps23
    go_wp2
    first
      | exact bodyPost_ret (v := .tuple #[ltV ⟨i, f, t, b, s⟩, .int .i64 0]) (by simp [results, Try.results23, go_sem]) rfl ⟨rfl, bj one_alloc one_alloc⟩
      | (trace_state; fail)
theorem find_x {k : Int} {gn gm : Nat} {L : List Lt} {N : Int} {w : World} (hs : NetS gn gm L N w) (hk : I64' k) {i f t : Int} {b : ByteArray} {s : Bool} {E : Int} (h : (findL L k = none ∧ (i, f, t, b, s) = (0, 0, 0, ⟨#[]⟩, false) ∧ E = 4) ∨ (findL L k = some ⟨i, f, t, b, s⟩ ∧ E = 0)) :
    Calls Try.prog 23 #[.pointer (some ⟨gn, 0, none⟩), .int .i64 k] w fun e w' => e = .returned (.tuple #[.agg #[.int .i64 i, .int .i64 f, .int .i64 t, .string b, .bool s], .int .i64 E]) ∧ Below w.heap.size w w' := by
  have hc := find_any k gn gm L N w hs hk
  rcases h with ⟨h, h2, rfl⟩ | ⟨h, rfl⟩
  · rw [h] at hc
    obtain ⟨rfl, rfl, rfl, rfl, rfl⟩ : i = 0 ∧ f = 0 ∧ t = 0 ∧ b = ⟨#[]⟩ ∧ s = false := by simpa using h2
    exact hc
  · rw [h] at hc
    exact hc
/-- the map without a letter -/
theorem drop_net {W : World} {gm : Nat} {L : List Lt} {k : Int} (h : W.ownsMap Try.prog 3 heldR gm L.length (mapOf L)) (hk : I64' k) (ty : TypeId) : ∃ W', (Builtin.delete_ #[46, 3] ty #[.map (some gm), .int .i64 k]).run Try.prog W = .ok (.tuple #[]) W' ∧ W'.ownsMap Try.prog 3 heldR gm (L.filter fun x => decide (x.id ≠ k)).length (mapOf (L.filter fun x => decide (x.id ≠ k))) ∧ W.grownBy W' (some gm) := by
  obtain ⟨W', h1, h2, h3⟩ := h.drop keyed Try.underlying46 (key_int k hk.1 hk.2) ty
  rw [map_del] at h2
  exact ⟨W', h1, owns_tight h2, h3.grown⟩
theorem net_far {gn gm : Nat} {L : List Lt} {N : Int} {W : World} (h : NetS gn gm L N W) {p : Addr} (h1 : gn ≠ p.block) (h2 : gm ≠ p.block) (u : Value) : NetS gn gm L N (W.setCell p u) := ⟨h.1.far h1 _, h.2.1.setCell h2 _, h.2.2.1, h.2.2.2⟩
theorem net_set5 {gn gm : Nat} {L : List Lt} {N : Int} {W : World} (h : NetS gn gm L N W) {g : Nat} (h1 : gn ≠ g) (h2 : gm ≠ g) (p q r s u : Value) : NetS gn gm L N (((((W.setCell ⟨g, 0, none⟩ p).setCell ⟨g, 1, none⟩ q).setCell ⟨g, 2, none⟩ r).setCell ⟨g, 3, none⟩ s).setCell ⟨g, 4, none⟩ u) :=
  net_far (net_far (net_far (net_far (net_far h (p := ⟨g, 0, none⟩) h1 h2 p) (p := ⟨g, 1, none⟩) h1 h2 q) (p := ⟨g, 2, none⟩) h1 h2 r) (p := ⟨g, 3, none⟩) h1 h2 s) (p := ⟨g, 4, none⟩) h1 h2 u
theorem but_set5 {a b : Nat} {w W : World} (h : But a b w W) {g : Nat} (hg : w.heap.size ≤ g) (p q r s u : Value) : But a b w (((((W.setCell ⟨g, 0, none⟩ p).setCell ⟨g, 1, none⟩ q).setCell ⟨g, 2, none⟩ r).setCell ⟨g, 3, none⟩ s).setCell ⟨g, 4, none⟩ u) :=
  but_far (but_far (but_far (but_far (but_far h (p := ⟨g, 0, none⟩) hg p) (p := ⟨g, 1, none⟩) hg q) (p := ⟨g, 2, none⟩) hg r) (p := ⟨g, 3, none⟩) hg s) (p := ⟨g, 4, none⟩) hg u
theorem nok_filter {L : List Lt} {N : Int} (h : NOk L N) (f : Lt → Bool) : NOk (L.filter f) N := ⟨up_filter h.1 f, fun x hx => h.2.1 x ((List.mem_filter.1 hx).1), Nat.le_trans (List.length_filter_le _ _) h.2.2.1, h.2.2.2⟩
set_option maxRecDepth 100000 in
set_option maxHeartbeats 4000000 in
theorem deliver_none (k : Int) (gn gm : Nat) (L : List Lt) (N : Int) (w : World) (hs : NetS gn gm L N w) (hk : I64' k) (hf : findL L k = none) :
    Calls Try.prog 11 #[.pointer (some ⟨gn, 0, none⟩), .int .i64 k] w fun e w' => e = .returned (.tuple #[ltV zL, .int .i64 4]) ∧ Below w.heap.size w w' := by
  have h1 := net_step hs (one_alloc (o := .cells (ltC zL) 31))
  have HF := Lib.hid (find_x h1 hk (.inl ⟨hf, rfl, rfl⟩))
  have hz := Blk.new w 31 (ltC zL)
  clear hs h1 hf
  go_enter Try.func11, Try.ntmps11
  go_wp2_with fail
  refine HF.out.mono ?_
  rintro e w2 ⟨rfl, hb2⟩
  have hz2 := blk_step (blk_step hz hb2) (one_alloc (o := .cells (ltC zL) 31))
  have HB := Lib.hid (bj (bj one_alloc hb2) (one_alloc (o := .cells (ltC zL) 31)))
  have HZ := Lib.hid hz2
  obtain ⟨z0, z1, z2, z3, z4⟩ := cell5 hz2
  obtain ⟨f0, f1, f2, f3, f4⟩ := froz5 hz2
  clear hb2 hz hz2
  go_wp2
  obtain ⟨e0, e1, e2, e3, e4⟩ := cell5 (set5 HZ.out (.int .i64 0) (.int .i64 0) (.int .i64 0) (.string ⟨#[]⟩) (.bool false))
  exact bodyPost_ret (v := .tuple #[ltV zL, .int .i64 4]) (by simp [results, Try.results11, go_sem, e0, e1, e2, e3, e4]) rfl ⟨rfl, below5 HB.out (Nat.le_refl _) _ _ _ _ _⟩
set_option maxRecDepth 100000 in
set_option maxHeartbeats 4000000 in
theorem deliver_some (k : Int) (gn gm : Nat) (L : List Lt) (N : Int) (w : World) (hs : NetS gn gm L N w) (hk : I64' k) (x : Lt) (hf : findL L k = some x) :
    Calls Try.prog 11 #[.pointer (some ⟨gn, 0, none⟩), .int .i64 k] w fun e w' => e = .returned (.tuple #[ltV x, .int .i64 0]) ∧ NetS gn gm (L.filter fun x => decide (x.id ≠ k)) N w' ∧ But gn gm w w' := by
  obtain ⟨i, f, t, b, s⟩ := x
  have h1 := net_step hs (one_alloc (o := .cells (ltC zL) 31))
  have HF := Lib.hid (find_x h1 hk (.inr ⟨hf, rfl⟩))
  have hz := Blk.new w 31 (ltC zL)
  have HLM := Lib.hid (And.intro hs.1.lt hs.2.1.lt)
  have HH1 := Lib.hid h1
  have HK := Lib.hid hk
  clear hs h1 hf hk
  go_enter Try.func11, Try.ntmps11
  go_wp2_with fail
  refine HF.out.mono ?_
  rintro e w2 ⟨rfl, hb2⟩
  have hn2 := net_step (net_step HH1.out hb2) (one_alloc (o := .cells (ltC ⟨i, f, t, b, s⟩) 31))
  obtain ⟨w3, hrun, hown, hgr⟩ := drop_net hn2.2.1 HK.out 0
  have hz2 := blk_step (blk_step hz hb2) (one_alloc (o := .cells (ltC ⟨i, f, t, b, s⟩) 31))
  have hx2 := Blk.new w2 31 (ltC ⟨i, f, t, b, s⟩)
  have hlt2 := hb2.size
  have hz3 := hz2.grown hgr (fun e => by have := HLM.out.2; have := Option.some.inj e; omega)
  have hx3 := hx2.grown hgr (fun e => by have := HLM.out.2; have := Option.some.inj e; simp at hlt2; omega)
  have HN3 : Hid (NetS gn gm (L.filter fun x => decide (x.id ≠ k)) N w3) := Lib.hid ⟨hn2.1.grown hgr (fun e => hn2.2.2.1 (Option.some.inj e)), hown, hn2.2.2.1, nok_filter hn2.2.2.2 _⟩
  have HB3 : Hid (But gn gm w w3) := Lib.hid (but_trans (but_of (bj (bj one_alloc hb2) (one_alloc (o := .cells (ltC ⟨i, f, t, b, s⟩) 31)))) (but_grown hgr (fun z hz => .inr (Option.some.inj hz).symm)))
  obtain ⟨c0, c1⟩ := pair_at hn2.1
  obtain ⟨z0, z1, z2, z3, z4⟩ := cell5 hz3
  obtain ⟨f0, f1, f2, f3, f4⟩ := froz5 hz3
  obtain ⟨x0, x1, x2, x3, x4⟩ := cell5 hx3
  have HZ := Lib.hid hz3
  clear hb2 hz hz2 hx2 hx3 hz3 hn2 hown hgr hlt2
  go_wp2
  obtain ⟨e0, e1, e2, e3, e4⟩ := cell5 (set5 HZ.out (.int .i64 i) (.int .i64 f) (.int .i64 t) (.string b) (.bool s))
  exact bodyPost_ret (v := .tuple #[ltV ⟨i, f, t, b, s⟩, .int .i64 0]) (by simp [results, Try.results11, go_sem, e0, e1, e2, e3, e4]) rfl ⟨rfl, net_set5 HN3.out (Nat.ne_of_lt HLM.out.1) (Nat.ne_of_lt HLM.out.2) _ _ _ _ _, but_set5 HB3.out (Nat.le_refl _) _ _ _ _ _⟩
set_option maxRecDepth 100000 in
set_option maxHeartbeats 4000000 in
theorem drop_none (k : Int) (gn gm : Nat) (L : List Lt) (N : Int) (w : World) (hs : NetS gn gm L N w) (hk : I64' k) (hf : findL L k = none) :
    Calls Try.prog 12 #[.pointer (some ⟨gn, 0, none⟩), .int .i64 k] w fun e w' => e = .returned (.int .i64 4) ∧ Below w.heap.size w w' := by
  have HD := Lib.hid (deliver_none k gn gm L N w hs hk hf)
  clear hs hk hf
  go_enter Try.func12, Try.ntmps12
  go_wp2_with fail
  refine HD.out.mono ?_
  rintro e w2 ⟨rfl, hb2⟩
  have HB := Lib.hid hb2
  clear hb2
  go_wp2
  go_ret
  exact ⟨rfl, bj HB.out one_alloc⟩
set_option maxRecDepth 100000 in
set_option maxHeartbeats 4000000 in
theorem drop_some (k : Int) (gn gm : Nat) (L : List Lt) (N : Int) (w : World) (hs : NetS gn gm L N w) (hk : I64' k) (x : Lt) (hf : findL L k = some x) :
    Calls Try.prog 12 #[.pointer (some ⟨gn, 0, none⟩), .int .i64 k] w fun e w' => e = .returned (.int .i64 0) ∧ NetS gn gm (L.filter fun x => decide (x.id ≠ k)) N w' ∧ But gn gm w w' := by
  have HD := Lib.hid (deliver_some k gn gm L N w hs hk x hf)
  clear hs hk hf
  go_enter Try.func12, Try.ntmps12
  go_wp2_with fail
  refine HD.out.mono ?_
  rintro e w2 ⟨rfl, hn2, hb2⟩
  obtain ⟨i, f, t, b, s⟩ := x
  have HN := Lib.hid hn2
  have HB := Lib.hid hb2
  clear hb2 hn2
  go_wp2
  go_ret
  exact ⟨rfl, net_step HN.out one_alloc, but_trans HB.out (but_of one_alloc)⟩
theorem add_x {l : Lt} {gn gm : Nat} {L : List Lt} {N : Int} {w : World} (hs : NetS gn gm L N w) (hN : N ≤ 1000000) {i f t : Int} {b : ByteArray} {s : Bool} (hl : l = ⟨i, f, t, b, s⟩) :
    Calls Try.prog 22 #[.pointer (some ⟨gn, 0, none⟩), .agg #[.int .i64 i, .int .i64 f, .int .i64 t, .string b, .bool s]] w fun e w' => e = .returned (.tuple #[.int .i64 (if 64 ≤ L.length then 0 else N + 1), .int .i64 (if 64 ≤ L.length then 8 else 0)]) ∧ NetS gn gm (if 64 ≤ L.length then L else L ++ [newL l N]) (if 64 ≤ L.length then N else N + 1) w' ∧ But gn gm w w' := by
  subst hl
  by_cases h : 64 ≤ L.length
  · simp only [if_pos h]
    refine (add_full ⟨i, f, t, b, s⟩ gn gm L N w hs h).mono ?_
    rintro e w' ⟨rfl, hb⟩
    exact ⟨rfl, net_step hs hb, but_of hb⟩
  · simp only [if_neg h]
    exact add_ok ⟨i, f, t, b, s⟩ gn gm L N w hs (by omega) hN
set_option maxRecDepth 100000 in
set_option maxHeartbeats 4000000 in
theorem twice_none (k : Int) (gn gm : Nat) (L : List Lt) (N : Int) (w : World) (hs : NetS gn gm L N w) (hk : I64' k) (hf : findL L k = none) :
    Calls Try.prog 8 #[.pointer (some ⟨gn, 0, none⟩), .int .i64 k] w fun e w' => e = .returned (.tuple #[.int .i64 0, .int .i64 4]) ∧ Below w.heap.size w w' := by
  have HF := Lib.hid (find_x hs hk (.inl ⟨hf, rfl, rfl⟩))
  clear hs hf hk
  go_enter Try.func8, Try.ntmps8
  go_wp2_with fail
  refine HF.out.mono ?_
  rintro e w2 ⟨rfl, hb2⟩
  have HB := Lib.hid hb2
  clear hb2
  go_wp2
  exact bodyPost_ret (v := .tuple #[.int .i64 0, .int .i64 4]) (by simp [results, Try.results8, go_sem]) rfl ⟨rfl, bj HB.out one_alloc⟩
set_option maxRecDepth 100000 in
set_option maxHeartbeats 4000000 in
theorem twice_some (k : Int) (gn gm : Nat) (L : List Lt) (N : Int) (w : World) (hs : NetS gn gm L N w) (hN : N ≤ 1000000) (hk : I64' k) (x : Lt) (hf : findL L k = some x) (z1 z2 : Int) (L' : List Lt) (N' : Int) (h1 : (if 64 ≤ L.length then 0 else N + 1) = z1) (h2 : (if 64 ≤ L.length then 8 else 0) = z2) (h3 : (if 64 ≤ L.length then L else L ++ [newL x N]) = L') (h4 : (if 64 ≤ L.length then N else N + 1) = N') :
    Calls Try.prog 8 #[.pointer (some ⟨gn, 0, none⟩), .int .i64 k] w fun e w' => e = .returned (.tuple #[.int .i64 z1, .int .i64 z2]) ∧ NetS gn gm L' N' w' ∧ But gn gm w w' := by
  obtain ⟨i, f, t, b, s⟩ := x
  have HF := Lib.hid (find_x hs hk (.inr ⟨hf, rfl⟩))
  have HA := Lib.hid (fun (W : World) (hW : NetS gn gm L N W) => (by
    have h := add_x (l := ⟨i, f, t, b, s⟩) hW hN rfl
    rw [h1, h2, h3, h4] at h
    exact h : Calls Try.prog 22 #[.pointer (some ⟨gn, 0, none⟩), .agg #[.int .i64 i, .int .i64 f, .int .i64 t, .string b, .bool s]] W fun e w' => e = .returned (.tuple #[.int .i64 z1, .int .i64 z2]) ∧ NetS gn gm L' N' w' ∧ But gn gm W w'))
  have HS := Lib.hid hs
  clear hs hf hk h1 h2 h3 h4 hN
  go_enter Try.func8, Try.ntmps8
  go_wp2_with fail
  refine HF.out.mono ?_
  rintro e w2 ⟨rfl, hb2⟩
  have HB := Lib.hid hb2
  clear hb2
  go_wp2_with fail
  refine (HA.out _ (net_step (net_step HS.out HB.out) one_alloc)).mono ?_
  rintro e w3 ⟨rfl, hn3, hb3⟩
  have HN := Lib.hid hn3
  have HB3 := Lib.hid hb3
  clear hn3 hb3
  go_wp2
  exact bodyPost_ret (v := .tuple #[.int .i64 z1, .int .i64 z2]) (by simp [results, Try.results8, go_sem]) rfl ⟨rfl, HN.out, but_trans (but_of (bj HB.out one_alloc)) HB3.out⟩
/-- what Send answers but for what it adds -/
def sendE (f t : Int) (b : ByteArray) : Int := if (decide (0 ≤ f) && decide (f < 4)) && (decide (0 ≤ t) && decide (t < 4)) then (if 262144 < b.size then 3 else 0) else 2
set_option maxRecDepth 100000 in
set_option maxHeartbeats 4000000 in
theorem send_bad (f t : Int) (b : ByteArray) (gn gm : Nat) (w : World) (E : Int) (hE : sendE f t b = E) (h0 : E ≠ 0) :
    Calls Try.prog 7 #[.pointer (some ⟨gn, 0, none⟩), .int .i64 f, .int .i64 t, .string b] w fun e w' => e = .returned (.tuple #[.int .i64 0, .int .i64 E]) ∧ w = w' := by
  have HA := Lib.hid (isNode_any f)
  have HB := Lib.hid (isNode_any t)
  unfold sendE at hE
  cases h1 : (decide (0 ≤ f) && decide (f < 4))
  · rw [h1] at hE HA
    obtain rfl : 2 = E := hE
    clear h1 h0
    go_enter Try.func7, Try.ntmps7
    go_wp2_with fail
    refine (HA.out _).mono ?_
    rintro e w2 ⟨rfl, rfl⟩
    go_wp2
    exact bodyPost_ret (v := .tuple #[.int .i64 0, .int .i64 2]) (by simp [results, Try.results7, go_sem]) rfl ⟨rfl, rfl⟩
  · cases h2 : (decide (0 ≤ t) && decide (t < 4))
    · rw [h1, h2] at hE
      rw [h1] at HA
      rw [h2] at HB
      obtain rfl : 2 = E := hE
      clear h1 h2 h0
      go_enter Try.func7, Try.ntmps7
      go_wp2_with fail
      refine (HA.out _).mono ?_
      rintro e w2 ⟨rfl, rfl⟩
      go_wp2_with fail
      refine (HB.out _).mono ?_
      rintro e w2 ⟨rfl, rfl⟩
      go_wp2
      exact bodyPost_ret (v := .tuple #[.int .i64 0, .int .i64 2]) (by simp [results, Try.results7, go_sem]) rfl ⟨rfl, rfl⟩
    · rw [h1, h2] at hE
      rw [h1] at HA
      rw [h2] at HB
      have hlt : 262144 < b.size := by
        by_cases h : 262144 < b.size
        · exact h
        · rw [if_neg h] at hE; exact absurd hE.symm (by simpa using h0)
      rw [if_pos hlt] at hE
      obtain rfl : 3 = E := hE
      have hltI : 262144 < (b.size : Int) := by omega
      clear h1 h2 h0 hlt
      go_enter Try.func7, Try.ntmps7
      go_wp2_with fail
      refine (HA.out _).mono ?_
      rintro e w2 ⟨rfl, rfl⟩
      go_wp2_with fail
      refine (HB.out _).mono ?_
      rintro e w2 ⟨rfl, rfl⟩
      go_wp2
      exact bodyPost_ret (v := .tuple #[.int .i64 0, .int .i64 3]) (by simp [results, Try.results7, go_sem]) rfl ⟨rfl, rfl⟩
set_option maxRecDepth 100000 in
set_option maxHeartbeats 4000000 in
theorem send_ok (f t : Int) (b : ByteArray) (gn gm : Nat) (L : List Lt) (N : Int) (w : World) (hs : NetS gn gm L N w) (hN : N ≤ 1000000) (hE : sendE f t b = 0) (z1 z2 : Int) (L' : List Lt) (N' : Int) (h1 : (if 64 ≤ L.length then 0 else N + 1) = z1) (h2 : (if 64 ≤ L.length then 8 else 0) = z2) (h3 : (if 64 ≤ L.length then L else L ++ [⟨N + 1, f, t, b, false⟩]) = L') (h4 : (if 64 ≤ L.length then N else N + 1) = N') :
    Calls Try.prog 7 #[.pointer (some ⟨gn, 0, none⟩), .int .i64 f, .int .i64 t, .string b] w fun e w' => e = .returned (.tuple #[.int .i64 z1, .int .i64 z2]) ∧ NetS gn gm L' N' w' ∧ But gn gm w w' := by
  have HAD := Lib.hid (fun (W : World) (hW : NetS gn gm L N W) => (by
    have h := add_x (l := ⟨0, f, t, b, false⟩) hW hN rfl
    rw [h1, h2, h4] at h
    rw [show (if 64 ≤ L.length then L else L ++ [newL ⟨0, f, t, b, false⟩ N]) = L' from h3] at h
    exact h : Calls Try.prog 22 #[.pointer (some ⟨gn, 0, none⟩), .agg #[.int .i64 0, .int .i64 f, .int .i64 t, .string b, .bool false]] W fun e w' => e = .returned (.tuple #[.int .i64 z1, .int .i64 z2]) ∧ NetS gn gm L' N' w' ∧ But gn gm W w'))
  have HS := Lib.hid hs
  have HA := Lib.hid (isNode_any f)
  have HB := Lib.hid (isNode_any t)
  unfold sendE at hE
  have k1 : (decide (0 ≤ f) && decide (f < 4)) = true := by
    cases h : (decide (0 ≤ f) && decide (f < 4))
    · rw [h] at hE; exact absurd hE (by simp)
    · rfl
  have k2 : (decide (0 ≤ t) && decide (t < 4)) = true := by
    cases h : (decide (0 ≤ t) && decide (t < 4))
    · rw [k1, h] at hE; exact absurd hE (by simp)
    · rfl
  have k3 : ¬ 262144 < b.size := by
    intro h
    rw [k1, k2, if_pos h] at hE
    exact absurd hE (by simp)
  have k3I : (b.size : Int) ≤ 262144 := by omega
  rw [k1] at HA
  rw [k2] at HB
  clear hs hN hE h1 h2 h3 h4 k1 k2 k3
  go_enter Try.func7, Try.ntmps7
  go_wp2_with fail
  refine (HA.out _).mono ?_
  rintro e w2 ⟨rfl, rfl⟩
  go_wp2_with fail
  refine (HB.out _).mono ?_
  rintro e w2 ⟨rfl, rfl⟩
  go_wp2_with fail
  refine (HAD.out _ HS.out).mono ?_
  rintro e w3 ⟨rfl, hn3, hb3⟩
  have HN := Lib.hid hn3
  have HB3 := Lib.hid hb3
  clear hn3 hb3
  go_wp2
  exact bodyPost_ret (v := .tuple #[.int .i64 z1, .int .i64 z2]) (by simp [results, Try.results7, go_sem]) rfl ⟨rfl, HN.out, HB3.out⟩
end Go.Proofs.Ytndlcjpkpkfcpaa
