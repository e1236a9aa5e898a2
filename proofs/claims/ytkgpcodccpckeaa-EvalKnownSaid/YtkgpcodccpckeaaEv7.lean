/- The laws' makers of expressions, is; eval.of, eval.Eval. Conditions: those of each lemma. -/
import Derived.Test.YtkgpcodccpckeaaEv5
import Derived.Laws.EntriesVeiled
namespace Go.Proofs.Ytkgpcodccpckeaa
open Go.RowKit
set_option linter.unusedVariables false
set_option linter.unusedSimpArgs false
theorem cell8_all {W : World} {g : Nat} {t : TypeId} {a b c d e f k l : Value} (h : Blk W g t #[a, b, c, d, e, f, k, l]) : W.cell? ⟨g, 0, none⟩ = some a ∧ W.cell? ⟨g, 1, none⟩ = some b ∧ W.cell? ⟨g, 2, none⟩ = some c ∧ W.cell? ⟨g, 3, none⟩ = some d ∧ W.cell? ⟨g, 4, none⟩ = some e ∧ W.cell? ⟨g, 5, none⟩ = some f ∧ W.cell? ⟨g, 6, none⟩ = some k ∧ W.cell? ⟨g, 7, none⟩ = some l :=
  ⟨h.cell 0, h.cell 1, h.cell 2, h.cell 3, h.cell 4, h.cell 5, h.cell 6, h.cell 7⟩
/-- a leaf, a node, a column -/
abbrev leafX (v : Val) : Ex := ⟨1, v, ⟨#[]⟩, ⟨#[]⟩, 0, none, 0, 0⟩
abbrev nodeX (op : Int) (A : Option Addr) (m c : Nat) : Ex := ⟨op, (0, 0, ⟨#[]⟩), ⟨#[]⟩, ⟨#[]⟩, 0, A, m, c⟩
abbrev colX (n : Int) : Ex := ⟨2, (0, 0, ⟨#[]⟩), ⟨#[]⟩, ⟨#[]⟩, n, none, 0, 0⟩
set_option maxRecDepth 100000 in
set_option maxHeartbeats 4000000 in
theorem with_any (v : Val) (w : World) : Calls Try.prog 18 #[valV v] w fun e w' => e = .returned (exV (leafX v)) ∧ Below w.heap.size w w' := by
  obtain ⟨k, q, s⟩ := v
  go_enter Try.func18, Try.ntmps18
  go_wp2
  exact bodyPost_ret (v := .agg #[.int .u8 1, .int .u8 k, .int .i64 q, .string s, .string ⟨#[]⟩, .string ⟨#[]⟩, .int .i64 0, .slice none 0 0]) (by simp [results, Try.results18, go_sem]) rfl ⟨rfl, bj one_alloc one_alloc⟩
set_option maxRecDepth 100000 in
set_option maxHeartbeats 4000000 in
theorem mkof_any (op : Int) (A : Option Addr) (m c : Nat) (w : World) : Calls Try.prog 12 #[.int .u8 op, .slice A m c] w fun e w' => e = .returned (exV (nodeX op A m c)) ∧ Below w.heap.size w w' := by
  go_enter Try.func12, Try.ntmps12
  go_wp2
  exact bodyPost_ret (v := .agg #[.int .u8 op, .int .u8 0, .int .i64 0, .string ⟨#[]⟩, .string ⟨#[]⟩, .string ⟨#[]⟩, .int .i64 0, .slice A m c]) (by simp [results, Try.results12, go_sem]) rfl ⟨rfl, one_alloc⟩
set_option maxRecDepth 100000 in
set_option maxHeartbeats 4000000 in
theorem column_any (n : Int) (w : World) : Calls Try.prog 21 #[.int .i64 n] w fun e w' => e = .returned (exV (colX n)) ∧ Below w.heap.size w w' := by
  go_enter Try.func21, Try.ntmps21
  go_wp2
  exact bodyPost_ret (v := .agg #[.int .u8 2, .int .u8 0, .int .i64 0, .string ⟨#[]⟩, .string ⟨#[]⟩, .string ⟨#[]⟩, .int .i64 n, .slice none 0 0]) (by simp [results, Try.results21, go_sem]) rfl ⟨rfl, one_alloc⟩
theorem kids_1 {W : World} {g : Nat} {t : TypeId} {x : Ex} (h : Blk W g t (exC x)) : Kids W W.heap.size (some ⟨g, 0, none⟩) [x] := by
  refine .inr ⟨g, 0, rfl, h.lt, fun j y hy => ?_⟩
  match j, hy with
  | 0, hy => simp at hy; subst hy; exact cell8 h
  | j + 1, hy => simp at hy
abbrev exC2 (x y : Ex) : Array Value := #[.int .u8 x.op, .int .u8 x.v.1, .int .i64 x.v.2.1, .string x.v.2.2, .string x.tb, .string x.nm, .int .i64 x.n, .slice x.A x.m x.c, .int .u8 y.op, .int .u8 y.v.1, .int .i64 y.v.2.1, .string y.v.2.2, .string y.tb, .string y.nm, .int .i64 y.n, .slice y.A y.m y.c]
theorem kids_2 {W : World} {g : Nat} {t : TypeId} {x y : Ex} (h : Blk W g t (exC2 x y)) : Kids W W.heap.size (some ⟨g, 0, none⟩) [x, y] := by
  refine .inr ⟨g, 0, rfl, h.lt, fun j z hz => ?_⟩
  match j, hz with
  | 0, hz => simp at hz; subst hz; exact ⟨h.cell 0, h.cell 1, h.cell 2, h.cell 3, h.cell 4, h.cell 5, h.cell 6, h.cell 7⟩
  | 1, hz => simp at hz; subst hz; exact ⟨h.cell 8, h.cell 9, h.cell 10, h.cell 11, h.cell 12, h.cell 13, h.cell 14, h.cell 15⟩
  | j + 2, hz => simp at hz
/-- two's boxes and answer -/
def Tw (w : World) (a b : Val) (W : World) : Prop := Blk W w.heap.size 23 (valC a) ∧ Blk W (w.heap.size + 1) 23 (valC b) ∧ Blk W (w.heap.size + 1 + 1) 29 #[.int .u8 0, .int .u8 0, .int .i64 0, .string ⟨#[]⟩, .string ⟨#[]⟩, .string ⟨#[]⟩, .int .i64 0, .slice none 0 0] ∧ Below w.heap.size w W
theorem tw_below {w W W' : World} {a b : Val} (h : Tw w a b W) (hb : Below W.heap.size W W') : Tw w a b W' := ⟨blk_step h.1 hb, blk_step h.2.1 hb, blk_step h.2.2.1 hb, bj h.2.2.2 hb⟩
theorem tw_drew {w W : World} {a b : Val} (h : Tw w a b W) : Tw w a b W.drew := ⟨h.1.drew, h.2.1.drew, h.2.2.1.drew, h.2.2.2.drew⟩
theorem tw_new (w : World) (a b : Val) : Tw w a b (((w.alloc (.cells (valC a) 23)).alloc (.cells (valC b) 23)).alloc (.cells #[.int .u8 0, .int .u8 0, .int .i64 0, .string ⟨#[]⟩, .string ⟨#[]⟩, .string ⟨#[]⟩, .int .i64 0, .slice none 0 0] 29)) :=
  ⟨((Blk.new _ _ _).alloc _).alloc _, (blk_new _ _ _ _ (by simp)).alloc _, blk_new _ _ _ _ (by simp), bj (bj one_alloc one_alloc) one_alloc⟩
theorem tw_S {w W : World} {p q p' q' : Int} {s s' : ByteArray} (h : Tw w (p, q, s) (p', q', s') W) : W.cell? ⟨w.heap.size, 0, none⟩ = some (.int .u8 p) ∧ W.cell? ⟨w.heap.size, 1, none⟩ = some (.int .i64 q) ∧ W.cell? ⟨w.heap.size, 2, none⟩ = some (.string s) ∧ W.cell? ⟨w.heap.size + 1, 0, none⟩ = some (.int .u8 p') ∧ W.cell? ⟨w.heap.size + 1, 1, none⟩ = some (.int .i64 q') ∧ W.cell? ⟨w.heap.size + 1, 2, none⟩ = some (.string s') :=
  ⟨h.1.cell 0, h.1.cell 1, h.1.cell 2, h.2.1.cell 0, h.2.1.cell 1, h.2.1.cell 2⟩
set_option maxHeartbeats 4000000 in
theorem set8 {W : World} {g : Nat} {t : TypeId} {a b c d e f k l : Value} (h : Blk W g t #[a, b, c, d, e, f, k, l]) (x0 x1 x2 x3 x4 x5 x6 x7 : Value) : Blk ((((((((W.setCell ⟨g, 0, none⟩ x0).setCell ⟨g, 1, none⟩ x1).setCell ⟨g, 2, none⟩ x2).setCell ⟨g, 3, none⟩ x3).setCell ⟨g, 4, none⟩ x4).setCell ⟨g, 5, none⟩ x5).setCell ⟨g, 6, none⟩ x6).setCell ⟨g, 7, none⟩ x7) g t #[x0, x1, x2, x3, x4, x5, x6, x7] :=
  have h0 : Blk _ g t #[x0, b, c, d, e, f, k, l] := h.set_ 0 x0
  have h1 : Blk _ g t #[x0, x1, c, d, e, f, k, l] := h0.set_ 1 x1
  have h2 : Blk _ g t #[x0, x1, x2, d, e, f, k, l] := h1.set_ 2 x2
  have h3 : Blk _ g t #[x0, x1, x2, x3, e, f, k, l] := h2.set_ 3 x3
  have h4 : Blk _ g t #[x0, x1, x2, x3, x4, f, k, l] := h3.set_ 4 x4
  have h5 : Blk _ g t #[x0, x1, x2, x3, x4, x5, k, l] := h4.set_ 5 x5
  have h6 : Blk _ g t #[x0, x1, x2, x3, x4, x5, x6, l] := h5.set_ 6 x6
  have h7 : Blk _ g t #[x0, x1, x2, x3, x4, x5, x6, x7] := h6.set_ 7 x7
  h7
set_option maxHeartbeats 4000000 in
theorem below8 {w W : World} {g : Nat} (h : Below w.heap.size w W) (hg : w.heap.size ≤ g) (x0 x1 x2 x3 x4 x5 x6 x7 : Value) : Below w.heap.size w ((((((((W.setCell ⟨g, 0, none⟩ x0).setCell ⟨g, 1, none⟩ x1).setCell ⟨g, 2, none⟩ x2).setCell ⟨g, 3, none⟩ x3).setCell ⟨g, 4, none⟩ x4).setCell ⟨g, 5, none⟩ x5).setCell ⟨g, 6, none⟩ x6).setCell ⟨g, 7, none⟩ x7) :=
  (((((((h.setCell hg _).setCell hg _).setCell hg _).setCell hg _).setCell hg _).setCell hg _).setCell hg _).setCell hg _
set_option maxHeartbeats 4000000 in
theorem far8 {W : World} {g g' : Nat} {t : TypeId} {cs : Array Value} (h : Blk W g' t cs) (hg : g' ≠ g) (x0 x1 x2 x3 x4 x5 x6 x7 : Value) : Blk ((((((((W.setCell ⟨g, 0, none⟩ x0).setCell ⟨g, 1, none⟩ x1).setCell ⟨g, 2, none⟩ x2).setCell ⟨g, 3, none⟩ x3).setCell ⟨g, 4, none⟩ x4).setCell ⟨g, 5, none⟩ x5).setCell ⟨g, 6, none⟩ x6).setCell ⟨g, 7, none⟩ x7) g' t cs :=
  (((((((h.far hg _).far hg _).far hg _).far hg _).far hg _).far hg _).far hg _).far hg _
theorem cell1 {W : World} {g : Nat} {t : TypeId} {a : Value} (h : Blk W g t #[a]) : W.cell? ⟨g, 0, none⟩ = some a := h.cell 0
theorem tw_S8 {w W : World} {p q p' q' : Int} {s s' : ByteArray} (h : Tw w (p, q, s) (p', q', s') W) (x0 x1 x2 x3 x4 x5 x6 x7 : Value) : ((((((((W.setCell ⟨w.heap.size + 1 + 1, 0, none⟩ x0).setCell ⟨w.heap.size + 1 + 1, 1, none⟩ x1).setCell ⟨w.heap.size + 1 + 1, 2, none⟩ x2).setCell ⟨w.heap.size + 1 + 1, 3, none⟩ x3).setCell ⟨w.heap.size + 1 + 1, 4, none⟩ x4).setCell ⟨w.heap.size + 1 + 1, 5, none⟩ x5).setCell ⟨w.heap.size + 1 + 1, 6, none⟩ x6).setCell ⟨w.heap.size + 1 + 1, 7, none⟩ x7).cell? ⟨w.heap.size, 0, none⟩ = some (.int .u8 p) ∧ ((((((((W.setCell ⟨w.heap.size + 1 + 1, 0, none⟩ x0).setCell ⟨w.heap.size + 1 + 1, 1, none⟩ x1).setCell ⟨w.heap.size + 1 + 1, 2, none⟩ x2).setCell ⟨w.heap.size + 1 + 1, 3, none⟩ x3).setCell ⟨w.heap.size + 1 + 1, 4, none⟩ x4).setCell ⟨w.heap.size + 1 + 1, 5, none⟩ x5).setCell ⟨w.heap.size + 1 + 1, 6, none⟩ x6).setCell ⟨w.heap.size + 1 + 1, 7, none⟩ x7).cell? ⟨w.heap.size, 1, none⟩ = some (.int .i64 q) ∧ ((((((((W.setCell ⟨w.heap.size + 1 + 1, 0, none⟩ x0).setCell ⟨w.heap.size + 1 + 1, 1, none⟩ x1).setCell ⟨w.heap.size + 1 + 1, 2, none⟩ x2).setCell ⟨w.heap.size + 1 + 1, 3, none⟩ x3).setCell ⟨w.heap.size + 1 + 1, 4, none⟩ x4).setCell ⟨w.heap.size + 1 + 1, 5, none⟩ x5).setCell ⟨w.heap.size + 1 + 1, 6, none⟩ x6).setCell ⟨w.heap.size + 1 + 1, 7, none⟩ x7).cell? ⟨w.heap.size, 2, none⟩ = some (.string s) ∧ ((((((((W.setCell ⟨w.heap.size + 1 + 1, 0, none⟩ x0).setCell ⟨w.heap.size + 1 + 1, 1, none⟩ x1).setCell ⟨w.heap.size + 1 + 1, 2, none⟩ x2).setCell ⟨w.heap.size + 1 + 1, 3, none⟩ x3).setCell ⟨w.heap.size + 1 + 1, 4, none⟩ x4).setCell ⟨w.heap.size + 1 + 1, 5, none⟩ x5).setCell ⟨w.heap.size + 1 + 1, 6, none⟩ x6).setCell ⟨w.heap.size + 1 + 1, 7, none⟩ x7).cell? ⟨w.heap.size + 1, 0, none⟩ = some (.int .u8 p') ∧ ((((((((W.setCell ⟨w.heap.size + 1 + 1, 0, none⟩ x0).setCell ⟨w.heap.size + 1 + 1, 1, none⟩ x1).setCell ⟨w.heap.size + 1 + 1, 2, none⟩ x2).setCell ⟨w.heap.size + 1 + 1, 3, none⟩ x3).setCell ⟨w.heap.size + 1 + 1, 4, none⟩ x4).setCell ⟨w.heap.size + 1 + 1, 5, none⟩ x5).setCell ⟨w.heap.size + 1 + 1, 6, none⟩ x6).setCell ⟨w.heap.size + 1 + 1, 7, none⟩ x7).cell? ⟨w.heap.size + 1, 1, none⟩ = some (.int .i64 q') ∧ ((((((((W.setCell ⟨w.heap.size + 1 + 1, 0, none⟩ x0).setCell ⟨w.heap.size + 1 + 1, 1, none⟩ x1).setCell ⟨w.heap.size + 1 + 1, 2, none⟩ x2).setCell ⟨w.heap.size + 1 + 1, 3, none⟩ x3).setCell ⟨w.heap.size + 1 + 1, 4, none⟩ x4).setCell ⟨w.heap.size + 1 + 1, 5, none⟩ x5).setCell ⟨w.heap.size + 1 + 1, 6, none⟩ x6).setCell ⟨w.heap.size + 1 + 1, 7, none⟩ x7).cell? ⟨w.heap.size + 1, 2, none⟩ = some (.string s') :=
  have h1 := far8 (g := w.heap.size + 1 + 1) h.1 (by omega) x0 x1 x2 x3 x4 x5 x6 x7
  have h2 := far8 (g := w.heap.size + 1 + 1) h.2.1 (by omega) x0 x1 x2 x3 x4 x5 x6 x7
  ⟨h1.cell 0, h1.cell 1, h1.cell 2, h2.cell 0, h2.cell 1, h2.cell 2⟩
/-- what is's answer holds -/
def Ih (W : World) (g h : Nat) (v : Val) (er : Int) : Prop := Blk W g 23 (valC v) ∧ Blk W h 24 #[.int .i64 er]
theorem ih_step {W W' : World} {g h : Nat} {v : Val} {er : Int} (k : Ih W g h v er) (hb : Below W.heap.size W W') : Ih W' g h v er := ⟨blk_step k.1 hb, blk_step k.2 hb⟩
abbrev isV (g h : Nat) : Value := .func (.func 32) #[] #[.pointer (some ⟨g, 0, none⟩), .pointer (some ⟨h, 0, none⟩)]
set_option maxRecDepth 100000 in
set_option maxHeartbeats 4000000 in
theorem mkis_any (v : Val) (er : Int) (w : World) : Calls Try.prog 14 #[valV v, .int .i64 er] w fun e w' => ∃ g h, e = .returned (isV g h) ∧ Ih w' g h v er ∧ Below w.heap.size w w' := by
  obtain ⟨p, q, s⟩ := v
  go_enter Try.func14, Try.ntmps14
  go_wp2
  go_ret
  exact ⟨w.heap.size, w.heap.size + 1, rfl, ⟨(Blk.new _ _ _).alloc _, blk_new _ _ _ _ (by simp)⟩, bj one_alloc one_alloc⟩
set_option maxRecDepth 100000 in
set_option maxHeartbeats 4000000 in
theorem isf_yes (v : Val) (er : Int) (g h : Nat) (w : World) (k : Ih w g h v er) : Calls Try.prog 32 #[valV v, .int .i64 er, .pointer (some ⟨g, 0, none⟩), .pointer (some ⟨h, 0, none⟩)] w fun e w' => e = .returned (.bool true) ∧ Below w.heap.size w w' := by
  obtain ⟨p, q, s⟩ := v
  obtain ⟨c0, c1, c2, _⟩ := cell3 (k.1.alloc (.cells #[.int .u8 p, .int .i64 q, .string s] 23))
  have c3 := cell1 (k.2.alloc (.cells #[.int .u8 p, .int .i64 q, .string s] 23))
  go_enter Try.func32, Try.ntmps32
  go_wp2
  go_ret
  exact ⟨rfl, one_alloc⟩
set_option maxRecDepth 100000 in
set_option maxHeartbeats 4000000 in
theorem scof_any (R : Option Addr) (rn rc : Nat) (w : World) : Calls Try.prog 33 #[.slice R rn rc] w fun e w' => ∃ g, e = .returned (scV 43 ⟨g, 0, none⟩ none 0 0) ∧ Blk w' g 42 #[.slice R rn rc] ∧ Below w.heap.size w w' := by
  go_enter Try.func33, Try.ntmps33
  go_wp2
  have HB := blk_new (w.alloc (.cells #[.slice R rn rc] 42)) (w.heap.size + 1) 62 #[.nilFunc, .slice none 0 0] (by simp)
  first
    | exact bodyPost_ret (v := .agg #[.func (.func 43) #[] #[.pointer (some ⟨w.heap.size, 0, none⟩)], .slice none 0 0]) (by simp [results, Try.results33, go_sem]) rfl ⟨w.heap.size, rfl, (Blk.new _ _ _).alloc _, bj one_alloc one_alloc⟩
    | (obtain ⟨e0, e1⟩ := pair_at (blk2 HB (x := .func (.func 43) #[] #[.pointer (some ⟨w.heap.size, 0, none⟩)]) (y := .slice none 0 0))
       exact bodyPost_ret (v := .agg #[.func (.func 43) #[] #[.pointer (some ⟨w.heap.size, 0, none⟩)], .slice none 0 0]) (by simp [results, Try.results33, go_sem, e0, e1]) rfl ⟨w.heap.size, rfl, (((Blk.new _ _ _).alloc _).far (by simp) _).far (by simp) _, ((bj one_alloc one_alloc).setCell (Nat.le_succ _) _).setCell (Nat.le_succ _) _⟩)
set_option maxRecDepth 100000 in
set_option maxHeartbeats 4000000 in
theorem sccol_any (b o : Nat) (n rn rc : Nat) (v : Val) (g : Nat) (w : World) (hg : Blk w g 42 #[.slice (some ⟨b, o, none⟩) rn rc]) (h0 : w.cell? ⟨b, o + n * 3, none⟩ = some (.int .u8 v.1)) (h1 : w.cell? ⟨b, o + n * 3 + 1, none⟩ = some (.int .i64 v.2.1)) (h2 : w.cell? ⟨b, o + n * 3 + 2, none⟩ = some (.string v.2.2)) (hn : n < rn) (hrn : rn ≤ 1000) : Calls Try.prog 43 #[.int .i64 n, .pointer (some ⟨g, 0, none⟩)] w fun e w' => e = .returned (valV v) ∧ Below w.heap.size w w' := by
  obtain ⟨p, q, s⟩ := v
  simp only at h0 h1 h2
  have hc := cell1 (hg.alloc (.cells #[.int .u8 0, .int .i64 0, .string ⟨#[]⟩] 23))
  have hb : b < w.heap.size := World.block_lt_of_cell? w _ h0
  have k0 := (one_alloc (w := w) (o := .cells #[.int .u8 0, .int .i64 0, .string ⟨#[]⟩] 23)).cell (p := ⟨b, o + n * 3, none⟩) hb |>.trans h0
  have k1 := (one_alloc (w := w) (o := .cells #[.int .u8 0, .int .i64 0, .string ⟨#[]⟩] 23)).cell (p := ⟨b, o + n * 3 + 1, none⟩) hb |>.trans h1
  have k2 := (one_alloc (w := w) (o := .cells #[.int .u8 0, .int .i64 0, .string ⟨#[]⟩] 23)).cell (p := ⟨b, o + n * 3 + 2, none⟩) hb |>.trans h2
  have hnI : (n : Int) < rn := by omega
  clear hn hb
  go_enter Try.func43, Try.ntmps43
  go_wp2
  have HB := Blk.new w 23 #[.int .u8 0, .int .i64 0, .string ⟨#[]⟩]
  obtain ⟨e0, e1, e2, _, _, _⟩ := cell3 (blk3_set HB (.int .u8 p) (.int .i64 q) (.string s))
  first
    | exact bodyPost_ret (v := .agg #[.int .u8 p, .int .i64 q, .string s]) (by simp [results, Try.results43, go_sem, e0, e1, e2]) rfl ⟨rfl, below3_set one_alloc _ _ _⟩
    | exact bodyPost_ret (v := .agg #[.int .u8 p, .int .i64 q, .string s]) (by simp [results, Try.results43, go_sem]) rfl ⟨rfl, one_alloc⟩
end Go.Proofs.Ytkgpcodccpckeaa
