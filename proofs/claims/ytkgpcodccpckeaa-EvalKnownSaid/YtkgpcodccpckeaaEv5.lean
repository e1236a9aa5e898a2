/- scope.come of an expression with one kid or two. Conditions: its kids come to a value without an error; it joins no texts, tells nothing of a group. -/
import Derived.Test.YtkgpcodccpckeaaEv4
namespace Go.Proofs.Ytkgpcodccpckeaa
open Go.RowKit
set_option linter.unusedVariables false
set_option linter.unusedSimpArgs false
theorem cell6 {W : World} {g : Nat} {t : TypeId} {a b c d e f : Value} (h : Blk W g t #[a, b, c, d, e, f]) : W.cell? ⟨g, 0, none⟩ = some a ∧ W.cell? ⟨g, 1, none⟩ = some b ∧ W.cell? ⟨g, 2, none⟩ = some c ∧ W.cell? ⟨g, 3, none⟩ = some d ∧ W.cell? ⟨g, 4, none⟩ = some e ∧ W.cell? ⟨g, 5, none⟩ = some f :=
  ⟨h.cell 0, h.cell 1, h.cell 2, h.cell 3, h.cell 4, h.cell 5⟩
theorem cy6 {w W : World} {kf : FuncId} {p : Addr} {R : Option Addr} {rn rc : Nat} {x : Ex} {a1 a2 b1 b2 : Int} {a3 b3 : ByteArray} (h : Cy w kf p R rn rc x (a1, a2, a3) (b1, b2, b3) W) : W.cell? ⟨w.heap.size + 1 + 1 + 1, 0, none⟩ = some (.int .u8 a1) ∧ W.cell? ⟨w.heap.size + 1 + 1 + 1, 1, none⟩ = some (.int .i64 a2) ∧ W.cell? ⟨w.heap.size + 1 + 1 + 1, 2, none⟩ = some (.string a3) ∧ W.cell? ⟨w.heap.size + 1 + 1 + 1, 3, none⟩ = some (.int .u8 b1) ∧ W.cell? ⟨w.heap.size + 1 + 1 + 1, 4, none⟩ = some (.int .i64 b2) ∧ W.cell? ⟨w.heap.size + 1 + 1 + 1, 5, none⟩ = some (.string b3) ∧ Cy w kf p R rn rc x (a1, a2, a3) (b1, b2, b3) W :=
  ⟨h.2.2.2.1.cell 0, h.2.2.2.1.cell 1, h.2.2.2.1.cell 2, h.2.2.2.1.cell 3, h.2.2.2.1.cell 4, h.2.2.2.1.cell 5, h⟩
theorem cy_far {w W : World} {kf : FuncId} {p : Addr} {R : Option Addr} {rn rc : Nat} {x : Ex} {a b : Val} (h : Cy w kf p R rn rc x a b W) {g : Nat} (hg : w.heap.size + 1 + 1 + 1 < g) (k q s : Value) : Cy w kf p R rn rc x a b (((W.setCell ⟨g, 0, none⟩ k).setCell ⟨g, 1, none⟩ q).setCell ⟨g, 2, none⟩ s) :=
  ⟨((h.1.far (by simp; omega) _).far (by simp; omega) _).far (by simp; omega) _, ((h.2.1.far (by simp; omega) _).far (by simp; omega) _).far (by simp; omega) _, ((h.2.2.1.far (by simp; omega) _).far (by simp; omega) _).far (by simp; omega) _, ((h.2.2.2.1.far (by simp; omega) _).far (by simp; omega) _).far (by simp; omega) _, below3_at h.2.2.2.2 (by omega) _ _ _⟩
def doZ (op : Int) (m : Nat) (a b : Val) (rz : Val × Int) : Val × Int :=
  if togB op [a.1, b.1] = false then ((0, 0, ⟨#[]⟩), 150)
  else if op = 5 then (truthV (nullV a), 0)
  else if op = 18 ∨ op = 19 then (logicZ op a b, 0)
  else if ([a, b].take m).any nullV then ((0, 0, ⟨#[]⟩), 0)
  else if comparesB op then (truthV (holdsB op (valCmp a b)), 0)
  else if op = 4 then (truthV (!trueB a), 0)
  else rz
/-- an expression's box, as far as it is read: the op, the kids' slice -/
def Eb (W : World) (g : Nat) (op : Int) (A : Value) : Prop := ∃ cs, Blk W g 29 cs ∧ cs[0]? = some (.int .u8 op) ∧ cs[7]? = some A
theorem eb_step {W W' : World} {g : Nat} {op : Int} {A : Value} (h : Eb W g op A) (hb : Below W.heap.size W W') : Eb W' g op A := by
  obtain ⟨cs, h1, h2, h3⟩ := h
  exact ⟨cs, blk_step h1 hb, h2, h3⟩
theorem eb_cells {W : World} {g : Nat} {op : Int} {A : Value} (h : Eb W g op A) : W.cell? ⟨g, 0, none⟩ = some (.int .u8 op) ∧ W.cell? ⟨g, 7, none⟩ = some A := by
  obtain ⟨cs, h1, h2, h3⟩ := h
  exact ⟨(h1.cell 0).trans h2, (h1.cell 7).trans h3⟩
theorem eb_far {W : World} {g g' : Nat} {op : Int} {A : Value} (h : Eb W g op A) (hg : g ≠ g') (i : Nat) (u : Value) : Eb (W.setCell ⟨g', i, none⟩ u) g op A := by
  obtain ⟨cs, h1, h2, h3⟩ := h
  exact ⟨cs, h1.far hg u, h2, h3⟩
/-- what stands behind both kids: the op, the kids' slice, the two values, the answer's block, the array of both -/
def Cq (w : World) (op : Int) (m c bb o : Nat) (a b : Val) (g h : Nat) (W : World) : Prop :=
  Eb W (w.heap.size + 1) op (.slice (some ⟨bb, o, none⟩) m c) ∧ (w.heap.size + 1 + 1 < g ∧ w.heap.size + 1 + 1 < h) ∧ Blk W g 23 (valC a) ∧ Blk W h 23 (valC b) ∧ Blk W (w.heap.size + 1 + 1) 23 #[.int .u8 0, .int .i64 0, .string ⟨#[]⟩] ∧ Blk W (w.heap.size + 1 + 1 + 1) 71 #[.int .u8 a.1, .int .i64 a.2.1, .string a.2.2, .int .u8 b.1, .int .i64 b.2.1, .string b.2.2] ∧ w.heap.size + 1 < W.heap.size ∧ Below w.heap.size w W
theorem cq_below {w W W' : World} {op : Int} {m c bb o : Nat} {a b : Val} {g h : Nat} (k : Cq w op m c bb o a b g h W) (hb : Below W.heap.size W W') : Cq w op m c bb o a b g h W' :=
  ⟨eb_step k.1 hb, k.2.1, blk_step k.2.2.1 hb, blk_step k.2.2.2.1 hb, blk_step k.2.2.2.2.1 hb, blk_step k.2.2.2.2.2.1 hb, Nat.lt_of_lt_of_le k.2.2.2.2.2.2.1 hb.size, bj k.2.2.2.2.2.2.2 hb⟩
theorem cq_alloc {w W : World} {op : Int} {m c bb o : Nat} {a b : Val} {g h : Nat} (k : Cq w op m c bb o a b g h W) (q : Obj) : Cq w op m c bb o a b g h (W.alloc q) := cq_below k one_alloc
theorem cq_drew {w W : World} {op : Int} {m c bb o : Nat} {a b : Val} {g h : Nat} (k : Cq w op m c bb o a b g h W) : Cq w op m c bb o a b g h W.drew := ⟨by obtain ⟨cs, h1, h2, h3⟩ := k.1; exact ⟨cs, h1.drew, h2, h3⟩, k.2.1, k.2.2.1.drew, k.2.2.2.1.drew, k.2.2.2.2.1.drew, k.2.2.2.2.2.1.drew, k.2.2.2.2.2.2.1, k.2.2.2.2.2.2.2.drew⟩
theorem cq_cells {w W : World} {op : Int} {m c bb o : Nat} {p q p' q' : Int} {s s' : ByteArray} {g h : Nat} (k : Cq w op m c bb o (p, q, s) (p', q', s') g h W) : W.cell? ⟨w.heap.size + 1, 0, none⟩ = some (.int .u8 op) ∧ W.cell? ⟨w.heap.size + 1, 7, none⟩ = some (.slice (some ⟨bb, o, none⟩) m c) ∧ W.cell? ⟨g, 0, none⟩ = some (.int .u8 p) ∧ W.cell? ⟨g, 1, none⟩ = some (.int .i64 q) ∧ W.cell? ⟨g, 2, none⟩ = some (.string s) ∧ W.cell? ⟨h, 0, none⟩ = some (.int .u8 p') ∧ W.cell? ⟨h, 1, none⟩ = some (.int .i64 q') ∧ W.cell? ⟨h, 2, none⟩ = some (.string s') ∧ W.cell? ⟨w.heap.size + 1 + 1, 0, none⟩ = some (.int .u8 0) ∧ W.cell? ⟨w.heap.size + 1 + 1, 1, none⟩ = some (.int .i64 0) ∧ W.cell? ⟨w.heap.size + 1 + 1, 2, none⟩ = some (.string ⟨#[]⟩) ∧ W.frozen? ⟨w.heap.size + 1 + 1, 0, none⟩ = false ∧ W.frozen? ⟨w.heap.size + 1 + 1, 1, none⟩ = false ∧ W.frozen? ⟨w.heap.size + 1 + 1, 2, none⟩ = false :=
  ⟨(eb_cells k.1).1, (eb_cells k.1).2, k.2.2.1.cell 0, k.2.2.1.cell 1, k.2.2.1.cell 2, k.2.2.2.1.cell 0, k.2.2.2.1.cell 1, k.2.2.2.1.cell 2, k.2.2.2.2.1.cell 0, k.2.2.2.2.1.cell 1, k.2.2.2.2.1.cell 2, k.2.2.2.2.1.frozen 0, k.2.2.2.2.1.frozen 1, k.2.2.2.2.1.frozen 2⟩
theorem cq_call {w W : World} {op : Int} {m c bb o : Nat} {a b : Val} {g h : Nat} {f : FuncId} {args : Array Value} {v : Value} (k : Cq w op m c bb o a b g h W) (hc : Calls Try.prog f args W fun e w' => e = .returned v ∧ Below W.heap.size W w') : Calls Try.prog f args W fun e w' => e = .returned v ∧ Cq w op m c bb o a b g h w' :=
  hc.mono fun e w' he => ⟨he.1, cq_below k he.2⟩
theorem cq_S {w W : World} {op : Int} {m c bb o : Nat} {p q p' q' : Int} {s s' : ByteArray} {g h : Nat} (k : Cq w op m c bb o (p, q, s) (p', q', s') g h W) : W.cell? ⟨w.heap.size + 1, 0, none⟩ = some (.int .u8 op) ∧ W.cell? ⟨g, 0, none⟩ = some (.int .u8 p) ∧ W.cell? ⟨g, 1, none⟩ = some (.int .i64 q) ∧ W.cell? ⟨g, 2, none⟩ = some (.string s) ∧ W.cell? ⟨h, 0, none⟩ = some (.int .u8 p') ∧ W.cell? ⟨h, 1, none⟩ = some (.int .i64 q') ∧ W.cell? ⟨h, 2, none⟩ = some (.string s') :=
  ⟨(eb_cells k.1).1, k.2.2.1.cell 0, k.2.2.1.cell 1, k.2.2.1.cell 2, k.2.2.2.1.cell 0, k.2.2.2.1.cell 1, k.2.2.2.1.cell 2⟩
theorem cq_S2 {w W : World} {op : Int} {m c bb o : Nat} {p q p' q' : Int} {s s' : ByteArray} {g h : Nat} (k : Cq w op m c bb o (p, q, s) (p', q', s') g h W) (x y z : Value) : (((W.setCell ⟨w.heap.size + 1 + 1, 0, none⟩ x).setCell ⟨w.heap.size + 1 + 1, 1, none⟩ y).setCell ⟨w.heap.size + 1 + 1, 2, none⟩ z).cell? ⟨w.heap.size + 1, 0, none⟩ = some (.int .u8 op) ∧ (((W.setCell ⟨w.heap.size + 1 + 1, 0, none⟩ x).setCell ⟨w.heap.size + 1 + 1, 1, none⟩ y).setCell ⟨w.heap.size + 1 + 1, 2, none⟩ z).cell? ⟨g, 0, none⟩ = some (.int .u8 p) ∧ (((W.setCell ⟨w.heap.size + 1 + 1, 0, none⟩ x).setCell ⟨w.heap.size + 1 + 1, 1, none⟩ y).setCell ⟨w.heap.size + 1 + 1, 2, none⟩ z).cell? ⟨g, 1, none⟩ = some (.int .i64 q) ∧ (((W.setCell ⟨w.heap.size + 1 + 1, 0, none⟩ x).setCell ⟨w.heap.size + 1 + 1, 1, none⟩ y).setCell ⟨w.heap.size + 1 + 1, 2, none⟩ z).cell? ⟨g, 2, none⟩ = some (.string s) ∧ (((W.setCell ⟨w.heap.size + 1 + 1, 0, none⟩ x).setCell ⟨w.heap.size + 1 + 1, 1, none⟩ y).setCell ⟨w.heap.size + 1 + 1, 2, none⟩ z).cell? ⟨h, 0, none⟩ = some (.int .u8 p') ∧ (((W.setCell ⟨w.heap.size + 1 + 1, 0, none⟩ x).setCell ⟨w.heap.size + 1 + 1, 1, none⟩ y).setCell ⟨w.heap.size + 1 + 1, 2, none⟩ z).cell? ⟨h, 1, none⟩ = some (.int .i64 q') ∧ (((W.setCell ⟨w.heap.size + 1 + 1, 0, none⟩ x).setCell ⟨w.heap.size + 1 + 1, 1, none⟩ y).setCell ⟨w.heap.size + 1 + 1, 2, none⟩ z).cell? ⟨h, 2, none⟩ = some (.string s') := by
  have hg := k.2.1.1
  have hh := k.2.1.2
  have k1 := (((k.2.2.1.far (p := ⟨w.heap.size + 1 + 1, 0, none⟩) (by simp; omega) x).far (p := ⟨w.heap.size + 1 + 1, 1, none⟩) (by simp; omega) y).far (p := ⟨w.heap.size + 1 + 1, 2, none⟩) (by simp; omega) z)
  have k2 := (((k.2.2.2.1.far (p := ⟨w.heap.size + 1 + 1, 0, none⟩) (by simp; omega) x).far (p := ⟨w.heap.size + 1 + 1, 1, none⟩) (by simp; omega) y).far (p := ⟨w.heap.size + 1 + 1, 2, none⟩) (by simp; omega) z)
  exact ⟨(eb_cells (eb_far (eb_far (eb_far k.1 (by omega) 0 x) (by omega) 1 y) (by omega) 2 z)).1, k1.cell 0, k1.cell 1, k1.cell 2, k2.cell 0, k2.cell 1, k2.cell 2⟩
theorem vals_arr {W : World} {g : Nat} {t : TypeId} {x y : Val} {m : Nat} (h : Blk W g t #[.int .u8 x.1, .int .i64 x.2.1, .string x.2.2, .int .u8 y.1, .int .i64 y.2.1, .string y.2.2]) : Vals W W.heap.size (some ⟨g, 0, none⟩) ([x, y].take m) := by
  refine .inr ⟨g, 0, rfl, h.lt, fun j z hz => ?_⟩
  rw [List.getElem?_take] at hz
  split at hz
  · match j, hz with
    | 0, hz => simp at hz; subst hz; exact ⟨h.cell 0, h.cell 1, h.cell 2⟩
    | 1, hz => simp at hz; subst hz; exact ⟨h.cell 3, h.cell 4, h.cell 5⟩
    | j + 2, hz => simp at hz
  · cases hz
set_option maxRecDepth 100000 in
set_option maxHeartbeats 16000000 in
theorem come_node (kf : FuncId) (p : Addr) (R : Option Addr) (rn rc : Nat) (op : Int) (v : Val) (tb nm : ByteArray) (n : Int) (A : Option Addr) (m c : Nat) (ks : List Ex) (a b : Val) (rz : Val × Int) (w : World)
    (h1 : 3 ≤ op) (h2 : op ≤ 19) (h11 : ¬ op = 11) (hm : m = ks.length) (hm2 : (m = 1 ∧ b = (0, 0, ⟨#[]⟩)) ∨ m = 2) (hK : Kids w w.heap.size A ks)
    (hk0 : ∀ x, ks[0]? = some x → ∀ W, Below w.heap.size w W → Calls Try.prog 34 #[scV kf p R rn rc, exV x] W fun e w' => e = .returned (.tuple #[valV a, .int .i64 0]) ∧ Below W.heap.size W w')
    (hk1 : ∀ x, ks[1]? = some x → ∀ W, Below w.heap.size w W → Calls Try.prog 34 #[scV kf p R rn rc, exV x] W fun e w' => e = .returned (.tuple #[valV b, .int .i64 0]) ∧ Below W.heap.size W w')
    (hr : (¬ op = 4 ∧ ¬ op = 5 ∧ ¬ op = 18 ∧ ¬ op = 19 ∧ comparesB op = false) → ∀ W, Calls Try.prog 52 #[.int .u8 op, .int .i64 a.2.1, .int .i64 b.2.1] W fun e w' => e = .returned (.tuple #[valV rz.1, .int .i64 rz.2]) ∧ Below W.heap.size W w') :
    Calls Try.prog 34 #[scV kf p R rn rc, exV ⟨op, v, tb, nm, n, A, m, c⟩] w fun e w' => e = .returned (.tuple #[valV (doZ op m a b rz).1, .int .i64 (doZ op m a b rz).2]) ∧ Below w.heap.size w w' := by
  obtain ⟨y1, y2, y3, ye, hZ⟩ : ∃ y1 y2 y3 ye, doZ op m a b rz = ((y1, y2, y3), ye) := ⟨_, _, _, _, rfl⟩
  rw [hZ]
  have HZ := Lib.hid hZ
  clear hZ
  have hgc := fun W => grouped_any op W
  rw [show groupedB op = false by unfold groupedB; rw [decide_eq_false (by omega)]; rfl] at hgc
  have HG := Lib.hid hgc
  have e1 := beq_no (a := op) (b := 1) (by omega)
  have e2 := beq_no (a := op) (b := 2) (by omega)
  obtain ⟨bb, o, rfl, hbl, hc⟩ := kids_get hK (fun e => by rw [e] at hm; simp at hm; omega)
  have hm1 : 1 ≤ m ∧ m ≤ 2 := by omega
  have hc0 : ∃ x, ks[0]? = some x ∧ Cells8 w bb o x := ⟨_, List.getElem?_eq_getElem (by omega), by have h := hc 0 _ (List.getElem?_eq_getElem (by omega)); simpa using h⟩
  have hc1 : 1 < m → ∃ x, ks[1]? = some x ∧ Cells8 w bb (o + 8) x := fun hlt => ⟨_, List.getElem?_eq_getElem (by omega), by have h := hc 1 _ (List.getElem?_eq_getElem (by omega)); simpa using h⟩
  obtain ⟨x0, g0, hx0⟩ := hc0
  have HK0 := Lib.hid (hk0 x0 g0)
  have HX0 := Lib.hid hx0
  have HK1 : Hid (1 < m → ∃ x, Cells8 w bb (o + 8) x ∧ ∀ W, Below w.heap.size w W → Calls Try.prog 34 #[scV kf p R rn rc, exV x] W fun e w' => e = .returned (.tuple #[valV b, .int .i64 0]) ∧ Below W.heap.size W w') := Lib.hid fun hlt => by
    obtain ⟨x, g, h⟩ := hc1 hlt
    exact ⟨x, h, hk1 x g⟩
  have HR := Lib.hid hr
  have HM := Lib.hid hm2
  have hmI : (1 : Int) ≤ m := by omega
  have hmJ : (m : Int) ≤ 2 := by omega
  have HO := Lib.hid (And.intro h1 (And.intro h2 h11))
  clear hgc hc hK hk0 hk1 hm hc1 g0 hx0 hr hm2 h1 h2 h11
  go_enter Try.func34, Try.ntmps34
  go_wp2_with fail
  refine (HG.out _).mono ?_
  rintro e w2 ⟨rfl, rfl⟩
  have hC0 := cy_new w kf p R rn rc ⟨op, v, tb, nm, n, some ⟨bb, o, none⟩, m, c⟩
  have HC0 := Lib.hid hC0
  clear hC0
  go_upto_block 1 with fail
  go_cut [40] (fun s40 wx => Cy w kf p R rn rc ⟨op, v, tb, nm, n, some ⟨bb, o, none⟩, m, c⟩ a b wx)
  case first =>
    obtain ⟨a1, a2, a3⟩ := a
    obtain ⟨b1, b2, b3⟩ := b
    go_wp2_with fail
    go_loopw [40] (fun i wr => (i = .int .i64 0 ∧ Cy w kf p R rn rc ⟨op, v, tb, nm, n, some ⟨bb, o, none⟩, m, c⟩ (0, 0, ⟨#[]⟩) (0, 0, ⟨#[]⟩) wr) ∨ (i = .int .i64 1 ∧ Cy w kf p R rn rc ⟨op, v, tb, nm, n, some ⟨bb, o, none⟩, m, c⟩ (a1, a2, a3) (0, 0, ⟨#[]⟩) wr) ∨ (i = .int .i64 2 ∧ m = 2 ∧ Cy w kf p R rn rc ⟨op, v, tb, nm, n, some ⟨bb, o, none⟩, m, c⟩ (a1, a2, a3) (b1, b2, b3) wr)) (fun i _ => 2 - (intOf i).toNat)
    case atStart => exact .inl ⟨rfl, HC0.out⟩
    case round =>
      rcases hrel with ⟨rfl, hy⟩ | ⟨rfl, hy⟩ | ⟨rfl, hm2, hy⟩
      · obtain ⟨c0, c1, c2, c3, c4, c5, c6, c7⟩ := cells8_below HX0.out hy.2.2.2.2 hbl
        obtain ⟨op', v', tb', nm', n', A', m', c'⟩ := x0
        simp only at c0 c1 c2 c3 c4 c5 c6 c7
        obtain ⟨s0, s1⟩ := pair_at (cy_alloc hy (.cells (exC ⟨op', v', tb', nm', n', A', m', c'⟩) 29)).1
        have HY := Lib.hid hy
        clear hy
        go_wp2_with fail
        refine (HK0.out _ (HY.out.2.2.2.2.alloc HY.out.2.2.2.2.size _)).mono ?_
        rintro e w5 ⟨rfl, hb5⟩
        have hy := cy_alloc (cy_below HY.out (bj one_alloc hb5)) (.cells #[.int .u8 a1, .int .i64 a2, .string a3] 23)
        obtain ⟨r0, r1, r2, r3, r4, r5⟩ := cell6 hy.2.2.2.1
        have f0 := hy.2.2.2.1.frozen 0
        have f1 := hy.2.2.2.1.frozen 1
        have f2 := hy.2.2.2.1.frozen 2
        have HY5 := Lib.hid (cy_set0 hy a1 a2 a3)
        clear hy hb5 HY
        go_wp2
        go_roundw
        case rel => exact .inr (.inl ⟨by first | rfl | go_num, HY5.out⟩)
        case measure => simp [intOf]
      · by_cases hm1 : 1 < m
        · have hm2 : m = 2 := by omega
          obtain ⟨x1, hx1, hk1⟩ := HK1.out hm1
          obtain ⟨c0, c1, c2, c3, c4, c5, c6, c7⟩ := cells8_below hx1 hy.2.2.2.2 hbl
          obtain ⟨op', v', tb', nm', n', A', m', c'⟩ := x1
          simp only at c0 c1 c2 c3 c4 c5 c6 c7
          obtain ⟨s0, s1⟩ := pair_at (cy_alloc hy (.cells (exC ⟨op', v', tb', nm', n', A', m', c'⟩) 29)).1
          have HY := Lib.hid hy
          have HK := Lib.hid hk1
          have HM2 := Lib.hid hm2
          have hmI1 : (1 : Int) < m := by omega
          clear hy hx1 hk1 hm1 hm2
          go_wp2_with fail
          refine (HK.out _ (HY.out.2.2.2.2.alloc HY.out.2.2.2.2.size _)).mono ?_
          rintro e w5 ⟨rfl, hb5⟩
          have hy := cy_alloc (cy_below HY.out (bj one_alloc hb5)) (.cells #[.int .u8 b1, .int .i64 b2, .string b3] 23)
          obtain ⟨r0, r1, r2, r3, r4, r5⟩ := cell6 hy.2.2.2.1
          have f0 := hy.2.2.2.1.frozen 3
          have f1 := hy.2.2.2.1.frozen 4
          have f2 := hy.2.2.2.1.frozen 5
          have HY5 := Lib.hid (cy_set1 hy b1 b2 b3)
          clear hy hb5 HY
          go_wp2
          go_roundw
          case rel => exact .inr (.inr ⟨by first | rfl | go_num, HM2.out, HY5.out⟩)
          case measure => simp [intOf]
        · have hy2 : Cy w kf p R rn rc ⟨op, v, tb, nm, n, some ⟨bb, o, none⟩, m, c⟩ (a1, a2, a3) (b1, b2, b3) wr := by
            rcases HM.out with ⟨_, hb⟩ | h
            · rw [hb]; exact hy
            · omega
          have HY := Lib.hid hy2
          have hmI1 : (m : Int) ≤ 1 := by omega
          clear hy hy2 hm1
          go_wp2_with fail
          go_meet
          exact HY.out
      · have HY := Lib.hid hy
        subst hm2
        clear hy
        go_wp2_with fail
        go_meet
        exact HY.out
  case rest =>
    have HY := Lib.hid hcut
    clear hcut
    go_upto_region 16 with fail
    go_cut [11, 12] (fun s11 s12 wx => ∃ g h, s11 = .pointer (some ⟨g, 0, none⟩) ∧ s12 = .pointer (some ⟨h, 0, none⟩) ∧ (w.heap.size + 1 + 1 < g ∧ w.heap.size + 1 + 1 < h) ∧ Blk wx g 23 (valC a) ∧ Blk wx h 23 (valC b) ∧ Cy w kf p R rn rc ⟨op, v, tb, nm, n, some ⟨bb, o, none⟩, m, c⟩ a b wx)
    case first =>
      obtain ⟨a1, a2, a3⟩ := a
      obtain ⟨b1, b2, b3⟩ := b
      have HD := Lib.hid (cy_drew HY.out)
      have hlt : w.heap.size + 1 + 1 + 1 < wc.heap.size := HY.out.2.2.2.1.lt
      go_wp2_with fail
      go_region_held3 (fun W => W.cell? ⟨w.heap.size + 1 + 1 + 1, 0, none⟩ = some (.int .u8 a1) ∧ W.cell? ⟨w.heap.size + 1 + 1 + 1, 1, none⟩ = some (.int .i64 a2) ∧ W.cell? ⟨w.heap.size + 1 + 1 + 1, 2, none⟩ = some (.string a3) ∧ W.cell? ⟨w.heap.size + 1 + 1 + 1, 3, none⟩ = some (.int .u8 b1) ∧ W.cell? ⟨w.heap.size + 1 + 1 + 1, 4, none⟩ = some (.int .i64 b2) ∧ W.cell? ⟨w.heap.size + 1 + 1 + 1, 5, none⟩ = some (.string b3) ∧ Cy w kf p R rn rc ⟨op, v, tb, nm, n, some ⟨bb, o, none⟩, m, c⟩ (a1, a2, a3) (b1, b2, b3) W)
        (first
          | exact cy6 HD.out
          | exact cy6 (cy_alloc HD.out _)
          | exact cy6 (cy_alloc (cy_alloc HD.out _) _)
          | exact cy6 (cy_far (cy_alloc HD.out _) (by simp; omega) _ _ _)
          | exact cy6 (cy_far (cy_alloc (cy_alloc HD.out _) _) (by simp; omega) _ _ _)
          | exact cy6 (cy_far (cy_far (cy_alloc (cy_alloc HD.out _) _) (by simp; omega) _ _ _) (by simp; omega) _ _ _))
        (fail)
      all_goals
        go_wp2_with fail
        go_meet
        first
          | exact ⟨_, _, rfl, rfl, ⟨by omega, by omega⟩, ((Blk.new _ _ _).alloc _).drew, (blk_new _ _ _ _ (by simp)).drew, cy_drew (cy_alloc (cy_alloc HY.out _) _)⟩
          | exact ⟨_, _, rfl, rfl, ⟨by omega, by omega⟩, (blk_new _ _ _ _ (by simp)).drew, ((Blk.new _ _ _).alloc _).drew, cy_drew (cy_alloc (cy_alloc HY.out _) _)⟩
    case rest =>
      obtain ⟨g, h, rfl, rfl, hgh, ha, hb, hy⟩ := hcut
      have hq : Cq w op m c bb o a b g h wc := ⟨⟨_, hy.2.1, rfl, rfl⟩, hgh, ha, hb, hy.2.2.1, hy.2.2.2.1, hy.2.1.lt, hy.2.2.2.2⟩
      clear hgh ha hb hy HY HK0 HX0 HK1 HC0 HG hmI hmJ hbl e1 e2
      obtain ⟨o1, o2, o3⟩ := HO.out
      have hm2 := HM.out
      clear HO HM
      obtain ⟨a1, a2, a3⟩ := a
      obtain ⟨b1, b2, b3⟩ := b
      have ht : ∀ W G, W.heap.size = G → Cq w op m c bb o (a1, a2, a3) (b1, b2, b3) g h W → Calls Try.prog 42 #[.int .u8 op, .slice (some ⟨G, 0, none⟩) 2 2] (W.alloc (.cells #[.int .u8 a1, .int .u8 b1] 5)) fun e w' => e = .returned (.bool (togB op [a1, b1])) ∧ Cq w op m c bb o (a1, a2, a3) (b1, b2, b3) g h w' := fun W G hG k => by
        subst hG
        refine (together_any op W.heap.size 0 2 2 a1 [b1] (W.alloc (.cells #[.int .u8 a1, .int .u8 b1] 5)) o1 o2 (u8s_blk (Blk.new _ _ _) fun j y hy => ?_) rfl (by omega)).mono fun e w' he => ⟨he.1, by rw [← he.2]; exact cq_alloc k _⟩
        match j, hy with
        | 0, hy => simp at hy; subst hy; rfl
        | 1, hy => simp at hy; subst hy; rfl
        | j + 2, hy => simp at hy
      have hn1 : ∀ W G, W.heap.size = G → Cq w op m c bb o (a1, a2, a3) (b1, b2, b3) g h W → Calls Try.prog 46 #[.slice (some ⟨G, 0, none⟩) 1 1] (W.alloc (.cells #[.int .u8 a1, .int .i64 a2, .string a3] 23)) fun e w' => e = .returned (.bool (nullV (a1, a2, a3))) ∧ Cq w op m c bb o (a1, a2, a3) (b1, b2, b3) g h w' := fun W G hG k => by
        subst hG
        have h1 := null_any (some ⟨W.heap.size, 0, none⟩) [(a1, a2, a3)] 1 1 (W.alloc (.cells (valC (a1, a2, a3)) 23)) (vals_of1 (Blk.new _ _ _)) rfl (by omega)
        rw [show [(a1, a2, a3)].any nullV = nullV (a1, a2, a3) by simp] at h1
        exact h1.mono fun e w' he => And.intro he.1 (cq_below (cq_alloc k _) he.2)
      have hnm : ∀ W, Cq w op m c bb o (a1, a2, a3) (b1, b2, b3) g h W → Calls Try.prog 46 #[.slice (some ⟨w.heap.size + 1 + 1 + 1, 0, none⟩) m 2] W fun e w' => e = .returned (.bool (([(a1, a2, a3), (b1, b2, b3)].take m).any nullV)) ∧ Cq w op m c bb o (a1, a2, a3) (b1, b2, b3) g h w' := fun W k =>
        cq_call k (null_any (some ⟨w.heap.size + 1 + 1 + 1, 0, none⟩) ([(a1, a2, a3), (b1, b2, b3)].take m) m 2 W (vals_arr k.2.2.2.2.2.1) (by rw [List.length_take]; simp; omega) (by omega))
      have HC := Lib.hid (fun W (k : Cq w op m c bb o (a1, a2, a3) (b1, b2, b3) g h W) => (compares_any op W).mono fun e w' he => And.intro he.1 (show Cq w op m c bb o (a1, a2, a3) (b1, b2, b3) g h w' by rw [← he.2]; exact k))
      have HTT := Lib.hid (fun W (k : Cq w op m c bb o (a1, a2, a3) (b1, b2, b3) g h W) => cq_call k (truth_true W))
      have HTF := Lib.hid (fun W (k : Cq w op m c bb o (a1, a2, a3) (b1, b2, b3) g h W) => cq_call k (truth_false W))
      have hmI : (1 : Int) ≤ m := by omega
      have hmJ : (m : Int) ≤ 2 := by omega
      obtain ⟨c0, c7, ca0, ca1, ca2, cb0, cb1, cb2, z0, z1, z2, f0, f1, f2⟩ := cq_cells hq
      have HQ := Lib.hid hq
      clear hq
      cases htg : togB op [a1, b1]
      · have hz := HZ.out
        rw [show doZ op m (a1, a2, a3) (b1, b2, b3) rz = ((0, 0, ⟨#[]⟩), 150) by unfold doZ; rw [if_pos htg]] at hz
        simp only [Prod.mk.injEq] at hz
        obtain ⟨⟨rfl, rfl, rfl⟩, rfl⟩ := hz
        clear HZ
        rw [htg] at ht
        have HT := Lib.hid ht
        clear ht hn1 hnm htg o1 o2 o3 hm2
        go_wp2_with fail
        refine (HT.out _ _ (by first | rfl | simp) HQ.out).mono ?_
        rintro e w5 ⟨rfl, hq⟩
        obtain ⟨c0, c7, ca0, ca1, ca2, cb0, cb1, cb2, z0, z1, z2, f0, f1, f2⟩ := cq_cells hq
        have HQ := Lib.hid hq
        clear hq
        go_wp2
        obtain ⟨e0, e1, e2, _, _, _⟩ := cell3 (blk3_set HQ.out.2.2.2.2.1 (.int .u8 0) (.int .i64 0) (.string ⟨#[]⟩))
        exact bodyPost_ret (v := .tuple #[.agg #[.int .u8 0, .int .i64 0, .string ⟨#[]⟩], .int .i64 150]) (by simp [results, Try.results34, go_sem, e0, e1, e2]) rfl ⟨rfl, below3_at HQ.out.2.2.2.2.2.2.2 (by omega) _ _ _⟩
      · rw [htg] at ht
        have HT := Lib.hid ht
        clear ht
        have hz0 : doZ op m (a1, a2, a3) (b1, b2, b3) rz = if op = 5 then (truthV (nullV (a1, a2, a3)), 0) else if op = 18 ∨ op = 19 then (logicZ op (a1, a2, a3) (b1, b2, b3), 0) else if ([(a1, a2, a3), (b1, b2, b3)].take m).any nullV then ((0, 0, ⟨#[]⟩), 0) else if comparesB op then (truthV (holdsB op (valCmp (a1, a2, a3) (b1, b2, b3))), 0) else if op = 4 then (truthV (!trueB (a1, a2, a3)), 0) else rz := by
          unfold doZ
          rw [if_neg (by rw [htg]; simp)]
        have hz := HZ.out
        rw [hz0] at hz
        clear hz0 htg HZ
        by_cases p5 : op = 5
        · subst p5
          rw [if_pos rfl] at hz
          clear hnm o1 o2 o3 hm2
          generalize nullV (a1, a2, a3) = nv at *
          have HN := Lib.hid hn1
          clear hn1
          cases nv
          all_goals
            unfold truthV at hz
            simp only [↓reduceIte, Bool.false_eq_true, Bool.not_true, Bool.not_false, Prod.mk.injEq] at hz
            obtain ⟨⟨rfl, rfl, rfl⟩, rfl⟩ := hz
            go_wp2_with fail
            refine (HT.out _ _ (by first | rfl | simp) HQ.out).mono ?_
            rintro e w5 ⟨rfl, hq⟩
            obtain ⟨c0, c7, ca0, ca1, ca2, cb0, cb1, cb2, z0, z1, z2, f0, f1, f2⟩ := cq_cells hq
            have HQ := Lib.hid hq
            clear hq
            go_wp2_with fail
            refine (HN.out _ _ (by first | rfl | simp) HQ.out).mono ?_
            rintro e w5 ⟨rfl, hq⟩
            obtain ⟨c0, c7, ca0, ca1, ca2, cb0, cb1, cb2, z0, z1, z2, f0, f1, f2⟩ := cq_cells hq
            have HQ := Lib.hid hq
            clear hq
            go_wp2_with fail
            first
              | (with_reducible refine (HTT.out _ HQ.out).mono ?_)
              | (with_reducible refine (HTF.out _ HQ.out).mono ?_)
            rintro e w5 ⟨rfl, hq⟩
            obtain ⟨c0, c7, ca0, ca1, ca2, cb0, cb1, cb2, z0, z1, z2, f0, f1, f2⟩ := cq_cells hq
            have HQ := Lib.hid hq
            clear hq
            go_wp2
            first
              | (obtain ⟨e0, e1, e2, _, _, _⟩ := cell3 (blk3_set HQ.out.2.2.2.2.1 (.int .u8 1) (.int .i64 1) (.string ⟨#[]⟩)); exact bodyPost_ret (v := .tuple #[.agg #[.int .u8 1, .int .i64 1, .string ⟨#[]⟩], .int .i64 0]) (by simp [results, Try.results34, go_sem, e0, e1, e2]) rfl ⟨rfl, below3_at HQ.out.2.2.2.2.2.2.2 (by omega) _ _ _⟩)
              | (obtain ⟨e0, e1, e2, _, _, _⟩ := cell3 (blk3_set HQ.out.2.2.2.2.1 (.int .u8 1) (.int .i64 0) (.string ⟨#[]⟩)); exact bodyPost_ret (v := .tuple #[.agg #[.int .u8 1, .int .i64 0, .string ⟨#[]⟩], .int .i64 0]) (by simp [results, Try.results34, go_sem, e0, e1, e2]) rfl ⟨rfl, below3_at HQ.out.2.2.2.2.2.2.2 (by omega) _ _ _⟩)
        · rw [if_neg p5] at hz
          have q5 := beq_no p5
          clear p5 hn1
          by_cases pl : op = 18 ∨ op = 19
          · rw [if_pos pl] at hz
            have HL := Lib.hid (fun W (k : Cq w op m c bb o (a1, a2, a3) (b1, b2, b3) g h W) => cq_call k (logic_any op (a1, a2, a3) (b1, b2, b3) W pl))
            generalize logicZ op (a1, a2, a3) (b1, b2, b3) = lz at *
            obtain ⟨l1, l2, l3⟩ := lz
            simp only [Prod.mk.injEq] at hz
            obtain ⟨⟨rfl, rfl, rfl⟩, rfl⟩ := hz
            clear hnm o1 o2 o3 hm2
            rcases pl with rfl | rfl
            all_goals
              clear q5
              go_wp2_with fail
              refine (HT.out _ _ (by first | rfl | simp) HQ.out).mono ?_
              rintro e w5 ⟨rfl, hq⟩
              obtain ⟨c0, c7, ca0, ca1, ca2, cb0, cb1, cb2, z0, z1, z2, f0, f1, f2⟩ := cq_cells hq
              have HQ := Lib.hid hq
              clear hq
              go_wp2_with fail
              refine (HL.out _ HQ.out).mono ?_
              rintro e w5 ⟨rfl, hq⟩
              obtain ⟨c0, c7, ca0, ca1, ca2, cb0, cb1, cb2, z0, z1, z2, f0, f1, f2⟩ := cq_cells hq
              have HQ := Lib.hid hq
              clear hq
              go_wp2
              obtain ⟨e0, e1, e2, _, _, _⟩ := cell3 (blk3_set HQ.out.2.2.2.2.1 (.int .u8 l1) (.int .i64 l2) (.string l3))
              exact bodyPost_ret (v := .tuple #[.agg #[.int .u8 l1, .int .i64 l2, .string l3], .int .i64 0]) (by simp [results, Try.results34, go_sem, e0, e1, e2]) rfl ⟨rfl, below3_at HQ.out.2.2.2.2.2.2.2 (by omega) _ _ _⟩
          · rw [if_neg pl] at hz
            have q18 := beq_no (a := op) (b := 18) (by omega)
            have q19 := beq_no (a := op) (b := 19) (by omega)
            clear pl
            generalize hnn : ([(a1, a2, a3), (b1, b2, b3)].take m).any nullV = nn at *
            clear hnn
            have HN := Lib.hid hnm
            clear hnm hm2
            cases nn
            · simp only [Bool.false_eq_true, ↓reduceIte] at hz
              cases hcm : comparesB op
              · rw [hcm] at hz
                simp only [Bool.false_eq_true, ↓reduceIte] at hz
                rw [hcm] at HC
                by_cases p4 : op = 4
                · clear hcm HR
                  subst p4
                  rw [if_pos rfl] at hz
                  have HV := Lib.hid (fun W (k : Cq w 4 m c bb o (a1, a2, a3) (b1, b2, b3) g h W) => cq_call k (vtrue_any (a1, a2, a3) W))
                  generalize trueB (a1, a2, a3) = tv at *
                  clear o1 o2 o3 q5 q18 q19
                  cases tv
                  all_goals
                    unfold truthV at hz
                    simp only [↓reduceIte, Bool.false_eq_true, Bool.not_true, Bool.not_false, Prod.mk.injEq] at hz
                    obtain ⟨⟨rfl, rfl, rfl⟩, rfl⟩ := hz
                    go_wp2_with fail
                    refine (HT.out _ _ (by first | rfl | simp) HQ.out).mono ?_
                    rintro e w5 ⟨rfl, hq⟩
                    obtain ⟨c0, c7, ca0, ca1, ca2, cb0, cb1, cb2, z0, z1, z2, f0, f1, f2⟩ := cq_cells hq
                    have HQ := Lib.hid hq
                    clear hq
                    go_wp2_with fail
                    refine (HN.out _ HQ.out).mono ?_
                    rintro e w5 ⟨rfl, hq⟩
                    obtain ⟨c0, c7, ca0, ca1, ca2, cb0, cb1, cb2, z0, z1, z2, f0, f1, f2⟩ := cq_cells hq
                    have HQ := Lib.hid hq
                    clear hq
                    go_wp2_with fail
                    refine (HC.out _ HQ.out).mono ?_
                    rintro e w5 ⟨rfl, hq⟩
                    obtain ⟨c0, c7, ca0, ca1, ca2, cb0, cb1, cb2, z0, z1, z2, f0, f1, f2⟩ := cq_cells hq
                    have HQ := Lib.hid hq
                    clear hq
                    go_wp2_with fail
                    refine (HV.out _ HQ.out).mono ?_
                    rintro e w5 ⟨rfl, hq⟩
                    obtain ⟨c0, c7, ca0, ca1, ca2, cb0, cb1, cb2, z0, z1, z2, f0, f1, f2⟩ := cq_cells hq
                    have HQ := Lib.hid hq
                    clear hq
                    go_wp2_with fail
                    first
                      | (with_reducible refine (HTT.out _ HQ.out).mono ?_)
                      | (with_reducible refine (HTF.out _ HQ.out).mono ?_)
                    rintro e w5 ⟨rfl, hq⟩
                    obtain ⟨c0, c7, ca0, ca1, ca2, cb0, cb1, cb2, z0, z1, z2, f0, f1, f2⟩ := cq_cells hq
                    have HQ := Lib.hid hq
                    clear hq
                    go_wp2
                    first
                      | (obtain ⟨e0, e1, e2, _, _, _⟩ := cell3 (blk3_set HQ.out.2.2.2.2.1 (.int .u8 1) (.int .i64 1) (.string ⟨#[]⟩)); exact bodyPost_ret (v := .tuple #[.agg #[.int .u8 1, .int .i64 1, .string ⟨#[]⟩], .int .i64 0]) (by simp [results, Try.results34, go_sem, e0, e1, e2]) rfl ⟨rfl, below3_at HQ.out.2.2.2.2.2.2.2 (by omega) _ _ _⟩)
                      | (obtain ⟨e0, e1, e2, _, _, _⟩ := cell3 (blk3_set HQ.out.2.2.2.2.1 (.int .u8 1) (.int .i64 0) (.string ⟨#[]⟩)); exact bodyPost_ret (v := .tuple #[.agg #[.int .u8 1, .int .i64 0, .string ⟨#[]⟩], .int .i64 0]) (by simp [results, Try.results34, go_sem, e0, e1, e2]) rfl ⟨rfl, below3_at HQ.out.2.2.2.2.2.2.2 (by omega) _ _ _⟩)
                · rw [if_neg p4] at hz
                  have HR2 := Lib.hid (fun W (k : Cq w op m c bb o (a1, a2, a3) (b1, b2, b3) g h W) => cq_call k (HR.out ⟨p4, by simpa using q5, by simpa using q18, by simpa using q19, hcm⟩ W))
                  clear HR hcm
                  have q4 := beq_no p4
                  have q11 := beq_no o3
                  obtain ⟨⟨r1, r2, r3⟩, re⟩ := rz
                  simp only [Prod.mk.injEq] at hz
                  obtain ⟨⟨rfl, rfl, rfl⟩, rfl⟩ := hz
                  clear p4 o1 o2 o3
                  go_wp2_with fail
                  refine (HT.out _ _ (by first | rfl | simp) HQ.out).mono ?_
                  rintro e w5 ⟨rfl, hq⟩
                  obtain ⟨c0, c7, ca0, ca1, ca2, cb0, cb1, cb2, z0, z1, z2, f0, f1, f2⟩ := cq_cells hq
                  have HQ := Lib.hid hq
                  clear hq
                  go_wp2_with fail
                  refine (HN.out _ HQ.out).mono ?_
                  rintro e w5 ⟨rfl, hq⟩
                  obtain ⟨c0, c7, ca0, ca1, ca2, cb0, cb1, cb2, z0, z1, z2, f0, f1, f2⟩ := cq_cells hq
                  have HQ := Lib.hid hq
                  clear hq
                  go_wp2_with fail
                  refine (HC.out _ HQ.out).mono ?_
                  rintro e w5 ⟨rfl, hq⟩
                  obtain ⟨c0, c7, ca0, ca1, ca2, cb0, cb1, cb2, z0, z1, z2, f0, f1, f2⟩ := cq_cells hq
                  have HQ := Lib.hid hq
                  clear hq
                  go_wp2_with fail
                  refine (HR2.out _ HQ.out).mono ?_
                  rintro e w5 ⟨rfl, hq⟩
                  obtain ⟨c0, c7, ca0, ca1, ca2, cb0, cb1, cb2, z0, z1, z2, f0, f1, f2⟩ := cq_cells hq
                  have HQ := Lib.hid hq
                  clear hq
                  go_wp2
                  obtain ⟨e0, e1, e2, _, _, _⟩ := cell3 (blk3_set HQ.out.2.2.2.2.1 (.int .u8 r1) (.int .i64 r2) (.string r3))
                  exact bodyPost_ret (v := .tuple #[.agg #[.int .u8 r1, .int .i64 r2, .string r3], .int .i64 re]) (by simp [results, Try.results34, go_sem, e0, e1, e2]) rfl ⟨rfl, below3_at HQ.out.2.2.2.2.2.2.2 (by omega) _ _ _⟩
              · rw [hcm] at hz
                simp only [↓reduceIte] at hz
                rw [hcm] at HC
                have h1217 : 12 ≤ op ∧ op ≤ 17 := by
                  unfold comparesB at hcm
                  simp only [Bool.and_eq_true, decide_eq_true_eq] at hcm
                  exact hcm
                have HV := Lib.hid (fun W (k : Cq w op m c bb o (a1, a2, a3) (b1, b2, b3) g h W) => cq_call k (vcompare_any (a1, a2, a3) (b1, b2, b3) W))
                generalize valCmp (a1, a2, a3) (b1, b2, b3) = vc at *
                have HH := Lib.hid (fun W (k : Cq w op m c bb o (a1, a2, a3) (b1, b2, b3) g h W) => (holds_any op vc W h1217.1 h1217.2).mono fun e w' he => And.intro he.1 (show Cq w op m c bb o (a1, a2, a3) (b1, b2, b3) g h w' by rw [← he.2]; exact k))
                generalize holdsB op vc = hv at *
                clear hcm h1217 o1 o2 o3
                cases hv
                all_goals
                  unfold truthV at hz
                  simp only [↓reduceIte, Bool.false_eq_true, Bool.not_true, Bool.not_false, Prod.mk.injEq] at hz
                  obtain ⟨⟨rfl, rfl, rfl⟩, rfl⟩ := hz
                  go_wp2_with fail
                  refine (HT.out _ _ (by first | rfl | simp) HQ.out).mono ?_
                  rintro e w5 ⟨rfl, hq⟩
                  obtain ⟨c0, c7, ca0, ca1, ca2, cb0, cb1, cb2, z0, z1, z2, f0, f1, f2⟩ := cq_cells hq
                  have HQ := Lib.hid hq
                  clear hq
                  go_wp2_with fail
                  refine (HN.out _ HQ.out).mono ?_
                  rintro e w5 ⟨rfl, hq⟩
                  obtain ⟨c0, c7, ca0, ca1, ca2, cb0, cb1, cb2, z0, z1, z2, f0, f1, f2⟩ := cq_cells hq
                  have HQ := Lib.hid hq
                  clear hq
                  go_wp2_with fail
                  refine (HC.out _ HQ.out).mono ?_
                  rintro e w5 ⟨rfl, hq⟩
                  have hs := cq_drew hq
                  go_wp2_with fail
                  go_region_held3 (fun W => W.cell? ⟨w.heap.size + 1, 0, none⟩ = some (.int .u8 op) ∧ W.cell? ⟨g, 0, none⟩ = some (.int .u8 a1) ∧ W.cell? ⟨g, 1, none⟩ = some (.int .i64 a2) ∧ W.cell? ⟨g, 2, none⟩ = some (.string a3) ∧ W.cell? ⟨h, 0, none⟩ = some (.int .u8 b1) ∧ W.cell? ⟨h, 1, none⟩ = some (.int .i64 b2) ∧ W.cell? ⟨h, 2, none⟩ = some (.string b3))
                    (first | exact cq_S (by assumption) | exact cq_S2 (by assumption) _ _ _)
                    (first
                      | (go_at_call 50; (with_reducible refine (HV.out _ (by assumption)).mono ?_); rintro e w6 ⟨rfl, hs⟩)
                      | (go_at_call 49; (with_reducible refine (HH.out _ (by assumption)).mono ?_); rintro e w6 ⟨rfl, hs⟩)
                      | (go_at_call 45; (first | (with_reducible refine (HTT.out _ (by assumption)).mono ?_) | (with_reducible refine (HTF.out _ (by assumption)).mono ?_)); rintro e w6 ⟨rfl, hs⟩; obtain ⟨_, _, _, _, _, _, _, _, z0, z1, z2, f0, f1, f2⟩ := cq_cells hs))
                  all_goals
                    have HQ := Lib.hid hs
                    go_wp2
                    first
                      | (obtain ⟨e0, e1, e2, _, _, _⟩ := cell3 (blk3_set HQ.out.2.2.2.2.1 (.int .u8 1) (.int .i64 1) (.string ⟨#[]⟩)); exact bodyPost_ret (v := .tuple #[.agg #[.int .u8 1, .int .i64 1, .string ⟨#[]⟩], .int .i64 0]) (by simp [results, Try.results34, go_sem, e0, e1, e2]) rfl ⟨rfl, below3_at HQ.out.2.2.2.2.2.2.2 (by omega) _ _ _⟩)
                      | (obtain ⟨e0, e1, e2, _, _, _⟩ := cell3 (blk3_set HQ.out.2.2.2.2.1 (.int .u8 1) (.int .i64 0) (.string ⟨#[]⟩)); exact bodyPost_ret (v := .tuple #[.agg #[.int .u8 1, .int .i64 0, .string ⟨#[]⟩], .int .i64 0]) (by simp [results, Try.results34, go_sem, e0, e1, e2]) rfl ⟨rfl, below3_at HQ.out.2.2.2.2.2.2.2 (by omega) _ _ _⟩)
            · simp only [↓reduceIte] at hz
              simp only [Prod.mk.injEq] at hz
              obtain ⟨⟨rfl, rfl, rfl⟩, rfl⟩ := hz
              clear o1 o2 o3
              go_wp2_with fail
              refine (HT.out _ _ (by first | rfl | simp) HQ.out).mono ?_
              rintro e w5 ⟨rfl, hq⟩
              obtain ⟨c0, c7, ca0, ca1, ca2, cb0, cb1, cb2, z0, z1, z2, f0, f1, f2⟩ := cq_cells hq
              have HQ := Lib.hid hq
              clear hq
              go_wp2_with fail
              refine (HN.out _ HQ.out).mono ?_
              rintro e w5 ⟨rfl, hq⟩
              obtain ⟨c0, c7, ca0, ca1, ca2, cb0, cb1, cb2, z0, z1, z2, f0, f1, f2⟩ := cq_cells hq
              have HQ := Lib.hid hq
              clear hq
              go_wp2
              obtain ⟨e0, e1, e2, _, _, _⟩ := cell3 (blk3_set HQ.out.2.2.2.2.1 (.int .u8 0) (.int .i64 0) (.string ⟨#[]⟩))
              exact bodyPost_ret (v := .tuple #[.agg #[.int .u8 0, .int .i64 0, .string ⟨#[]⟩], .int .i64 0]) (by simp [results, Try.results34, go_sem, e0, e1, e2]) rfl ⟨rfl, below3_at HQ.out.2.2.2.2.2.2.2 (by omega) _ _ _⟩
end Go.Proofs.Ytkgpcodccpckeaa
