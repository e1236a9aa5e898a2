/- Expressions in memory; eval.fits, eval.mayBe. Conditions: those of each lemma. -/
import Derived.Test.YtkgpcodccpckeaaEv1
namespace Go.Proofs.Ytkgpcodccpckeaa
open Go.RowKit
set_option linter.unusedVariables false
/-- an expression as it is handed on: its op, value, two names, number, and the slice of its kids -/
structure Ex where
  op : Int
  v : Val
  tb : ByteArray
  nm : ByteArray
  n : Int
  A : Option Addr
  m : Nat
  c : Nat
abbrev exC (x : Ex) : Array Value := #[.int .u8 x.op, .int .u8 x.v.1, .int .i64 x.v.2.1, .string x.v.2.2, .string x.tb, .string x.nm, .int .i64 x.n, .slice x.A x.m x.c]
abbrev exV (x : Ex) : Value := .agg #[.int .u8 x.op, .int .u8 x.v.1, .int .i64 x.v.2.1, .string x.v.2.2, .string x.tb, .string x.nm, .int .i64 x.n, .slice x.A x.m x.c]
def Cells8 (W : World) (b o : Nat) (x : Ex) : Prop := W.cell? ⟨b, o, none⟩ = some (.int .u8 x.op) ∧ W.cell? ⟨b, o + 1, none⟩ = some (.int .u8 x.v.1) ∧ W.cell? ⟨b, o + 2, none⟩ = some (.int .i64 x.v.2.1) ∧ W.cell? ⟨b, o + 3, none⟩ = some (.string x.v.2.2) ∧ W.cell? ⟨b, o + 4, none⟩ = some (.string x.tb) ∧ W.cell? ⟨b, o + 5, none⟩ = some (.string x.nm) ∧ W.cell? ⟨b, o + 6, none⟩ = some (.int .i64 x.n) ∧ W.cell? ⟨b, o + 7, none⟩ = some (.slice x.A x.m x.c)
theorem cells8_below {w W : World} {B b o : Nat} {x : Ex} (h : Cells8 w b o x) (hb : Below B w W) (hlt : b < B) : Cells8 W b o x :=
  ⟨(hb.cell (p := ⟨b, o, none⟩) hlt).trans h.1, (hb.cell (p := ⟨b, o + 1, none⟩) hlt).trans h.2.1, (hb.cell (p := ⟨b, o + 2, none⟩) hlt).trans h.2.2.1, (hb.cell (p := ⟨b, o + 3, none⟩) hlt).trans h.2.2.2.1, (hb.cell (p := ⟨b, o + 4, none⟩) hlt).trans h.2.2.2.2.1, (hb.cell (p := ⟨b, o + 5, none⟩) hlt).trans h.2.2.2.2.2.1, (hb.cell (p := ⟨b, o + 6, none⟩) hlt).trans h.2.2.2.2.2.2.1, (hb.cell (p := ⟨b, o + 7, none⟩) hlt).trans h.2.2.2.2.2.2.2⟩
/-- a slice of expressions -/
def Kids (w : World) (B : Nat) (A : Option Addr) (l : List Ex) : Prop :=
  l = [] ∨ ∃ b o, A = some ⟨b, o, none⟩ ∧ b < B ∧ ∀ (j : Nat) x, l[j]? = some x → Cells8 w b (o + j * 8) x
theorem kids_get {w : World} {B : Nat} {A : Option Addr} {l : List Ex} (h : Kids w B A l) (hl : l ≠ []) : ∃ b o, A = some ⟨b, o, none⟩ ∧ b < B ∧ ∀ (j : Nat) x, l[j]? = some x → Cells8 w b (o + j * 8) x := by
  rcases h with h | h
  · exact absurd h hl
  · exact h
theorem kids_step {w w' : World} {A : Option Addr} {l : List Ex} (h : Kids w w.heap.size A l) (hb : Below w.heap.size w w') : Kids w' w'.heap.size A l := by
  rcases h with h | ⟨b, o, hA, hlt, hc⟩
  · exact .inl h
  · exact .inr ⟨b, o, hA, Nat.lt_of_lt_of_le hlt hb.size, fun j x hx => cells8_below (hc j x hx) hb hlt⟩
theorem cell8 {W : World} {g : Nat} {t : TypeId} {x : Ex} (h : Blk W g t (exC x)) : Cells8 W g 0 x := ⟨h.cell 0, h.cell 1, h.cell 2, h.cell 3, h.cell 4, h.cell 5, h.cell 6, h.cell 7⟩
/-- the box of an expression -/
def Bx (w : World) (x : Ex) (W : World) : Prop := Blk W w.heap.size 29 (exC x) ∧ Below w.heap.size w W
theorem bx_new (w : World) (x : Ex) : Bx w x (w.alloc (.cells (exC x) 29)) := ⟨Blk.new _ _ _, one_alloc⟩
theorem bx_below {w W W' : World} {x : Ex} (h : Bx w x W) (hb : Below W.heap.size W W') : Bx w x W' := ⟨blk_step h.1 hb, bj h.2 hb⟩
theorem bx_cells {w W : World} {x : Ex} (h : Bx w x W) : W.cell? ⟨w.heap.size, 0, none⟩ = some (.int .u8 x.op) ∧ W.cell? ⟨w.heap.size, 1, none⟩ = some (.int .u8 x.v.1) ∧ W.cell? ⟨w.heap.size, 2, none⟩ = some (.int .i64 x.v.2.1) ∧ W.cell? ⟨w.heap.size, 3, none⟩ = some (.string x.v.2.2) ∧ W.cell? ⟨w.heap.size, 4, none⟩ = some (.string x.tb) ∧ W.cell? ⟨w.heap.size, 5, none⟩ = some (.string x.nm) ∧ W.cell? ⟨w.heap.size, 6, none⟩ = some (.int .i64 x.n) ∧ W.cell? ⟨w.heap.size, 7, none⟩ = some (.slice x.A x.m x.c) :=
  ⟨h.1.cell 0, h.1.cell 1, h.1.cell 2, h.1.cell 3, h.1.cell 4, h.1.cell 5, h.1.cell 6, h.1.cell 7⟩
set_option maxRecDepth 100000 in
set_option maxHeartbeats 4000000 in
theorem fits_1 (w : World) : Calls Try.prog 40 #[.int .u8 1, .int .i64 0] w fun e w' => e = .returned (.bool true) ∧ w = w' := by
  go_enter Try.func40, Try.ntmps40
  go_wp2
  go_ret
  exact ⟨rfl, rfl⟩
set_option maxRecDepth 100000 in
set_option maxHeartbeats 4000000 in
theorem fits_2 (w : World) : Calls Try.prog 40 #[.int .u8 2, .int .i64 0] w fun e w' => e = .returned (.bool true) ∧ w = w' := by
  go_enter Try.func40, Try.ntmps40
  go_wp2
  go_ret
  exact ⟨rfl, rfl⟩
set_option maxRecDepth 100000 in
set_option maxHeartbeats 4000000 in
theorem fits_3 (w : World) : Calls Try.prog 40 #[.int .u8 3, .int .i64 1] w fun e w' => e = .returned (.bool true) ∧ w = w' := by
  go_enter Try.func40, Try.ntmps40
  go_wp2
  go_ret
  exact ⟨rfl, rfl⟩
set_option maxRecDepth 100000 in
set_option maxHeartbeats 4000000 in
theorem fits_4 (w : World) : Calls Try.prog 40 #[.int .u8 4, .int .i64 1] w fun e w' => e = .returned (.bool true) ∧ w = w' := by
  go_enter Try.func40, Try.ntmps40
  go_wp2
  go_ret
  exact ⟨rfl, rfl⟩
set_option maxRecDepth 100000 in
set_option maxHeartbeats 4000000 in
theorem fits_5 (w : World) : Calls Try.prog 40 #[.int .u8 5, .int .i64 1] w fun e w' => e = .returned (.bool true) ∧ w = w' := by
  go_enter Try.func40, Try.ntmps40
  go_wp2
  go_ret
  exact ⟨rfl, rfl⟩
set_option maxRecDepth 100000 in
set_option maxHeartbeats 4000000 in
theorem fits_21 (w : World) : Calls Try.prog 40 #[.int .u8 21, .int .i64 1] w fun e w' => e = .returned (.bool true) ∧ w = w' := by
  go_enter Try.func40, Try.ntmps40
  go_wp2
  go_ret
  exact ⟨rfl, rfl⟩
set_option maxRecDepth 100000 in
set_option maxHeartbeats 4000000 in
theorem fits_two (op : Int) (h1 : 6 ≤ op) (h2 : op ≤ 19) (w : World) : Calls Try.prog 40 #[.int .u8 op, .int .i64 2] w fun e w' => e = .returned (.bool true) ∧ w = w' := by
  have e1 := beq_no (a := op) (b := 1) (by omega)
  have e2 := beq_no (a := op) (b := 2) (by omega)
  have e3 := beq_no (a := op) (b := 3) (by omega)
  have e4 := beq_no (a := op) (b := 4) (by omega)
  have e5 := beq_no (a := op) (b := 5) (by omega)
  have e20 := beq_no (a := op) (b := 20) (by omega)
  have e21 := beq_no (a := op) (b := 21) (by omega)
  have e22 := beq_no (a := op) (b := 22) (by omega)
  have e23 := beq_no (a := op) (b := 23) (by omega)
  go_enter Try.func40, Try.ntmps40
  go_wp2
  go_ret
  exact ⟨rfl, rfl⟩
set_option maxRecDepth 100000 in
set_option maxHeartbeats 4000000 in
theorem may_leaf (v : Val) (tb nm : ByteArray) (n : Int) (A : Option Addr) (c : Nat) (k d : Int) (w : World) (hf : Fits v) (hd : 0 ≤ d) (hc : chk v = 0) :
    Calls Try.prog 30 #[exV ⟨1, v, tb, nm, n, A, 0, c⟩, .int .i64 k, .int .i64 d] w fun e w' => e = .returned (.bool true) ∧ Below w.heap.size w w' := by
  have HG := Lib.hid (fun W => grouped_any 1 W)
  have HC := Lib.hid (fun W => check_any v W hf)
  rw [hc] at HC
  have hx := bx_new w ⟨1, v, tb, nm, n, A, 0, c⟩
  clear hf hc
  go_enter Try.func30, Try.ntmps30
  go_wp2_with fail
  refine (HG.out _).mono ?_
  rintro e w2 ⟨rfl, rfl⟩
  rw [show groupedB 1 = false from rfl]
  go_wp2_with fail
  refine (fits_1 _).mono ?_
  rintro e w3 ⟨rfl, rfl⟩
  go_wp2_with fail
  refine (HC.out _).mono ?_
  rintro e w4 ⟨rfl, hb4⟩
  replace hx := bx_below hx hb4
  obtain ⟨c0, c1, c2, c3, c4, c5, c6, c7⟩ := bx_cells hx
  clear hb4
  go_wp2
  go_loopw [55] (fun i wr => i = .int .i64 0 ∧ Below w.heap.size w wr) (fun _ _ => 0)
  case atStart => exact ⟨rfl, hx.2⟩
  case round =>
    obtain ⟨rfl, hb⟩ := hrel
    go_wp2
    go_ret
    exact ⟨rfl, hb⟩
set_option maxRecDepth 100000 in
set_option maxHeartbeats 4000000 in
theorem may_bad (v : Val) (tb nm : ByteArray) (n : Int) (A : Option Addr) (c : Nat) (k d : Int) (w : World) (hf : Fits v) (hd : 0 ≤ d) (hc : ¬ chk v = 0) :
    Calls Try.prog 30 #[exV ⟨1, v, tb, nm, n, A, 0, c⟩, .int .i64 k, .int .i64 d] w fun e w' => e = .returned (.bool false) ∧ Below w.heap.size w w' := by
  have HG := Lib.hid (fun W => grouped_any 1 W)
  have hcc := fun W => check_any v W hf
  have hE : (chk v != 0) = true := by rw [bne_iff_ne]; exact hc
  generalize chk v = E at *
  have HC := Lib.hid hcc
  have hx := bx_new w ⟨1, v, tb, nm, n, A, 0, c⟩
  clear hf hc hcc
  go_enter Try.func30, Try.ntmps30
  go_wp2_with fail
  refine (HG.out _).mono ?_
  rintro e w2 ⟨rfl, rfl⟩
  rw [show groupedB 1 = false from rfl]
  go_wp2_with fail
  refine (fits_1 _).mono ?_
  rintro e w3 ⟨rfl, rfl⟩
  go_wp2_with fail
  refine (HC.out _).mono ?_
  rintro e w4 ⟨rfl, hb4⟩
  replace hx := bx_below hx hb4
  obtain ⟨c0, c1, c2, c3, c4, c5, c6, c7⟩ := bx_cells hx
  clear hb4
  go_wp2
  go_ret
  exact ⟨rfl, hx.2⟩
set_option maxRecDepth 100000 in
set_option maxHeartbeats 4000000 in
theorem may_col (v : Val) (tb nm : ByteArray) (n : Int) (A : Option Addr) (c : Nat) (k d : Int) (w : World) (hd : 0 ≤ d) (h0 : 0 ≤ n) (h1 : n < k) :
    Calls Try.prog 30 #[exV ⟨2, v, tb, nm, n, A, 0, c⟩, .int .i64 k, .int .i64 d] w fun e w' => e = .returned (.bool true) ∧ Below w.heap.size w w' := by
  have HG := Lib.hid (fun W => grouped_any 2 W)
  have hx := bx_new w ⟨2, v, tb, nm, n, A, 0, c⟩
  go_enter Try.func30, Try.ntmps30
  go_wp2_with fail
  refine (HG.out _).mono ?_
  rintro e w2 ⟨rfl, rfl⟩
  rw [show groupedB 2 = false from rfl]
  go_wp2_with fail
  refine (fits_2 _).mono ?_
  rintro e w3 ⟨rfl, rfl⟩
  go_wp2
  go_loopw [55] (fun i wr => i = .int .i64 0 ∧ Below w.heap.size w wr) (fun _ _ => 0)
  case atStart => exact ⟨rfl, hx.2⟩
  case round =>
    obtain ⟨rfl, hb⟩ := hrel
    go_wp2
    go_ret
    exact ⟨rfl, hb⟩
set_option maxRecDepth 100000 in
set_option maxHeartbeats 4000000 in
theorem may_node (op : Int) (v : Val) (tb nm : ByteArray) (n : Int) (A : Option Addr) (m c : Nat) (ks : List Ex) (kb : List Bool) (k d d' : Int) (w : World) (g : Bool) (hg : groupedB op = g) (hgd : d' = if g then d - 1 else d) (hd : 0 ≤ d') (hdl : d ≤ 1000000)
    (h1 : ¬ op = 1) (h2 : ¬ op = 2) (hm : m = ks.length) (hmb : m = kb.length) (hm3 : 0 < m) (hm2 : m ≤ 100) (hK : Kids w w.heap.size A ks) (HF : Hid (∀ W, Calls Try.prog 40 #[.int .u8 op, .int .i64 m] W fun e w' => e = .returned (.bool true) ∧ W = w'))
    (hk : ∀ (j : Nat) x b, ks[j]? = some x → kb[j]? = some b → ∀ W, Below w.heap.size w W → Calls Try.prog 30 #[exV x, .int .i64 k, .int .i64 d'] W fun e w' => e = .returned (.bool b) ∧ Below W.heap.size W w') :
    Calls Try.prog 30 #[exV ⟨op, v, tb, nm, n, A, m, c⟩, .int .i64 k, .int .i64 d] w fun e w' => e = .returned (.bool (kb.all id)) ∧ Below w.heap.size w w' := by
  have hgc := fun W => grouped_any op W
  rw [hg] at hgc
  have HG := Lib.hid hgc
  have hx := bx_new w ⟨op, v, tb, nm, n, A, m, c⟩
  have e1 := beq_no h1
  have e2 := beq_no h2
  obtain ⟨b, o, rfl, hbl, hc⟩ := kids_get hK (fun e => by rw [e] at hm; simp at hm; omega)
  have HC := Lib.hid hc
  have HN := Lib.hid (And.intro hm hmb)
  have HK := Lib.hid hk
  have hmI : (m : Int) ≤ 100 := by omega
  have hdw : IntKind.i64.wrap (d - 1) = d - 1 := by rw [IntKind.wrap_i64]; cases g <;> simp at hgd <;> omega
  clear hg hgc h1 h2 hc hm hmb hK hk hm2
  cases g
  all_goals
    simp only [↓reduceIte, Bool.false_eq_true] at hgd
    subst hgd
    go_enter Try.func30, Try.ntmps30
    go_wp2_with fail
    refine (HG.out _).mono ?_
    rintro e w2 ⟨rfl, rfl⟩
    go_wp2_with fail
    refine (HF.out _).mono ?_
    rintro e w3 ⟨rfl, rfl⟩
    go_wp2
    go_loopw [55] (fun i wr => ∃ j : Nat, j ≤ m ∧ i = .int .i64 j ∧ kb.all id = (kb.drop j).all id ∧ Below w.heap.size w wr) (fun i _ => m - (intOf i).toNat)
    case atStart => exact ⟨0, by omega, rfl, rfl, hx.2⟩
    case round =>
      obtain ⟨j, hj, rfl, heq, hb⟩ := hrel
      by_cases hjm : j < m
      · have hjl : j < ks.length := by have := HN.out.1; omega
        have hjb : j < kb.length := by have := HN.out.2; omega
        obtain ⟨a0, a1, a2, a3, a4, a5, a6, a7⟩ := cells8_below (HC.out j ks[j] (List.getElem?_eq_getElem hjl)) hb hbl
        have hkc := HK.out j ks[j] kb[j] (List.getElem?_eq_getElem hjl) (List.getElem?_eq_getElem hjb)
        have hd : kb.drop j = kb[j] :: kb.drop (j + 1) := List.drop_eq_getElem_cons hjb
        rw [hd, List.all_cons] at heq
        generalize kb[j] = bb at *
        generalize ks[j] = y at *
        obtain ⟨op', v', tb', nm', n', A', m', c'⟩ := y
        simp only at a0 a1 a2 a3 a4 a5 a6 a7
        have HKC := Lib.hid hkc
        have HQ := Lib.hid heq
        have HB := Lib.hid (hb.alloc hb.size (.cells (exC ⟨op', v', tb', nm', n', A', m', c'⟩) 29))
        clear hkc hd heq hb
        go_wp2_with fail
        refine (HKC.out _ HB.out).mono ?_
        rintro e w5 ⟨rfl, hb5⟩
        have HB5 := Lib.hid (bj HB.out hb5)
        clear hb5
        cases bb
        · have HR : Hid (kb.all id = false) := Lib.hid (by rw [HQ.out]; rfl)
          go_wp2
          go_ret
          exact ⟨rbool HR.out.symm, HB5.out⟩
        · have HR : Hid (kb.all id = (kb.drop (j + 1)).all id) := Lib.hid (by rw [HQ.out]; rfl)
          go_wp2
          go_roundw
          case rel => exact ⟨j + 1, by omega, by go_num, HR.out, HB5.out⟩
          case measure => simp [intOf]; omega
      · obtain rfl : j = m := by omega
        have HR : Hid (kb.all id = true) := Lib.hid (by rw [heq, List.drop_of_length_le (by have := HN.out.2; omega)]; rfl)
        clear heq
        go_wp2
        go_ret
        exact ⟨rbool HR.out.symm, hb⟩
end Go.Proofs.Ytkgpcodccpckeaa
