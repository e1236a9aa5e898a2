/- scope.come: what an expression comes to. Conditions: those of each lemma. -/
import Derived.Test.YtkgpcodccpckeaaEv3
import Derived.Test.YtkgpcodccpckeaaValCmp
import Derived.Deep.CutBlock
import Derived.Deep.DeepCutAuto
namespace Go.Proofs.Ytkgpcodccpckeaa
open Go.RowKit
set_option linter.unusedVariables false
set_option linter.unusedSimpArgs false
abbrev scV (kf : FuncId) (p : Addr) (R : Option Addr) (rn rc : Nat) : Value := .agg #[.func (.func kf) #[] #[.pointer (some p)], .slice R rn rc]
abbrev exL (op : Int) (v : Val) (tb nm : ByteArray) (n : Int) (A : Option Addr) (m c : Nat) : Value := .agg #[.int .u8 op, .int .u8 v.1, .int .i64 v.2.1, .string v.2.2, .string tb, .string nm, .int .i64 n, .slice A m c]
theorem bj3 {w : World} {o q r : Obj} : Below w.heap.size w (((w.alloc o).alloc q).alloc r) := bj (bj one_alloc one_alloc) one_alloc
set_option maxRecDepth 100000 in
set_option maxHeartbeats 8000000 in
theorem come_leaf (kf : FuncId) (p : Addr) (R : Option Addr) (rn rc : Nat) (v : Val) (tb nm : ByteArray) (n : Int) (A : Option Addr) (m c : Nat) (w : World) :
    Calls Try.prog 34 #[scV kf p R rn rc, exV ⟨1, v, tb, nm, n, A, m, c⟩] w fun e w' => e = .returned (.tuple #[valV v, .int .i64 0]) ∧ Below w.heap.size w w' := by
  obtain ⟨k, q, s⟩ := v
  go_enter Try.func34, Try.ntmps34
  go_wp2
  have HB := blk_new ((w.alloc (.cells #[.func (.func kf) #[] #[.pointer (some p)], .slice R rn rc] 62)).alloc (.cells (exC ⟨1, (k, q, s), tb, nm, n, A, m, c⟩) 29)) (w.heap.size + 1 + 1) 23 #[.int .u8 0, .int .i64 0, .string ⟨#[]⟩] (by simp)
  first
    | (obtain ⟨e0, e1, e2, _, _, _⟩ := cell3 (blk3_set HB (.int .u8 k) (.int .i64 q) (.string s))
       exact bodyPost_ret (v := .tuple #[.agg #[.int .u8 k, .int .i64 q, .string s], .int .i64 0]) (by simp [results, Try.results34, go_sem, e0, e1, e2]) rfl ⟨rfl, below3_at bj3 (by omega) _ _ _⟩)
    | exact bodyPost_ret (v := .tuple #[.agg #[.int .u8 k, .int .i64 q, .string s], .int .i64 0]) (by simp [results, Try.results34, go_sem]) rfl ⟨rfl, bj3⟩
/-- the blocks of a call: the scope, the expression, the answer, both kids' values -/
def Cy (w : World) (kf : FuncId) (p : Addr) (R : Option Addr) (rn rc : Nat) (x : Ex) (a b : Val) (W : World) : Prop :=
  Blk W w.heap.size 62 #[.func (.func kf) #[] #[.pointer (some p)], .slice R rn rc] ∧ Blk W (w.heap.size + 1) 29 (exC x) ∧ Blk W (w.heap.size + 1 + 1) 23 #[.int .u8 0, .int .i64 0, .string ⟨#[]⟩] ∧ Blk W (w.heap.size + 1 + 1 + 1) 71 #[.int .u8 a.1, .int .i64 a.2.1, .string a.2.2, .int .u8 b.1, .int .i64 b.2.1, .string b.2.2] ∧ Below w.heap.size w W
theorem cy_below {w W W' : World} {kf : FuncId} {p : Addr} {R : Option Addr} {rn rc : Nat} {x : Ex} {a b : Val} (h : Cy w kf p R rn rc x a b W) (hb : Below W.heap.size W W') : Cy w kf p R rn rc x a b W' :=
  ⟨blk_step h.1 hb, blk_step h.2.1 hb, blk_step h.2.2.1 hb, blk_step h.2.2.2.1 hb, bj h.2.2.2.2 hb⟩
theorem cy_alloc {w W : World} {kf : FuncId} {p : Addr} {R : Option Addr} {rn rc : Nat} {x : Ex} {a b : Val} (h : Cy w kf p R rn rc x a b W) (o : Obj) : Cy w kf p R rn rc x a b (W.alloc o) := cy_below h one_alloc
theorem cy_drew {w W : World} {kf : FuncId} {p : Addr} {R : Option Addr} {rn rc : Nat} {x : Ex} {a b : Val} (h : Cy w kf p R rn rc x a b W) : Cy w kf p R rn rc x a b W.drew := ⟨h.1.drew, h.2.1.drew, h.2.2.1.drew, h.2.2.2.1.drew, h.2.2.2.2.drew⟩
theorem cy_new (w : World) (kf : FuncId) (p : Addr) (R : Option Addr) (rn rc : Nat) (x : Ex) : Cy w kf p R rn rc x (0, 0, ⟨#[]⟩) (0, 0, ⟨#[]⟩) ((((w.alloc (.cells #[.func (.func kf) #[] #[.pointer (some p)], .slice R rn rc] 62)).alloc (.cells (exC x) 29)).alloc (.cells #[.int .u8 0, .int .i64 0, .string ⟨#[]⟩] 23)).alloc (.cells #[.int .u8 0, .int .i64 0, .string ⟨#[]⟩, .int .u8 0, .int .i64 0, .string ⟨#[]⟩] 71)) :=
  ⟨(((Blk.new _ _ _).alloc _).alloc _).alloc _, ((blk_new _ _ _ _ (by simp)).alloc _).alloc _, (blk_new _ _ _ _ (by simp)).alloc _, blk_new _ _ _ _ (by simp), bj bj3 one_alloc⟩
theorem cy_set0 {w W : World} {kf : FuncId} {p : Addr} {R : Option Addr} {rn rc : Nat} {x : Ex} {a b : Val} (h : Cy w kf p R rn rc x a b W) (k q : Int) (s : ByteArray) : Cy w kf p R rn rc x (k, q, s) b (((W.setCell ⟨w.heap.size + 1 + 1 + 1, 0, none⟩ (.int .u8 k)).setCell ⟨w.heap.size + 1 + 1 + 1, 1, none⟩ (.int .i64 q)).setCell ⟨w.heap.size + 1 + 1 + 1, 2, none⟩ (.string s)) :=
  ⟨((h.1.far (by simp; omega) _).far (by simp; omega) _).far (by simp; omega) _, ((h.2.1.far (by simp) _).far (by simp) _).far (by simp) _, ((h.2.2.1.far (by simp) _).far (by simp) _).far (by simp) _, ((h.2.2.2.1.set_ 0 _).set_ 1 _).set_ 2 _, ((h.2.2.2.2.setCell (by simp; omega) _).setCell (by simp; omega) _).setCell (by simp; omega) _⟩
theorem cy_set1 {w W : World} {kf : FuncId} {p : Addr} {R : Option Addr} {rn rc : Nat} {x : Ex} {a b : Val} (h : Cy w kf p R rn rc x a b W) (k q : Int) (s : ByteArray) : Cy w kf p R rn rc x a (k, q, s) (((W.setCell ⟨w.heap.size + 1 + 1 + 1, 3, none⟩ (.int .u8 k)).setCell ⟨w.heap.size + 1 + 1 + 1, 4, none⟩ (.int .i64 q)).setCell ⟨w.heap.size + 1 + 1 + 1, 5, none⟩ (.string s)) :=
  ⟨((h.1.far (by simp; omega) _).far (by simp; omega) _).far (by simp; omega) _, ((h.2.1.far (by simp) _).far (by simp) _).far (by simp) _, ((h.2.2.1.far (by simp) _).far (by simp) _).far (by simp) _, ((h.2.2.2.1.set_ 3 _).set_ 4 _).set_ 5 _, ((h.2.2.2.2.setCell (by simp; omega) _).setCell (by simp; omega) _).setCell (by simp; omega) _⟩
end Go.Proofs.Ytkgpcodccpckeaa
