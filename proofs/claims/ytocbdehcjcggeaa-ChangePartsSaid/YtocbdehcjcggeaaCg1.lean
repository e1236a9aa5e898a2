/- Layer 22: changes in memory. Conditions: those of each lemma. -/
import Derived.Test.YtocbdehcjcggeaaVal
namespace Go.Proofs.Ytocbdehcjcggeaa
open Go.RowKit Go
set_option linter.unusedVariables false
/-- a change, and where its rows lie -/
structure Cg where
  t : ByteArray
  kA : Option Addr
  kc : Nat
  k : List Val
  oA : Option Addr
  oc : Nat
  o : List Val
  nA : Option Addr
  nc : Nat
  n : List Val
abbrev cgC (x : Cg) : Array Value := #[.string x.t, .slice x.kA x.k.length x.kc, .slice x.oA x.o.length x.oc, .slice x.nA x.n.length x.nc]
structure CgAt (w : World) (b o : Nat) (x : Cg) : Prop where
  c0 : w.cell? ⟨b, o, none⟩ = some (.string x.t)
  c1 : w.cell? ⟨b, o + 1, none⟩ = some (.slice x.kA x.k.length x.kc)
  c2 : w.cell? ⟨b, o + 2, none⟩ = some (.slice x.oA x.o.length x.oc)
  c3 : w.cell? ⟨b, o + 3, none⟩ = some (.slice x.nA x.n.length x.nc)
/-- its three rows, below a block's number -/
def CgIn (w : World) (B : Nat) (x : Cg) : Prop := Vals w B x.kA x.k ∧ Vals w B x.oA x.o ∧ Vals w B x.nA x.n
def FitsS (y : Val) : Prop := Fits y ∧ y.2.2.size ≤ 140737488351232
def FitC (x : Cg) : Prop := x.t.size ≤ 140737488351232 ∧ x.k.length ≤ maxLen ∧ x.o.length ≤ maxLen ∧ x.n.length ≤ maxLen ∧ (∀ y ∈ x.k, FitsS y) ∧ (∀ y ∈ x.o, FitsS y) ∧ ∀ y ∈ x.n, FitsS y
def Cgs (w : World) (B : Nat) (A : Option Addr) (l : List Cg) : Prop :=
  l = [] ∨ ∃ b o, A = some ⟨b, o, none⟩ ∧ b < B ∧ ∀ (j : Nat) x, l[j]? = some x → CgAt w b (o + j * 4) x ∧ CgIn w B x
theorem cgAt_below {w W : World} {b o B : Nat} {x : Cg} (h : CgAt w b o x) (hb : Below B w W) (hlt : b < B) : CgAt W b o x :=
  ⟨(hb.cell (p := ⟨b, o, none⟩) hlt).trans h.c0, (hb.cell (p := ⟨b, o + 1, none⟩) hlt).trans h.c1, (hb.cell (p := ⟨b, o + 2, none⟩) hlt).trans h.c2, (hb.cell (p := ⟨b, o + 3, none⟩) hlt).trans h.c3⟩
theorem cgIn_below {w W : World} {B : Nat} {x : Cg} (h : CgIn w B x) (hb : Below B w W) : CgIn W B x := ⟨vals_below h.1 hb, vals_below h.2.1 hb, vals_below h.2.2 hb⟩
theorem cgIn_mono {w : World} {B B' : Nat} {x : Cg} (h : CgIn w B x) (hB : B ≤ B') : CgIn w B' x := ⟨vals_mono h.1 hB, vals_mono h.2.1 hB, vals_mono h.2.2 hB⟩
theorem cgs_below {w W : World} {B : Nat} {A : Option Addr} {l : List Cg} (h : Cgs w B A l) (hb : Below B w W) : Cgs W B A l := by
  rcases h with h | ⟨b, o, hA, hlt, hc⟩
  · exact .inl h
  · exact .inr ⟨b, o, hA, hlt, fun j x hx => ⟨cgAt_below (hc j x hx).1 hb hlt, cgIn_below (hc j x hx).2 hb⟩⟩
theorem cgs_mono {w : World} {B B' : Nat} {A : Option Addr} {l : List Cg} (h : Cgs w B A l) (hB : B ≤ B') : Cgs w B' A l := by
  rcases h with h | ⟨b, o, hA, hlt, hc⟩
  · exact .inl h
  · exact .inr ⟨b, o, hA, by omega, fun j x hx => ⟨(hc j x hx).1, cgIn_mono (hc j x hx).2 hB⟩⟩
theorem cgs_step {w W : World} {A : Option Addr} {l : List Cg} (h : Cgs w w.heap.size A l) (hb : Below w.heap.size w W) : Cgs W W.heap.size A l := cgs_mono (cgs_below h hb) hb.size
theorem cgs_get {w : World} {B : Nat} {A : Option Addr} {l : List Cg} (h : Cgs w B A l) (hl : l ≠ []) : ∃ b o, A = some ⟨b, o, none⟩ ∧ b < B ∧ ∀ W, Below B w W → ∀ (j : Nat) x, l[j]? = some x → CgAt W b (o + j * 4) x ∧ CgIn W B x := by
  rcases h with h | ⟨b, o, hA, hlt, hc⟩
  · exact absurd h hl
  · exact ⟨b, o, hA, hlt, fun W hb j x hx => ⟨cgAt_below (hc j x hx).1 hb hlt, cgIn_below (hc j x hx).2 hb⟩⟩
end Go.Proofs.Ytocbdehcjcggeaa
