/- Layer 5: scripts of operations, plain mathematics of what is sure. Conditions: those of each lemma. -/
import Derived.Test.YthipaabjmlgjmaaMvF
namespace Go.Proofs.Ythipaabjmlgjmaa
open Go.RowKit Go Go.Maps
set_option linter.unusedVariables false
def K1 : Dk := (writeD newD 0 1 (secS 97)).1
def K2 : Dk := crashD K1 [false]
def K3 : Dk := (writeD K2 1 0 (secS 97 ++ secS 97)).1
def K4 : Dk := crashD K3 [false, true]
def K5 : Dk := (armD K4 1 31).1
def K6 : Dk := (syncD K5 1).1
def K7 : Dk := (syncD K6 1).1
def K8 : Dk := (syncD K7 1).1
def K9 : Dk := (powerD K8 0).1
def K10 : Dk := (cutD K9 1 0).1
def K11 : Dk := crashD K10 []
theorem secS_size (c : Nat) : (secS c).size = 64 := by unfold secS; rw [bstr_size]; simp
theorem ek1 : (writeD newD 0 1 (secS 97)).2 = 0 := by kernel_rfl
theorem ek2 : sizeD K1 0 = 2 := by kernel_rfl
theorem ek3 : K1.loose.length = 1 := by kernel_rfl
theorem ek4 : (readD K1 0 0 1) = (secS 0, 0) := by kernel_rfl
theorem ek5 : (readD K1 0 1 2).2 = 5 := by kernel_rfl
theorem ek6 : (writeD K1 8 0 (secS 97)) = (K1, 2) := by kernel_rfl
theorem ek7 : (cutD K1 0 3) = (K1, 5) := by kernel_rfl
theorem ek8 : sizeD K2 0 = 0 := by kernel_rfl
theorem ek9 : (writeD K2 1 0 (secS 97 ++ secS 97)).2 = 0 := by kernel_rfl
theorem ek10 : sizeD K4 1 = 2 := by kernel_rfl
theorem ek11 : readD K4 1 0 2 = (secS 0 ++ secS 97, 0) := by kernel_rfl
theorem ek12 : (armD K4 1 31).2 = 0 := by kernel_rfl
theorem ek13 : (syncD K5 1).2 = 0 := by kernel_rfl
theorem ek14 : (syncD K6 1).2 = 31 := by kernel_rfl
theorem ek15 : (syncD K7 1).2 = 0 := by kernel_rfl
theorem ek16 : K8.ops = 5 := by kernel_rfl
theorem ek17 : (readD newD 0 0 0).2 = 0 := by kernel_rfl
theorem ek18 : (powerD K8 0).2 = 0 := by kernel_rfl
theorem ek19 : (cutD K9 1 0).2 = 32 := by kernel_rfl
theorem ek20 : K10.off = true := by kernel_rfl
theorem ek21 : (readD K10 1 0 1).2 = 32 := by kernel_rfl
theorem ek22 : sizeD K11 1 = 2 := by kernel_rfl
theorem ek23 : K11.off = false := by kernel_rfl
theorem ek30 (x : ByteArray) (h : x.size = 63) : writeD K1 0 0 x = (K1, 2) := by
  unfold writeD
  rw [if_neg (by decide), if_pos (by rw [h]; decide)]
theorem ek31 : K2.ops = 1 := by kernel_rfl
theorem ek32 : K2.off = false := by kernel_rfl
theorem ek33 : readD K1 0 1 1 = (secS 97, 0) := by kernel_rfl
end Go.Proofs.Ythipaabjmlgjmaa
namespace Go.Proofs.Ythipaabjmlgjmaa
open Go.RowKit Go Go.Maps
set_option linter.unusedVariables false
set_option linter.unusedSimpArgs false
theorem ek34 : sizeD (crashD K1 []) 0 = 0 := by kernel_rfl
theorem ek35 : (crashD K1 []).ops = 1 := by kernel_rfl
theorem ek36 : (crashD K1 []).off = false := by kernel_rfl
theorem bs_new (W : World) (l : List Bool) (t : TypeId) : BsAt (W.alloc (.cells (l.map Value.bool).toArray t)) (some ⟨W.heap.size, 0, none⟩) l :=
  .inr ⟨_, 0, rfl, (Blk.new W t _).lt, fun j v hv => by rw [Nat.zero_add, (Blk.new W t _).cell]; simp [hv]⟩
end Go.Proofs.Ythipaabjmlgjmaa
namespace Go.Proofs.Ythipaabjmlgjmaa
open Go.RowKit Go Go.Maps
set_option linter.unusedVariables false
set_option linter.unusedSimpArgs false
/-- an operation of a script -/
structure Fop where
  kd : Int
  fi : Int
  pl : Int
  n : Int
  c : Int
  s : ByteArray
  kA : Option Addr
  kc : Nat
  ks : List Bool
abbrev fopC (x : Fop) : Array Value := #[.int .i64 x.kd, .int .i64 x.fi, .int .i64 x.pl, .int .i64 x.n, .int .u8 x.c, .string x.s, .slice x.kA x.ks.length x.kc]
def J64 (x : Int) : Prop := -9223372036854775808 ≤ x ∧ x ≤ 9223372036854775807
def FitP (x : Fop) : Prop := J64 x.kd ∧ J64 x.fi ∧ J64 x.pl ∧ J64 x.n ∧ 0 ≤ x.c ∧ x.c < 256 ∧ x.ks.length ≤ maxLen
/-- flags below a block's number -/
def KsAt (w : World) (B : Nat) (A : Option Addr) (l : List Bool) : Prop := l = [] ∨ ∃ b o, A = some ⟨b, o, none⟩ ∧ b < B ∧ ∀ j v, l[j]? = some v → w.cell? ⟨b, o + j, none⟩ = some (.bool v)
theorem ks_below {w W : World} {B : Nat} {A : Option Addr} {l : List Bool} (h : KsAt w B A l) (hb : Below B w W) : KsAt W B A l := by
  rcases h with h | ⟨b, o, hA, hlt, hc⟩
  · exact .inl h
  · exact .inr ⟨b, o, hA, hlt, fun j v hv => (hb.cell (p := ⟨b, o + j, none⟩) hlt).trans (hc j v hv)⟩
theorem ks_bs {W : World} {B : Nat} {A : Option Addr} {l : List Bool} (h : KsAt W B A l) (hB : B ≤ W.heap.size) : BsAt W A l := by
  rcases h with h | ⟨b, o, hA, hlt, hc⟩
  · exact .inl h
  · exact .inr ⟨b, o, hA, by omega, hc⟩
/-- an operation's cells -/
structure FopAt (w : World) (b o : Nat) (x : Fop) : Prop where
  c0 : w.cell? ⟨b, o, none⟩ = some (.int .i64 x.kd)
  c1 : w.cell? ⟨b, o + 1, none⟩ = some (.int .i64 x.fi)
  c2 : w.cell? ⟨b, o + 2, none⟩ = some (.int .i64 x.pl)
  c3 : w.cell? ⟨b, o + 3, none⟩ = some (.int .i64 x.n)
  c4 : w.cell? ⟨b, o + 4, none⟩ = some (.int .u8 x.c)
  c5 : w.cell? ⟨b, o + 5, none⟩ = some (.string x.s)
  c6 : w.cell? ⟨b, o + 6, none⟩ = some (.slice x.kA x.ks.length x.kc)
theorem fopAt_below {w W : World} {b o B : Nat} {x : Fop} (h : FopAt w b o x) (hb : Below B w W) (hlt : b < B) : FopAt W b o x :=
  ⟨(hb.cell (p := ⟨b, o, none⟩) hlt).trans h.c0, (hb.cell (p := ⟨b, o + 1, none⟩) hlt).trans h.c1, (hb.cell (p := ⟨b, o + 2, none⟩) hlt).trans h.c2, (hb.cell (p := ⟨b, o + 3, none⟩) hlt).trans h.c3, (hb.cell (p := ⟨b, o + 4, none⟩) hlt).trans h.c4, (hb.cell (p := ⟨b, o + 5, none⟩) hlt).trans h.c5, (hb.cell (p := ⟨b, o + 6, none⟩) hlt).trans h.c6⟩
/-- a script -/
def Fops (w : World) (B : Nat) (A : Option Addr) (l : List Fop) : Prop :=
  l = [] ∨ ∃ b o, A = some ⟨b, o, none⟩ ∧ b < B ∧ ∀ (j : Nat) x, l[j]? = some x → FopAt w b (o + j * 7) x ∧ KsAt w B x.kA x.ks
theorem fops_below {w W : World} {B : Nat} {A : Option Addr} {l : List Fop} (h : Fops w B A l) (hb : Below B w W) : Fops W B A l := by
  rcases h with h | ⟨b, o, hA, hlt, hc⟩
  · exact .inl h
  · exact .inr ⟨b, o, hA, hlt, fun j x hx => ⟨fopAt_below (hc j x hx).1 hb hlt, ks_below (hc j x hx).2 hb⟩⟩
theorem fops_get {w : World} {B : Nat} {A : Option Addr} {l : List Fop} (h : Fops w B A l) (hl : l ≠ []) : ∃ b o, A = some ⟨b, o, none⟩ ∧ b < B ∧ ∀ W, Below B w W → ∀ (j : Nat) x, l[j]? = some x → FopAt W b (o + j * 7) x ∧ KsAt W B x.kA x.ks := by
  rcases h with h | ⟨b, o, hA, hlt, hc⟩
  · exact absurd h hl
  · exact ⟨b, o, hA, hlt, fun W hb j x hx => ⟨fopAt_below (hc j x hx).1 hb hlt, ks_below (hc j x hx).2 hb⟩⟩
/-- what an operation is that is not too heavy -/
def Light (x : Fop) : Prop := x.s.size ≤ 16384 ∧ x.ks.length ≤ 4096
/-- what heavy answers -/
def HvP (l : List Fop) (e : Ending) : Prop := ∃ r, e = .returned (.bool r) ∧ (r = false → l.length ≤ 200 ∧ ∀ x ∈ l, Light x)
theorem light_snoc {l : List Fop} {j : Nat} (hj : j < l.length) (h : ∀ x ∈ l.take j, Light x) (hx : Light l[j]) : ∀ x ∈ l.take (j + 1), Light x := fun x hm => by
  rw [List.take_add_one, List.getElem?_eq_getElem hj] at hm
  rcases List.mem_append.1 hm with h1 | h1
  · exact h x h1
  · simp at h1; rw [h1]; exact hx
end Go.Proofs.Ythipaabjmlgjmaa
namespace Go.Proofs.Ythipaabjmlgjmaa
open Go.RowKit Go Go.Maps
set_option linter.unusedVariables false
set_option linter.unusedSimpArgs false
/-- one flag or the other -/
def SomeB (e : Ending) : Prop := ∃ r, e = .returned (.bool r)
def errF (x : Fop) : Int := if x.n % 2 = 0 then 31 else 30
def placeF (x : Fop) : Int := if x.kd = 0 ∧ 100 < x.pl ∧ x.pl < 8126 then 100 else x.pl
abbrev fopV (x : Fop) : Value := .agg (fopC x)
end Go.Proofs.Ythipaabjmlgjmaa
namespace Go.Proofs.Ythipaabjmlgjmaa
open Go.RowKit Go Go.Maps
set_option linter.unusedVariables false
set_option linter.unusedSimpArgs false
theorem builderAt_below {T e : TypeId} {B b : Nat} {p : Value} {bs : List Value} {W W' : World} (h : Lib.BuilderAt T e B b p bs W) (hb : Below W.heap.size W W') : Lib.BuilderAt T e B b p bs W' := by
  have hlt := h.lt
  obtain ⟨hB, v, hc, hown, hne⟩ := h
  refine ⟨hB, v, (hb.block b hlt).trans hc, hown.kept (row := none) ⟨hb.os, hb.tape, hb.output, hb.size, fun i hi _ => hb.block i hi⟩ ?_, hne⟩
  by_cases hv : v.ownBlock = none
  · exact .inl hv
  · exact .inr hv
theorem builder_below {T e : TypeId} {B b : Nat} {bs : List Value} {W W' : World} (h : Lib.IsBuilder T e B b bs W) (hb : Below W.heap.size W W') : Lib.IsBuilder T e B b bs W' := by
  rcases h with h | h
  · exact .inl (builderAt_below h hb)
  · exact .inr (builderAt_below h hb)
theorem builder_new (w : World) (T e : TypeId) : Lib.IsBuilder T e w.heap.size w.heap.size [] (w.alloc (.cells #[.pointer none, .slice none 0 0] T)) :=
  .inl ⟨Nat.le_refl _, .slice none 0 0, heap_alloc_new w _, World.ownsRow_nil _ _ _ _, by simp [Value.ownBlock]⟩
theorem bws (B b : Nat) (L : List Nat) (s : ByteArray) (w : World) (h : Lib.IsBuilder 111 5 B b (Lib.strCells (bstr L)) w) (hlen : L.length + s.size ≤ 140737488355328) (hBw : B ≤ w.heap.size) :
    Calls Try.prog 62 #[.pointer (some ⟨b, 0, none⟩), .string s] w fun e w' => e = .returned (.tuple #[.int .i64 s.size, .nilIface]) ∧ Lib.IsBuilder 111 5 B b (Lib.strCells (bstr (L ++ bts s))) w' ∧ Below B w w' := by
  have hc := Any.Builder_WriteString { Try.lays105 with } Try.Builder_Extra_105 B b (Lib.strCells (bstr L)) s w h (by rw [Lib.strCells_length, bstr_size]; exact hlen) hBw
  refine hc.mono fun e w' he => ⟨he.1, ?_, he.2.2⟩
  have e : Lib.strCells (bstr L) ++ Lib.strCells s = Lib.strCells (bstr (L ++ bts s)) := by
    rw [← bstr_append, bstr_bts]
    simp [Lib.strCells]
  rw [← e]
  exact .inr he.2.1
theorem bstring (B b : Nat) (L : List Nat) (w : World) (h : Lib.IsBuilder 111 5 B b (Lib.strCells (bstr L)) w) (hBw : B ≤ w.heap.size) :
    Calls Try.prog 59 #[.pointer (some ⟨b, 0, none⟩)] w fun e w' => e = .returned (.string (bstr L)) ∧ Below B w w' := by
  have hc := Try.Builder_String_any B b (bstr L).data.toList w h hBw
  exact hc
/-- the byte of an operation's sector -/
def byF (c : Int) (i : Nat) : Nat := (c.toNat + i) % 256
def bysL (c : Int) (m : Nat) : List Nat := (List.range m).flatMap fun i => List.replicate 64 (byF c i)
theorem bysL_length (c : Int) (m : Nat) : (bysL c m).length = 64 * m := by
  induction m with
  | zero => rfl
  | succ m ih => unfold bysL at ih ⊢; rw [List.range_succ, List.flatMap_append, List.length_append, ih]; simp; omega
theorem bysL_succ (c : Int) (m : Nat) : bysL c (m + 1) = bysL c m ++ List.replicate 64 (byF c m) := by
  unfold bysL; rw [List.range_succ, List.flatMap_append]; simp
def cntF (x : Fop) : Nat := (min (max x.n 0) 64).toNat
def bytesF (x : Fop) : ByteArray := if x.kd = 0 then bstr (bysL x.c (cntF x)) else x.s
theorem bytesF_size {x : Fop} (hl : Light x) : (bytesF x).size ≤ 16384 := by
  unfold bytesF
  split
  · rw [bstr_size, bysL_length]; unfold cntF; omega
  · exact hl.1
theorem bts_secS {c : Nat} (h : c < 256) : bts (secS c) = List.replicate 64 c := by
  unfold secS
  exact bts_bstr _ (fun x hx => by rw [(List.mem_replicate.1 hx).2]; exact h)
/-- a file's bytes, as far as they are looked at -/
def allF (d : Dk) (f : Int) : ByteArray := (readD d f 0 (min (sizeD d f) 300)).1
end Go.Proofs.Ythipaabjmlgjmaa
namespace Go.Proofs.Ythipaabjmlgjmaa
open Go.RowKit Go Go.Maps
set_option linter.unusedVariables false
set_option linter.unusedSimpArgs false
/-- what an operation of a script makes of a disk -/
def stepD (d : Dk) (x : Fop) : Dk :=
  if x.kd = 1 then (cutD d x.fi x.n).1 else if x.kd = 2 then (syncD d x.fi).1 else if x.kd = 3 ∨ x.kd = 7 then d else if x.kd = 4 then (armD d x.n (errF x)).1
  else if x.kd = 5 then (powerD d x.n).1 else if x.kd = 6 then crashD d x.ks else (writeD d x.fi (placeF x) (bytesF x)).1
def runD (d : Dk) (l : List Fop) : Dk := l.foldl stepD d
theorem runD_snoc (d : Dk) (l : List Fop) (x : Fop) : runD d (l ++ [x]) = stepD (runD d l) x := by unfold runD; rw [List.foldl_append]; rfl
theorem dkR_join {w u v x : World} {S S' : Nat → Prop} {g : Nat} {d : Dk} {N : Nat} (h2 : Fr S w u) (h3 : ∀ b, S' b → S b ∨ w.heap.size ≤ b) (hb : Below u.heap.size u v) (k : DkR v S' g d N x) : DkR w S g d N x := by
  obtain ⟨S2, k1, k2, k3⟩ := k
  refine ⟨S2, k1, fr_trans (fr_step h2 hb) k2 h3, fun b hs => ?_⟩
  rcases k3 b hs with h4 | h4
  · exact h3 b h4
  · exact .inr (Nat.le_trans h2.size (Nat.le_trans hb.size h4))
theorem dkR_more {w w' : World} {S : Nat → Prop} {g : Nat} {d : Dk} {N : Nat} (h : DkR w S g d N w') (hN : N + 1 ≤ 1000000) : DkR w S g d (N + 1) w' := by
  obtain ⟨S', h1, h2, h3⟩ := h
  exact ⟨S', dkS_more h1 hN, h2, h3⟩
theorem dkS_lt {w : World} {S : Nat → Prop} {g : Nat} {d : Dk} {N : Nat} (h : DkS w S g d N) : ∀ b, S b → b < w.heap.size := by
  obtain ⟨m, hm⟩ := h
  exact hm.lt
theorem fopAt_fr {S : Nat → Prop} {w W : World} {b o : Nat} {x : Fop} (h : FopAt w b o x) (hf : Fr S w W) (hlt : b < w.heap.size) (hS : ¬ S b) : FopAt W b o x :=
  have e : ∀ i : Nat, W.cell? ⟨b, i, none⟩ = w.cell? ⟨b, i, none⟩ := fun i => World.cell?_of_block (a := ⟨b, i, none⟩) (hf.block b hlt hS)
  ⟨(e _).trans h.c0, (e _).trans h.c1, (e _).trans h.c2, (e _).trans h.c3, (e _).trans h.c4, (e _).trans h.c5, (e _).trans h.c6⟩
theorem q_blk {V V' : World} {S : Nat → Prop} {g q : Nat} {d : Dk} {N : Nat} {t : TypeId} {cs : Array Value} (h : Blk V q t cs) (hr : DkR V S g d N V') (hq : ¬ S q) : Blk V' q t cs := by
  obtain ⟨S', _, hf, _⟩ := hr
  exact fr_blk hf h hq
theorem s7 {V : World} {q : Nat} {t : TypeId} {a0 a1 a2 a3 a4 a5 a6 : Value} (h : Blk V q t #[a0, a1, a2, a3, a4, a5, a6]) :
    V.cell? ⟨q, 0, none⟩ = some a0 ∧ V.cell? ⟨q, 1, none⟩ = some a1 ∧ V.cell? ⟨q, 2, none⟩ = some a2 ∧ V.cell? ⟨q, 3, none⟩ = some a3 ∧ V.cell? ⟨q, 4, none⟩ = some a4 ∧ V.cell? ⟨q, 5, none⟩ = some a5 ∧ V.cell? ⟨q, 6, none⟩ = some a6 :=
  ⟨by rw [h.cell]; rfl, by rw [h.cell]; rfl, by rw [h.cell]; rfl, by rw [h.cell]; rfl, by rw [h.cell]; rfl, by rw [h.cell]; rfl, by rw [h.cell]; rfl⟩
end Go.Proofs.Ythipaabjmlgjmaa
namespace Go.Proofs.Ythipaabjmlgjmaa
open Go.RowKit Go Go.Maps
set_option linter.unusedVariables false
set_option linter.unusedSimpArgs false
theorem kd_ok {w0 W : World} {g : Nat} {d : Dk} {N : Nat} (h : Kd w0 g d N W) : ∀ i, i < 16 → FlOk (d.fl i) := by
  obtain ⟨S, ⟨m, hm⟩, _, _⟩ := h
  exact hm.ok
theorem crashD_nil (d : Dk) : crashD d [] = crash1 d := by
  unfold crashD
  rw [kept_nil]
  rfl
theorem inF_of {f : Int} (h0 : 0 ≤ f) (h8 : f < 8) : inF f = true := by
  unfold inF
  simp [h0, h8]
theorem sizeD_of (d : Dk) {f : Int} (h0 : 0 ≤ f) (h8 : f < 8) : sizeD d f = ((d.fl f.toNat).length : Nat) := by
  unfold sizeD
  rw [inF_of h0 h8]
  rfl
theorem readyD_of {d : Dk} {f : Int} (h0 : 0 ≤ f) (h8 : f < 8) (ho : d.off = false) : readyD d f = 0 := by
  unfold readyD
  rw [ho, inF_of h0 h8]
  rfl
theorem allF_of {d : Dk} {f : Int} (h0 : 0 ≤ f) (h8 : f < 8) (ho : d.off = false) : allF d f = bstr ((d.fl f.toNat).take (min (d.fl f.toNat).length 300)).flatten := by
  unfold allF readD
  rw [if_neg (by rw [readyD_of h0 h8 ho]; simp), sizeD_of d h0 h8, if_neg (by omega)]
  have e : (min (((d.fl f.toNat).length : Nat) : Int) 300).toNat = min (d.fl f.toNat).length 300 := by omega
  rw [e]
  rfl
theorem flat_take : ∀ (l : List Sec) (k : Nat), (∀ s ∈ l, SecOk s) → (l.flatten).take (64 * k) = (l.take k).flatten
  | [], k, _ => by simp
  | s :: l, 0, _ => by simp
  | s :: l, k + 1, h => by
    have hs := (h s (by simp)).1
    rw [List.flatten_cons, List.take_succ_cons, List.flatten_cons, ← flat_take l k (fun x hx => h x (by simp [hx])), show 64 * (k + 1) = s.length + 64 * k by omega, List.take_length_add_append]
theorem flat_size (l : List Sec) (h : ∀ s ∈ l, SecOk s) : l.flatten.length = 64 * l.length := by
  induction l with
  | nil => rfl
  | cons s l ih =>
    have hs := (h s (by simp)).1
    rw [List.flatten_cons, List.length_append, hs, ih (fun x hx => h x (by simp [hx])), List.length_cons]
    omega
theorem bstr_ext (L : List Nat) (k : Nat) : (bstr L).extract 0 k = bstr (L.take k) := by
  apply ByteArray.ext
  apply Array.ext'
  simp [bstr]
/-- the disk behind a cut of a disk on which nothing is loose -/
def cutE (D : Dk) (i n : Nat) : Dk := { doneAll 0 D.op1 [cutC i n] with loose := D.loose ++ [cutC i n] }
section
variable {d0 : Dk} {f n : Int}
theorem c1_off : (crash1 d0).off = false := rfl
theorem c1_fl (i : Nat) (hi : i < 8) : (crash1 d0).fl i = (crash1 d0).fl (8 + i) := by
  show (if i < 8 then d0.fl (8 + i) else d0.fl i) = (if 8 + i < 8 then d0.fl (8 + (8 + i)) else d0.fl (8 + i))
  rw [if_pos hi, if_neg (by omega)]
theorem cut_bad (h0 : 0 ≤ f) (h8 : f < 8) (h : n < 0 ∨ sizeD (crash1 d0) f < n) : cutD (crash1 d0) f n = (crash1 d0, 5) := by
  unfold cutD
  rw [if_neg (by rw [readyD_of h0 h8 c1_off]; simp), if_pos h]
theorem cut_good (h0 : 0 ≤ f) (h8 : f < 8) (h : ¬ (n < 0 ∨ sizeD (crash1 d0) f < n)) : cutD (crash1 d0) f n = (cutE (crash1 d0) f.toNat n.toNat, 0) := by
  unfold cutD
  rw [if_neg (by rw [readyD_of h0 h8 c1_off]; simp), if_neg h]
  unfold opD
  rw [if_neg (by show ¬ (d0.ops : Int) = -1; omega), if_neg (by simp [crash1])]
  rfl
theorem cutE_now (D : Dk) (i n : Nat) : (cutE D i n).fl i = (D.fl i).take n := by
  show (doneAll 0 D.op1 [cutC i n]).fl i = _
  simp [doneAll, doneA, Dk.setF, cutC, doneF, Dk.op1]
theorem cutE_sure (D : Dk) (i n : Nat) (hi : i < 8) : (cutE D i n).fl (8 + i) = D.fl (8 + i) := by
  show (doneAll 0 D.op1 [cutC i n]).fl (8 + i) = _
  simp [doneAll, doneA, Dk.setF, cutC, doneF, Dk.op1]
theorem cutE_off (D : Dk) (i n : Nat) : (cutE D i n).off = D.off := rfl
theorem cutE_kept (i n : Nat) (hi : i < 8) : (crashD (cutE (crash1 d0) i n) [true]).fl i = ((crash1 d0).fl i).take n := by
  have e : kept [true] (cutE (crash1 d0) i n).loose = [cutC i n] := rfl
  unfold crashD
  rw [e]
  show (if i < 8 then (doneAll 1 (cutE (crash1 d0) i n) [cutC i n]).fl (8 + i) else _) = _
  rw [if_pos hi, c1_fl i hi, ← cutE_sure (crash1 d0) i n hi]
  simp [doneAll, doneA, Dk.setF, cutC, doneF]
theorem cutE_gone (i n : Nat) (hi : i < 8) : (crashD (cutE (crash1 d0) i n) []).fl i = (crash1 d0).fl i := by
  rw [crashD_nil]
  show (if i < 8 then (cutE (crash1 d0) i n).fl (8 + i) else _) = _
  rw [if_pos hi, cutE_sure _ _ _ hi, ← c1_fl i hi]
end
/-- two disks that share no block -/
def Kd2 (w0 : World) (g : Nat) (d : Dk) (N : Nat) (g' : Nat) (d' : Dk) (N' : Nat) (W : World) : Prop :=
  ∃ S S', DkS W S g d N ∧ DkS W S' g' d' N' ∧ (∀ b, S b → ¬ S' b) ∧ (∀ b, S b → w0.heap.size ≤ b) ∧ (∀ b, S' b → w0.heap.size ≤ b) ∧ Below w0.heap.size w0 W
theorem kd2_l {w0 W : World} {g g' N N' : Nat} {d d' : Dk} (h : Kd2 w0 g d N g' d' N' W) : Kd w0 g d N W := by
  obtain ⟨S, S', h1, h2, h3, h4, h5, h6⟩ := h
  exact ⟨S, h1, h4, h6⟩
theorem kd2_r {w0 W : World} {g g' N N' : Nat} {d d' : Dk} (h : Kd2 w0 g d N g' d' N' W) : Kd w0 g' d' N' W := by
  obtain ⟨S, S', h1, h2, h3, h4, h5, h6⟩ := h
  exact ⟨S', h2, h5, h6⟩
theorem kd2_below {w0 W W' : World} {g g' N N' : Nat} {d d' : Dk} (h : Kd2 w0 g d N g' d' N' W) (hb : Below W.heap.size W W') : Kd2 w0 g d N g' d' N' W' := by
  obtain ⟨S, S', h1, h2, h3, h4, h5, h6⟩ := h
  exact ⟨S, S', dkS_below h1 hb, dkS_below h2 hb, h3, h4, h5, bj h6 hb⟩
theorem kd2_r_l {w0 W W' : World} {S S' : Nat → Prop} {g g' N N' N2 : Nat} {d d' d2 : Dk} (h1 : DkS W S g d N) (h2 : DkS W S' g' d' N') (h3 : ∀ b, S b → ¬ S' b) (h4 : ∀ b, S b → w0.heap.size ≤ b) (h5 : ∀ b, S' b → w0.heap.size ≤ b) (h6 : Below w0.heap.size w0 W) (hr : DkR W S g d2 N2 W') : Kd2 w0 g d2 N2 g' d' N' W' := by
  obtain ⟨S2, k1, k2, k3⟩ := hr
  refine ⟨S2, S', k1, dkS_keep h2 k2 (fun b hb hs => h3 b hs hb), fun b hb hb2 => ?_, fun b hb => ?_, h5, h6.trans (fr_below k2 h4 h6.size)⟩
  · rcases k3 b hb with h | h
    · exact h3 b h hb2
    · have := dkS_lt h2 b hb2; omega
  · rcases k3 b hb with h | h
    · exact h4 b h
    · exact Nat.le_trans h6.size h
theorem kd_copy2 {w0 W : World} {g : Nat} {d : Dk} {N : Nat} (h : Kd w0 g d N W) : Calls Try.prog 23 #[.pointer (some ⟨g, 0, none⟩)] W fun e w' => ∃ g', e = .returned (.pointer (some ⟨g', 0, none⟩)) ∧ Kd2 w0 g d N g' d N w' := by
  obtain ⟨S, h1, h2, h3⟩ := h
  refine (copy_any S g d N W h1).mono fun e w' ⟨g', S', he, hd, hs, hb⟩ => ⟨g', he, S, S', dkS_below h1 hb, hd, fun b hb1 hb2 => ?_, h2, fun b hb2 => Nat.le_trans h3.size (hs b hb2), bj h3 hb⟩
  have := dkS_lt h1 b hb1
  have := hs b hb2
  omega
theorem fops_mono {w : World} {B B' : Nat} {A : Option Addr} {l : List Fop} (h : Fops w B A l) (hB : B ≤ B') : Fops w B' A l := by
  rcases h with h | ⟨b, o, hA, hlt, hc⟩
  · exact .inl h
  · refine .inr ⟨b, o, hA, by omega, fun j x hx => ⟨(hc j x hx).1, ?_⟩⟩
    rcases (hc j x hx).2 with h | ⟨b2, o2, hA2, hlt2, hc2⟩
    · exact .inl h
    · exact .inr ⟨b2, o2, hA2, by omega, hc2⟩
end Go.Proofs.Ythipaabjmlgjmaa
namespace Go.Proofs.Ythipaabjmlgjmaa
open Go.RowKit Go Go.Maps
set_option linter.unusedVariables false
set_option linter.unusedSimpArgs false
theorem doneAll_fl (s : Nat) : ∀ (l : List Ch) (d : Dk) (j : Nat), (doneAll s d l).fl j = (l.filter fun c => decide (8 * s + c.file = j)).foldl doneF (d.fl j)
  | [], d, j => rfl
  | c :: l, d, j => by
    show (doneAll s (doneA s d c) l).fl j = _
    rw [doneAll_fl s l (doneA s d c) j]
    by_cases h : 8 * s + c.file = j
    · rw [List.filter_cons_of_pos (by simpa using h), List.foldl_cons]
      congr 1
      subst h
      simp [doneA, Dk.setF]
    · rw [List.filter_cons_of_neg (by simpa using h)]
      congr 1
      show (if j = 8 * s + c.file then _ else d.fl j) = d.fl j
      rw [if_neg (fun e => h e.symm)]
theorem mine0 (i : Nat) (l : List Ch) : (l.filter fun c => decide (8 * 0 + c.file = i)) = mine i l := by
  unfold mine
  congr 1
  funext c
  simp
theorem mine1 (i : Nat) (l : List Ch) : (l.filter fun c => decide (8 * 1 + c.file = 8 + i)) = mine i l := by
  unfold mine
  congr 1
  funext c
  simp
theorem far0 {i : Nat} {l : List Ch} (h : ∀ c ∈ l, c.file < 8) : (l.filter fun c => decide (8 * 0 + c.file = 8 + i)) = [] := by
  rw [List.filter_eq_nil_iff]
  intro c hc
  have := h c hc
  simp
  omega
theorem far1 {i : Nat} {l : List Ch} (hi : i < 8) : (l.filter fun c => decide (8 * 1 + c.file = i)) = [] := by
  rw [List.filter_eq_nil_iff]
  intro c hc
  simp
  omega
theorem mine_none {i : Nat} {l : List Ch} (h : ∀ c ∈ l, c.file ≠ i) : mine i l = [] := by
  unfold mine
  rw [List.filter_eq_nil_iff]
  intro c hc
  simpa using h c hc
theorem mem_mine {i : Nat} {c : Ch} {l : List Ch} (hc : c ∈ l) (e : c.file = i) : c ∈ mine i l := List.mem_filter.2 ⟨hc, by simpa using e⟩
theorem mine_app (i : Nat) (a b : List Ch) : mine i (a ++ b) = mine i a ++ mine i b := by unfold mine; rw [List.filter_append]
theorem mine_mine (i : Nat) (l : List Ch) : mine i (mine i l) = mine i l := by unfold mine; rw [List.filter_filter]; congr 1; funext c; simp
theorem mine_ne {i f : Nat} (h : i ≠ f) (l : List Ch) : mine i (mine f l) = [] := mine_none (fun c hc => by
  have := (List.mem_filter.1 hc).2
  simp at this
  omega)
theorem mine_rest (i : Nat) (l : List Ch) : mine i (rest i l) = [] := mine_none (fun c hc => by
  have := (List.mem_filter.1 hc).2
  simpa using this)
theorem mine_rest_ne {i f : Nat} (h : i ≠ f) (l : List Ch) : mine i (rest f l) = mine i l := by
  unfold mine rest
  rw [List.filter_filter]
  congr 1
  funext c
  by_cases e : c.file = i
  · simp [e, h]
  · simp [e]
theorem wrL_file {f pl : Nat} {s : ByteArray} : ∀ c ∈ wrL f pl s, c.file = f := fun c hc => by
  obtain ⟨q, _, rfl⟩ := List.mem_map.1 hc
  rfl
/-- now is what is sure, with what is loose done -/
def Jd (d : Dk) : Prop := (∀ i, i < 8 → d.fl i = (mine i d.loose).foldl doneF (d.fl (8 + i))) ∧ ∀ c ∈ d.loose, c.file < 8
/-- what is sure of a file, of which nothing is loose -/
def Id (i : Nat) (X : Fl) (d : Dk) : Prop := d.fl (8 + i) = X ∧ mine i d.loose = []
theorem opD_cases (d : Dk) (made : List Ch) : ((opD d made).1.fl = d.fl ∧ (opD d made).1.loose = d.loose ∧ (opD d made).2 ≠ 0) ∨ ((opD d made).1 = { doneAll 0 d.op1 made with loose := d.loose ++ made } ∧ (opD d made).2 = 0 ∧ (d.ops : Int) ≠ d.power) := by
  unfold opD
  by_cases h : (d.ops : Int) = d.power
  · rw [if_pos h]; exact .inl ⟨rfl, rfl, by simp⟩
  · rw [if_neg h]
    by_cases h2 : d.armed d.ops ≠ 0
    · rw [if_pos h2]; exact .inl ⟨rfl, rfl, h2⟩
    · rw [if_neg h2]; exact .inr ⟨rfl, rfl, h⟩
theorem jd_op {d : Dk} (h : Jd d) (made : List Ch) (hm : ∀ c ∈ made, c.file < 8) : Jd (opD d made).1 := by
  rcases opD_cases d made with ⟨h1, h2, _⟩ | ⟨h1, _⟩
  · unfold Jd; rw [h1, h2]; exact h
  · rw [h1]
    refine ⟨fun i hi => ?_, fun c hc => ?_⟩
    · show (doneAll 0 d.op1 made).fl i = (mine i (d.loose ++ made)).foldl doneF ((doneAll 0 d.op1 made).fl (8 + i))
      rw [doneAll_fl, doneAll_fl, mine0, far0 hm, mine_app, List.foldl_append]
      show (mine i made).foldl doneF (d.fl i) = (mine i made).foldl doneF ((mine i d.loose).foldl doneF (d.fl (8 + i)))
      rw [← h.1 i hi]
    · rcases List.mem_append.1 hc with h1 | h1
      · exact h.2 c h1
      · exact hm c h1
theorem id_op {i : Nat} {X : Fl} {d : Dk} (h : Id i X d) (made : List Ch) (hm : ∀ c ∈ made, c.file < 8) (hne : ∀ c ∈ made, c.file ≠ i) : Id i X (opD d made).1 := by
  rcases opD_cases d made with ⟨h1, h2, _⟩ | ⟨h1, _⟩
  · unfold Id; rw [h1, h2]; exact h
  · rw [h1]
    refine ⟨?_, ?_⟩
    · show (doneAll 0 d.op1 made).fl (8 + i) = X
      rw [doneAll_fl, far0 hm]
      exact h.1
    · show mine i (d.loose ++ made) = []
      rw [mine_app, h.2, mine_none hne]
      rfl
theorem ready_in {d : Dk} {f : Int} (h : readyD d f = 0) : 0 ≤ f ∧ f < 8 := (ready_ok h).2.2
theorem write_made (d : Dk) (f pl : Int) (s : ByteArray) : (writeD d f pl s).1 = d ∨ (0 ≤ f ∧ f < 8 ∧ writeD d f pl s = opD d (wrL f.toNat pl.toNat s)) := by
  unfold writeD
  by_cases hr : readyD d f = 0
  · rw [if_neg (by simpa using hr)]
    split
    · exact .inl rfl
    · split
      · exact .inl rfl
      · exact .inr ⟨(ready_in hr).1, (ready_in hr).2, rfl⟩
  · rw [if_pos hr]; exact .inl rfl
theorem cut_made (d : Dk) (f n : Int) : (cutD d f n).1 = d ∨ (0 ≤ f ∧ f < 8 ∧ cutD d f n = opD d [cutC f.toNat n.toNat]) := by
  unfold cutD
  by_cases hr : readyD d f = 0
  · rw [if_neg (by simpa using hr)]
    split
    · exact .inl rfl
    · exact .inr ⟨(ready_in hr).1, (ready_in hr).2, rfl⟩
  · rw [if_pos hr]; exact .inl rfl
theorem sync_made (d : Dk) (f : Int) : (syncD d f).1 = d ∨ (0 ≤ f ∧ f < 8 ∧ ((syncD d f).1 = (opD d []).1 ∨ (syncD d f).1 = sync1 (opD d []).1 f.toNat)) := by
  unfold syncD
  by_cases hr : readyD d f = 0
  · rw [if_neg (by simpa using hr)]
    refine .inr ⟨(ready_in hr).1, (ready_in hr).2, ?_⟩
    split
    · exact .inl rfl
    · exact .inr rfl
  · rw [if_pos hr]; exact .inl rfl
theorem sync1_sure (d : Dk) (f i : Nat) : (sync1 d f).fl (8 + i) = (mine i (mine f d.loose)).foldl doneF (d.fl (8 + i)) := by
  show (doneAll 1 d (mine f d.loose)).fl (8 + i) = _
  rw [doneAll_fl, mine1]
theorem sync1_now (d : Dk) (f i : Nat) (hi : i < 8) : (sync1 d f).fl i = d.fl i := by
  show (doneAll 1 d (mine f d.loose)).fl i = _
  rw [doneAll_fl, far1 hi]
  rfl
theorem jd_sync1 {d : Dk} (h : Jd d) (f : Nat) : Jd (sync1 d f) := by
  refine ⟨fun i hi => ?_, fun c hc => h.2 c (List.mem_filter.1 hc).1⟩
  rw [sync1_now d f i hi, sync1_sure]
  show d.fl i = (mine i (rest f d.loose)).foldl doneF _
  by_cases e : i = f
  · subst e
    rw [mine_rest, mine_mine]
    exact h.1 i hi
  · rw [mine_rest_ne e, mine_ne e]
    exact h.1 i hi
theorem id_sync1 {i : Nat} {X : Fl} {d : Dk} (h : Id i X d) (f : Nat) : Id i X (sync1 d f) := by
  have h2 : mine i (rest f d.loose) = [] := mine_none (fun c hc e => by
    have hh : c ∈ mine i d.loose := mem_mine (List.mem_filter.1 hc).1 e
    rw [h.2] at hh
    cases hh)
  have h3 : mine i (mine f d.loose) = [] := mine_none (fun c hc e => by
    have hh : c ∈ mine i d.loose := mem_mine (List.mem_filter.1 hc).1 e
    rw [h.2] at hh
    cases hh)
  refine ⟨?_, h2⟩
  rw [sync1_sure, h3]
  exact h.1
theorem crash_sure (d : Dk) (k : List Bool) (i : Nat) : (crashD d k).fl (8 + i) = (mine i (kept k d.loose)).foldl doneF (d.fl (8 + i)) := by
  show (if 8 + i < 8 then _ else (doneAll 1 d (kept k d.loose)).fl (8 + i)) = _
  rw [if_neg (by omega), doneAll_fl, mine1]
theorem crash_now (d : Dk) (k : List Bool) (i : Nat) (hi : i < 8) : (crashD d k).fl i = (crashD d k).fl (8 + i) := by
  rw [crash_sure]
  show (if i < 8 then (doneAll 1 d (kept k d.loose)).fl (8 + i) else _) = _
  rw [if_pos hi, doneAll_fl, mine1]
theorem jd_crash (d : Dk) (k : List Bool) : Jd (crashD d k) :=
  ⟨fun i hi => by rw [crash_now d k i hi]; rfl, fun c hc => by cases hc⟩
theorem id_crash {i : Nat} {X : Fl} {d : Dk} (h : Id i X d) (k : List Bool) : Id i X (crashD d k) := by
  refine ⟨?_, rfl⟩
  rw [crash_sure, mine_none (fun c hc e => by
    have hh : c ∈ mine i d.loose := mem_mine (kept_sub k d.loose c hc) e
    rw [h.2] at hh
    cases hh)]
  exact h.1
theorem arm_same (d : Dk) (n e : Int) : (armD d n e).1.fl = d.fl ∧ (armD d n e).1.loose = d.loose := by unfold armD; split <;> exact ⟨rfl, rfl⟩
theorem power_same (d : Dk) (n : Int) : (powerD d n).1.fl = d.fl ∧ (powerD d n).1.loose = d.loose := by unfold powerD; split <;> exact ⟨rfl, rfl⟩
theorem jd_step {d : Dk} (h : Jd d) (x : Fop) : Jd (stepD d x) := by
  unfold stepD
  split
  · rcases cut_made d x.fi x.n with e | ⟨_, h8, e⟩
    · rw [e]; exact h
    · rw [e]; exact jd_op h _ (fun c hc => by rw [List.mem_singleton.1 hc]; show x.fi.toNat < 8; omega)
  · split
    · rcases sync_made d x.fi with e | ⟨_, _, e | e⟩
      · rw [e]; exact h
      · rw [e]; exact jd_op h [] (fun c hc => by cases hc)
      · rw [e]; exact jd_sync1 (jd_op h [] (fun c hc => by cases hc)) _
    · split
      · exact h
      · split
        · unfold Jd; rw [(arm_same d _ _).1, (arm_same d _ _).2]; exact h
        · split
          · unfold Jd; rw [(power_same d _).1, (power_same d _).2]; exact h
          · split
            · exact jd_crash _ _
            · rcases write_made d x.fi (placeF x) (bytesF x) with e | ⟨_, h8, e⟩
              · rw [e]; exact h
              · rw [e]; exact jd_op h _ (fun c hc => by rw [wrL_file c hc]; omega)
theorem jd_run : ∀ (l : List Fop) (d : Dk), Jd d → Jd (runD d l)
  | [], d, h => h
  | x :: l, d, h => jd_run l (stepD d x) (jd_step h x)
theorem jd_new : Jd newD := ⟨fun i hi => rfl, fun c hc => by cases hc⟩
theorem id_step {i : Nat} {X : Fl} {d : Dk} (h : Id i X d) (x : Fop) (hx : x.fi ≠ (i : Int)) : Id i X (stepD d x) := by
  unfold stepD
  split
  · rcases cut_made d x.fi x.n with e | ⟨_, h8, e⟩
    · rw [e]; exact h
    · rw [e]; exact id_op h _ (fun c hc => by rw [List.mem_singleton.1 hc]; show x.fi.toNat < 8; omega) (fun c hc => by rw [List.mem_singleton.1 hc]; show x.fi.toNat ≠ i; omega)
  · split
    · rcases sync_made d x.fi with e | ⟨_, _, e | e⟩
      · rw [e]; exact h
      · rw [e]; exact id_op h [] (fun c hc => by cases hc) (fun c hc => by cases hc)
      · rw [e]; exact id_sync1 (id_op h [] (fun c hc => by cases hc) (fun c hc => by cases hc)) _
    · split
      · exact h
      · split
        · unfold Id; rw [(arm_same d _ _).1, (arm_same d _ _).2]; exact h
        · split
          · unfold Id; rw [(power_same d _).1, (power_same d _).2]; exact h
          · split
            · exact id_crash h _
            · rcases write_made d x.fi (placeF x) (bytesF x) with e | ⟨_, h8, e⟩
              · rw [e]; exact h
              · rw [e]; exact id_op h _ (fun c hc => by rw [wrL_file c hc]; omega) (fun c hc => by rw [wrL_file c hc]; omega)
/-- behind a Sync that went well -/
theorem sync_good {d : Dk} (h : Jd d) {f : Int} (hs : (syncD d f).2 = 0) : 0 ≤ f ∧ f < 8 ∧ (syncD d f).1.off = false ∧ Id f.toNat ((syncD d f).1.fl f.toNat) (syncD d f).1 := by
  unfold syncD at hs ⊢
  by_cases hr : readyD d f = 0
  · rw [if_neg (by simpa using hr)] at hs ⊢
    by_cases ho : (opD d []).2 = 0
    · rw [if_neg (by simpa using ho)] at hs ⊢
      have hj := jd_op h [] (fun c hc => by cases hc)
      have hf := ready_in hr
      rcases opD_cases d [] with ⟨_, _, h3⟩ | ⟨h1, _, _⟩
      · exact absurd ho h3
      · refine ⟨hf.1, hf.2, ?_, ?_, mine_rest _ _⟩
        · show (doneAll 1 (opD d []).1 _).off = false
          rw [(doneAll_rest 1 _ _).2.2.2.2, h1]
          exact (ready_ok hr).1
        · show (sync1 (opD d []).1 f.toNat).fl (8 + f.toNat) = (sync1 (opD d []).1 f.toNat).fl f.toNat
          rw [sync1_sure, mine_mine, sync1_now _ _ _ (by omega)]
          exact (hj.1 f.toNat (by omega)).symm
    · rw [if_pos ho] at hs
      exact absurd hs ho
  · rw [if_pos hr] at hs
    exact absurd hs hr
theorem id_all {i : Nat} {X : Fl} {d : Dk} {f : Int} (h0 : 0 ≤ f) (h8 : f < 8) (hi : f.toNat = i) (h : Id i X d) (k : List Bool) : sizeD (crashD d k) f = (X.length : Nat) ∧ allF (crashD d k) f = bstr (X.take (min X.length 300)).flatten := by
  have e : (crashD d k).fl i = X := by rw [crash_now d k i (by omega)]; exact (id_crash h k).1
  exact ⟨by rw [sizeD_of _ h0 h8, hi, e], by rw [allF_of h0 h8 (by rfl), hi, e]⟩
end Go.Proofs.Ythipaabjmlgjmaa
namespace Go.Proofs.Ythipaabjmlgjmaa
open Go.RowKit Go Go.Maps
set_option linter.unusedVariables false
set_option linter.unusedSimpArgs false
theorem kept_all : ∀ (l : List Ch), kept (List.replicate l.length true) l = l
  | [] => rfl
  | c :: l => by
    show (if true then [c] else []) ++ kept (List.replicate l.length true) l = c :: l
    rw [kept_all l]
    rfl
theorem crash_all_fl {d : Dk} (h : Jd d) {i : Nat} (hi : i < 8) : (crashD d (List.replicate d.loose.length true)).fl i = d.fl i := by
  rw [crash_now _ _ _ hi, crash_sure, kept_all]
  exact (h.1 i hi).symm
theorem crash_nil_fl {d : Dk} (h : Jd d) (hl : d.loose = []) {i : Nat} (hi : i < 8) : (crashD d []).fl i = d.fl i := by
  rw [crash_now _ _ _ hi, crash_sure, kept_nil, h.1 i hi, hl]
theorem allF_same {d d' : Dk} {f : Int} (h0 : 0 ≤ f) (h8 : f < 8) (ho : d.off = false) (ho' : d'.off = false) (h : d'.fl f.toNat = d.fl f.toNat) : allF d' f = allF d f := by
  rw [allF_of h0 h8 ho, allF_of h0 h8 ho', h]
/-- a disk, and a block that is none of its own -/
def KdX (w0 : World) (g : Nat) (d : Dk) (N : Nat) (q : Nat) (t : TypeId) (cs : Array Value) (W : World) : Prop :=
  ∃ S, DkS W S g d N ∧ (∀ b, S b → w0.heap.size ≤ b) ∧ Below w0.heap.size w0 W ∧ ¬ S q ∧ w0.heap.size ≤ q ∧ Blk W q t cs
theorem kdx_kd {w0 W : World} {g : Nat} {d : Dk} {N q : Nat} {t : TypeId} {cs : Array Value} (h : KdX w0 g d N q t cs W) : Kd w0 g d N W := by
  obtain ⟨S, h1, h2, h3, _⟩ := h
  exact ⟨S, h1, h2, h3⟩
theorem kdx_blk {w0 W : World} {g : Nat} {d : Dk} {N q : Nat} {t : TypeId} {cs : Array Value} (h : KdX w0 g d N q t cs W) : Blk W q t cs := by
  obtain ⟨S, h1, h2, h3, _, _, h6⟩ := h
  exact h6
theorem kdx_new {w0 W : World} {g : Nat} {d : Dk} {N : Nat} (h : Kd w0 g d N W) (t : TypeId) (cs : Array Value) : KdX w0 g d N W.heap.size t cs (W.alloc (.cells cs t)) := by
  obtain ⟨S, h1, h2, h3⟩ := h
  exact ⟨S, dkS_below h1 one_alloc, h2, bj h3 one_alloc, fun e => by have := dkS_lt h1 _ e; omega, h3.size, Blk.new W t cs⟩
theorem kdx_below {w0 W W' : World} {g : Nat} {d : Dk} {N q : Nat} {t : TypeId} {cs : Array Value} (h : KdX w0 g d N q t cs W) (hb : Below W.heap.size W W') : KdX w0 g d N q t cs W' := by
  obtain ⟨S, h1, h2, h3, h4, h5, h6⟩ := h
  exact ⟨S, dkS_below h1 hb, h2, bj h3 hb, h4, h5, blk_step h6 hb⟩
theorem kdx_set {w0 W : World} {g : Nat} {d : Dk} {N q : Nat} {t : TypeId} {cs : Array Value} (h : KdX w0 g d N q t cs W) (i : Nat) (v : Value) : KdX w0 g d N q t (cs.setIfInBounds i v) (W.setCell ⟨q, i, none⟩ v) := by
  obtain ⟨S, h1, h2, h3, h4, h5, h6⟩ := h
  have hf : Fr (fun b => b = q) W (W.setCell ⟨q, i, none⟩ v) := fr_set (p := ⟨q, i, none⟩) (fr_refl (fun b => b = q) W) (.inl rfl) v
  exact ⟨S, dkS_keep h1 hf (fun b hb e => h4 (e ▸ hb)), h2, h3.trans (fr_below hf (fun k hk => by omega) h3.size), h4, h5, h6.set_ i v⟩
end Go.Proofs.Ythipaabjmlgjmaa
namespace Go.Proofs.Ythipaabjmlgjmaa
open Go.RowKit Go Go.Maps
set_option linter.unusedVariables false
set_option linter.unusedSimpArgs false
/-- a sector of a text -/
def secOf (s : ByteArray) (q : Nat) : Sec := ((bts s).drop (q * 64)).take 64
def wrP (l : Fl) (i p : Nat) (s : ByteArray) (k : Nat) : Fl := ((List.range k).map (wrC i p s)).foldl doneF l
theorem wrP_succ (l : Fl) (i p : Nat) (s : ByteArray) (k : Nat) : wrP l i p s (k + 1) = putS (wrP l i p s k) (p + k) (secOf s k) := by
  unfold wrP
  rw [List.range_succ, List.map_append, List.foldl_append]
  rfl
theorem wrP_length (l : Fl) (i p : Nat) (s : ByteArray) : ∀ k, (wrP l i p s k).length = if k = 0 then l.length else max l.length (p + k)
  | 0 => rfl
  | k + 1 => by
    rw [wrP_succ, putS_length, wrP_length l i p s k, if_neg (show ¬ k + 1 = 0 by omega)]
    by_cases h : k = 0
    · rw [if_pos h]; omega
    · rw [if_neg h]; omega
theorem wrP_get (l : Fl) (i p : Nat) (s : ByteArray) (j : Nat) : ∀ k, (wrP l i p s k).getD j zS = if p ≤ j ∧ j < p + k then secOf s (j - p) else l.getD j zS
  | 0 => by rw [if_neg (by omega)]; rfl
  | k + 1 => by
    rw [wrP_succ, putS_get, wrP_get l i p s j k]
    by_cases h : j = p + k
    · rw [if_pos h, if_pos (by omega), show j - p = k by omega]
    · rw [if_neg h]
      by_cases h2 : p ≤ j ∧ j < p + k
      · rw [if_pos h2, if_pos (by omega)]
      · rw [if_neg h2, if_neg (by omega)]
/-- a Write that failed changes no size -/
theorem write_fail (d : Dk) (f p : Int) (s : ByteArray) (g : Int) (h : (writeD d f p s).2 ≠ 0) : sizeD (writeD d f p s).1 g = sizeD d g := by
  rcases write_made d f p s with e | ⟨_, _, e⟩
  · rw [e]
  · rw [e] at h ⊢
    rcases opD_cases d (wrL f.toNat p.toNat s) with ⟨h1, _, _⟩ | ⟨_, h2, _⟩
    · unfold sizeD; rw [h1]
    · exact absurd h2 h
/-- a Write that went well -/
theorem write_good (d : Dk) (f p : Int) (s : ByteArray) (h : (writeD d f p s).2 = 0) : 0 ≤ f ∧ f < 8 ∧ 0 ≤ p ∧ 0 < s.size / 64 ∧ s.size % 64 = 0 ∧ (writeD d f p s).1.off = d.off ∧ (writeD d f p s).1.fl f.toNat = wrP (d.fl f.toNat) f.toNat p.toNat s (s.size / 64) ∧ ∀ j, j < 8 → j ≠ f.toNat → (writeD d f p s).1.fl j = d.fl j := by
  unfold writeD at h ⊢
  by_cases hr : readyD d f = 0
  · rw [if_neg (by simpa using hr)] at h ⊢
    by_cases h1 : s.size / 64 = 0 ∨ s.size % 64 ≠ 0
    · rw [if_pos h1] at h
      exact absurd h (by simp)
    · rw [if_neg h1] at h ⊢
      by_cases h2 : p < 0 ∨ 8192 < s.size / 64 ∨ 8192 - (s.size / 64 : Nat) < p
      · rw [if_pos h2] at h
        exact absurd h (by simp)
      · rw [if_neg h2] at h ⊢
        have hf := ready_in hr
        have hz : s.size % 64 = 0 := by
          by_cases e : s.size % 64 = 0
          · exact e
          · exact absurd (.inr e) h1
        have h0 : 0 < s.size / 64 := by
          by_cases e : s.size / 64 = 0
          · exact absurd (.inl e) h1
          · omega
        rcases opD_cases d (wrL f.toNat p.toNat s) with ⟨_, _, h3⟩ | ⟨h3, _, _⟩
        · exact absurd h h3
        · refine ⟨hf.1, hf.2, by omega, h0, hz, ?_, ?_, fun j hj hne => ?_⟩
          · rw [h3]
            show (doneAll 0 d.op1 _).off = d.off
            rw [(doneAll_rest 0 _ _).2.2.2.2]
            rfl
          · rw [h3]
            show (doneAll 0 d.op1 _).fl f.toNat = _
            rw [doneAll_fl, mine0]
            have e : mine f.toNat (wrL f.toNat p.toNat s) = wrL f.toNat p.toNat s := by
              unfold mine
              rw [List.filter_eq_self]
              intro c hc
              simpa using wrL_file c hc
            rw [e]
            rfl
          · rw [h3]
            show (doneAll 0 d.op1 _).fl j = _
            rw [doneAll_fl, mine0, mine_none (fun c hc e => hne (by rw [← e, wrL_file c hc]))]
            rfl
  · rw [if_pos hr] at h
    exact absurd h hr
/-- the sectors of a text of whole sectors, joined, are it -/
theorem secs_join (L : List Nat) : ∀ n, L.length = n * 64 → ((List.range n).map fun q => (L.drop (q * 64)).take 64).flatten = L := by
  intro n
  induction n generalizing L with
  | zero => intro h; simp at h; rw [h]; rfl
  | succ n ih =>
    intro h
    rw [List.range_succ_eq_map, List.map_cons, List.flatten_cons, List.map_map]
    have e := ih (L.drop 64) (by rw [List.length_drop]; omega)
    have e2 : ((List.range n).map ((fun q => (L.drop (q * 64)).take 64) ∘ Nat.succ)) = (List.range n).map fun q => ((L.drop 64).drop (q * 64)).take 64 := by
      apply List.map_congr_left
      intro q _
      simp only [Function.comp, List.drop_drop]
      congr 2
      omega
    rw [e2, e, Nat.zero_mul, List.drop_zero]
    exact List.take_append_drop 64 L
/-- what is read of a file where a text was written -/
theorem read_back (l : Fl) (i p : Nat) (s : ByteArray) (n : Nat) (hn : s.size = n * 64) (h0 : 0 < n) : (((wrP l i p s n).drop p).take n).flatten = bts s := by
  have hl := wrP_length l i p s n
  rw [if_neg (by omega)] at hl
  have e : ((wrP l i p s n).drop p).take n = (List.range n).map fun q => secOf s q := by
    apply List.ext_getElem?
    intro q
    by_cases hq : q < n
    · rw [List.getElem?_take, if_pos hq, List.getElem?_drop]
      have hg := wrP_get l i p s (p + q) n
      rw [if_pos (by omega), show p + q - p = q by omega, List.getD_eq_getElem?_getD, List.getElem?_eq_getElem (by omega)] at hg
      rw [List.getElem?_eq_getElem (by omega)]
      simp only [Option.getD_some] at hg
      rw [hg]
      simp [hq]
    · rw [List.getElem?_eq_none (by rw [List.length_take]; omega), List.getElem?_eq_none (by simp; omega)]
  rw [e]
  exact secs_join (bts s) n (by rw [bts_length]; exact hn)
theorem flat_sec : ∀ (l : List Sec) (k : Nat), (∀ s ∈ l, SecOk s) → k < l.length → (l.flatten.drop (k * 64)).take 64 = l.getD k zS
  | [], k, _, h => by simp at h
  | s :: l, 0, h, _ => by
    have hs := (h s (by simp)).1
    rw [List.flatten_cons, Nat.zero_mul, List.drop_zero, ← hs, List.take_left']
    · rfl
    · rfl
  | s :: l, k + 1, h, hk => by
    have hs := (h s (by simp)).1
    rw [List.length_cons] at hk
    rw [List.flatten_cons, show (k + 1) * 64 = s.length + k * 64 by omega, List.drop_length_add_append, flat_sec l k (fun x hx => h x (by simp [hx])) (by omega)]
    rfl
theorem bstr_mid (L : List Nat) (a b : Nat) : (bstr L).extract a b = bstr ((L.take b).drop a) := by
  apply ByteArray.ext
  apply Array.ext'
  simp [bstr, List.drop_take]
/-- a sector out of a file's bytes -/
theorem allF_sec {d : Dk} {f : Int} {i k : Nat} (h0 : 0 ≤ f) (h8 : f < 8) (hi : f.toNat = i) (ho : d.off = false) (hok : ∀ s ∈ d.fl i, SecOk s) (hk : k < (d.fl i).length) (hk3 : k < 300) : (allF d f).extract (k * 64) ((k + 1) * 64) = bstr ((d.fl i).getD k zS) := by
  rw [allF_of h0 h8 ho, hi, bstr_mid]
  congr 1
  have hl : k < ((d.fl i).take (min (d.fl i).length 300)).length := by rw [List.length_take]; omega
  have e := flat_sec ((d.fl i).take (min (d.fl i).length 300)) k (fun s hs => hok s (List.mem_of_mem_take hs)) hl
  have e2 : ((d.fl i).take (min (d.fl i).length 300)).getD k zS = (d.fl i).getD k zS := by
    rw [List.getD_eq_getElem?_getD, List.getD_eq_getElem?_getD, List.getElem?_take, if_pos (by omega)]
  rw [← e2, ← e, List.drop_take]
  congr 1
  omega
end Go.Proofs.Ythipaabjmlgjmaa
