/- Layer 5: a log in memory; its small functions. Conditions: those of each lemma. -/
import Derived.Test.YthipaabjmlgjmaaMvF
import Derived.Test.YthipaabjmlgjmaaFrameSpec
namespace Go.Proofs.Ythipaabjmlgjmaa
open Go.RowKit Go Go.Maps
set_option linter.unusedVariables false
set_option linter.unusedSimpArgs false
theorem allocB {w : World} {o : Obj} : Below w.heap.size w (w.alloc o) := (Below.refl _ _).alloc (Nat.le_refl _) _
theorem undrew {w W : World} (hb : Below w.drew.heap.size w.drew W) : Below w.heap.size w W := bj (Below.refl w.heap.size w).drew hb
/-- a frame -/
structure Fx where
  pg : Nat
  cm : Nat
  dt : ByteArray
def fxL (x : Fx) : List Value := [.int .i64 x.pg, .int .i64 x.cm, .string x.dt]
def fxs (l : List Fx) : List Value := l.flatMap fxL
theorem fxs_length : ∀ l : List Fx, (fxs l).length = 3 * l.length
  | [] => rfl
  | x :: l => by
    have ih := fxs_length l
    have h : fxs (x :: l) = fxL x ++ fxs l := rfl
    rw [h, List.length_append, ih, List.length_cons]
    have : (fxL x).length = 3 := rfl
    omega
theorem fxs_append (a b : List Fx) : fxs (a ++ b) = fxs a ++ fxs b := by unfold fxs; rw [List.flatMap_append]
theorem fxs_cons (x : Fx) (l : List Fx) : fxs (x :: l) = fxL x ++ fxs l := rfl
theorem fxs_get : ∀ (l : List Fx) (i : Nat) (x : Fx), l[i]? = some x → (fxs l)[i * 3]? = some (.int .i64 x.pg) ∧ (fxs l)[i * 3 + 1]? = some (.int .i64 x.cm) ∧ (fxs l)[i * 3 + 2]? = some (.string x.dt)
  | [], i, x, h => by simp at h
  | y :: l, 0, x, h => by
    simp only [List.getElem?_cons_zero, Option.some.injEq] at h
    subst h
    exact ⟨rfl, rfl, rfl⟩
  | y :: l, i + 1, x, h => by
    have ih := fxs_get l i x (by simpa using h)
    rw [fxs_cons]
    have e0 : (i + 1) * 3 = 3 + i * 3 := by omega
    rw [e0, Nat.add_assoc, Nat.add_assoc]
    have hl : (fxL y).length = 3 := rfl
    refine ⟨?_, ?_, ?_⟩
    · rw [List.getElem?_append_right (by omega), hl, Nat.add_sub_cancel_left]; exact ih.1
    · rw [List.getElem?_append_right (by omega), hl, Nat.add_sub_cancel_left]; exact ih.2.1
    · rw [List.getElem?_append_right (by omega), hl, Nat.add_sub_cancel_left]; exact ih.2.2
theorem fxs_one (l : List Fx) : ∀ u ∈ fxs l, u.oneCell' = true := by
  intro u hu
  obtain ⟨x, _, hx⟩ := List.mem_flatMap.1 hu
  simp only [fxL, List.mem_cons, List.not_mem_nil, or_false] at hx
  rcases hx with rfl | rfl | rfl <;> rfl
/-- the log: its head's number, frames, pages; is there a head; its frames; the pair behind them; torn, off -/
structure Lg where
  N : Nat
  F : Nat
  P : Nat
  hd : Bool
  fs : List Fx
  e : Int × Int
  torn : Bool
  off : Bool
def lgC (g : Nat) (l : Lg) (A : Option Addr) (c : Nat) : Array Value := #[.pointer (some ⟨g, 0, none⟩), .int .u64 l.N, .int .i64 l.F, .int .i64 l.P, .bool l.hd, .slice A l.fs.length c, .int .u32 l.e.1, .int .u32 l.e.2, .bool l.torn, .bool l.off]
structure LgAt (W : World) (S Sd : Nat → Prop) (g q : Nat) (A : Option Addr) (c : Nat) (d : Dk) (N : Nat) (l : Lg) : Prop where
  dk : DkS W Sd g d N
  blk : Blk W q 75 (lgC g l A c)
  row : W.ownsRow 0 61 3 (.slice A l.fs.length c) l.fs.length (fxs l.fs)
  nq : ¬ Sd q
  nz : ∀ z, (Value.slice A l.fs.length c).ownBlock = some z → ¬ Sd z ∧ z ≠ q
  sd : ∀ b, Sd b → S b
  sq : S q
  sz : ∀ z, (Value.slice A l.fs.length c).ownBlock = some z → S z
  lt : ∀ b, S b → b < W.heap.size
  fit : Fit l.e
  ub : l.N < 18446744073709551616 ∧ l.F ≤ 256 ∧ l.P ≤ 256 ∧ l.fs.length ≤ 256
  fok : ∀ x ∈ l.fs, 1 ≤ x.pg ∧ x.pg ≤ 256 ∧ x.cm ≤ 256 ∧ x.dt.size = 512
def LgS (W : World) (S : Nat → Prop) (g q : Nat) (d : Dk) (N : Nat) (l : Lg) : Prop := ∃ Sd A c, LgAt W S Sd g q A c d N l
/-- what a call on the log leaves -/
def LgR (w : World) (S : Nat → Prop) (g q : Nat) (d : Dk) (N : Nat) (l : Lg) (w' : World) : Prop := ∃ S', LgS w' S' g q d N l ∧ Fr S w w' ∧ ∀ b, S' b → S b ∨ w.heap.size ≤ b
theorem dkS_lt {W : World} {S : Nat → Prop} {g : Nat} {d : Dk} {N : Nat} (h : DkS W S g d N) : ∀ b, S b → b < W.heap.size := by
  obtain ⟨m, hm⟩ := h
  exact hm.lt
theorem lgAt_keep {W W' : World} {S Sd T : Nat → Prop} {g q : Nat} {A : Option Addr} {c : Nat} {d : Dk} {N : Nat} {l : Lg} (h : LgAt W S Sd g q A c d N l) (hf : Fr T W W') (hd : ∀ b, S b → ¬ T b) : LgAt W' S Sd g q A c d N l := by
  have hb : ∀ b, S b → W'.heap[b]? = W.heap[b]? := fun b hs => hf.block b (h.lt b hs) (hd b hs)
  exact { h with
    dk := dkS_keep h.dk hf (fun b hb => hd b (h.sd b hb))
    blk := (hb q h.sq).trans h.blk
    row := own_block h.row (fun z hz => hb z (h.sz z hz))
    lt := fun b hs => Nat.lt_of_lt_of_le (h.lt b hs) hf.size }
theorem lgS_keep {W W' : World} {S T : Nat → Prop} {g q : Nat} {d : Dk} {N : Nat} {l : Lg} (h : LgS W S g q d N l) (hf : Fr T W W') (hd : ∀ b, S b → ¬ T b) : LgS W' S g q d N l := by
  obtain ⟨Sd, A, c, h⟩ := h
  exact ⟨Sd, A, c, lgAt_keep h hf hd⟩
theorem lgAt_below {W W' : World} {S Sd : Nat → Prop} {g q : Nat} {A : Option Addr} {c : Nat} {d : Dk} {N : Nat} {l : Lg} (h : LgAt W S Sd g q A c d N l) (hb : Below W.heap.size W W') : LgAt W' S Sd g q A c d N l := lgAt_keep (T := fun _ => False) h (fr_of hb) (fun _ _ h => h)
theorem lgS_below {W W' : World} {S : Nat → Prop} {g q : Nat} {d : Dk} {N : Nat} {l : Lg} (h : LgS W S g q d N l) (hb : Below W.heap.size W W') : LgS W' S g q d N l := lgS_keep (T := fun _ => False) h (fr_of hb) (fun _ _ h => h)
theorem lgR_at {w w' : World} {S Sd : Nat → Prop} {g q : Nat} {A : Option Addr} {c : Nat} {d : Dk} {N : Nat} {l : Lg} (h : LgAt w' S Sd g q A c d N l) (hf : Fr S w w') : LgR w S g q d N l w' := ⟨S, ⟨Sd, A, c, h⟩, hf, fun b hb => .inl hb⟩
theorem lgR_refl {w : World} {S : Nat → Prop} {g q : Nat} {d : Dk} {N : Nat} {l : Lg} (h : LgS w S g q d N l) : LgR w S g q d N l w := ⟨S, h, fr_refl _ _, fun b hb => .inl hb⟩
/-- one call behind another -/
theorem lgR_trans {u v w : World} {S : Nat → Prop} {g q : Nat} {d d' : Dk} {N N' : Nat} {l l' : Lg} (h : LgR u S g q d N l v) (k : ∀ T, LgS v T g q d N l → LgR v T g q d' N' l' w) : LgR u S g q d' N' l' w := by
  obtain ⟨S1, h1, f1, s1⟩ := h
  obtain ⟨S2, h2, f2, s2⟩ := k S1 h1
  refine ⟨S2, h2, fr_trans f1 f2 s1, fun b hb => ?_⟩
  rcases s2 b hb with h | h
  · exact s1 b h
  · exact .inr (Nat.le_trans f1.size h)
/-- behind the log's state other blocks are made: nothing changes -/
theorem lgR_below {u v w : World} {S : Nat → Prop} {g q : Nat} {d : Dk} {N : Nat} {l : Lg} (h : LgR u S g q d N l v) (hb : Below v.heap.size v w) : LgR u S g q d N l w :=
  lgR_trans h fun T hT => ⟨T, lgS_below hT hb, fr_of hb, fun b hb => .inl hb⟩
theorem lgR_above {u v w : World} {S : Nat → Prop} {g q : Nat} {d : Dk} {N : Nat} {l : Lg} (hb : Below u.heap.size u v) (h : LgR v S g q d N l w) : LgR u S g q d N l w := by
  obtain ⟨S', h1, f1, s1⟩ := h
  refine ⟨S', h1, fr_trans (fr_of (S := S) hb) f1 (fun b hb => .inl hb), fun b hs => ?_⟩
  rcases s1 b hs with h | h
  · exact .inl h
  · exact .inr (Nat.le_trans hb.size h)
/-- what a call on its disk leaves of the log -/
theorem lgR_dk {w w' : World} {S Sd : Nat → Prop} {g q : Nat} {A : Option Addr} {c : Nat} {d d' : Dk} {N N' : Nat} {l : Lg} (h : LgAt w S Sd g q A c d N l) (hr : DkR w Sd g d' N' w') : LgR w S g q d' N' l w' := by
  obtain ⟨S', hd, hf, hs⟩ := hr
  have hq : ¬ S' q := fun e => (hs q e).elim h.nq (fun hx => by have := h.lt q h.sq; omega)
  refine ⟨fun b => S b ∨ S' b, ⟨S', A, c, { h with
    dk := hd
    blk := fr_blk hf h.blk h.nq
    row := own_block h.row (fun z hz => hf.block z (h.lt z (h.sz z hz)) (h.nz z hz).1)
    nq := hq
    nz := fun z hz => ⟨fun e => (hs z e).elim (h.nz z hz).1 (fun hx => by have := h.lt z (h.sz z hz); omega), (h.nz z hz).2⟩
    sd := fun b hb => .inr hb
    sq := .inl h.sq
    sz := fun z hz => .inl (h.sz z hz)
    lt := fun b hb => hb.elim (fun hb => Nat.lt_of_lt_of_le (h.lt b hb) hf.size) (dkS_lt hd b) }⟩, fr_mono hf (fun b hb => .inl (h.sd b hb)), fun b hb => ?_⟩
  rcases hb with hb | hb
  · exact .inl hb
  · rcases hs b hb with hb | hb
    · exact .inl (h.sd b hb)
    · exact .inr hb
/-- one of its fields is set -/
theorem lgAt_set {w : World} {S Sd : Nat → Prop} {g q : Nat} {A : Option Addr} {c : Nat} {d : Dk} {N : Nat} {l l' : Lg} (h : LgAt w S Sd g q A c d N l) (i : Nat) (v : Value) (hc : (lgC g l A c).setIfInBounds i v = lgC g l' A c) (hfs : l'.fs = l.fs) (hfit : Fit l'.e) (hub : l'.N < 18446744073709551616 ∧ l'.F ≤ 256 ∧ l'.P ≤ 256) : LgAt (w.setCell ⟨q, i, none⟩ v) S Sd g q A c d N l' := by
  have hf := fr_set (S := fun b => b = q) (fr_refl _ w) (p := ⟨q, i, none⟩) (.inl rfl) v
  have hb := h.blk.set_ i v
  rw [hc] at hb
  exact { dk := dkS_keep h.dk hf (fun b hb e => h.nq (e ▸ hb)), blk := hb, row := by rw [hfs]; exact own_block h.row (fun z hz => hf.block z (h.lt z (h.sz z hz)) (h.nz z hz).2), nq := h.nq, nz := fun z hz => h.nz z (by rw [hfs] at hz; exact hz), sd := h.sd, sq := h.sq, sz := fun z hz => h.sz z (by rw [hfs] at hz; exact hz), lt := fun b hb => Nat.lt_of_lt_of_le (h.lt b hb) hf.size, fit := hfit, ub := ⟨hub.1, hub.2.1, hub.2.2, by rw [hfs]; exact h.ub.2.2.2⟩, fok := by rw [hfs]; exact h.fok }
theorem fr_q {w : World} {S : Nat → Prop} {q i : Nat} (hS : S q) (v : Value) : Fr S w (w.setCell ⟨q, i, none⟩ v) := fr_set (fr_refl _ w) (p := ⟨q, i, none⟩) (.inl hS) v
theorem lg_cells {w : World} {S Sd : Nat → Prop} {g q : Nat} {A : Option Addr} {c : Nat} {d : Dk} {N : Nat} {l : Lg} (h : LgAt w S Sd g q A c d N l) : w.cell? ⟨q, 0, none⟩ = some (.pointer (some ⟨g, 0, none⟩)) ∧ w.cell? ⟨q, 1, none⟩ = some (.int .u64 l.N) ∧ w.cell? ⟨q, 2, none⟩ = some (.int .i64 l.F) ∧ w.cell? ⟨q, 3, none⟩ = some (.int .i64 l.P) ∧ w.cell? ⟨q, 4, none⟩ = some (.bool l.hd) ∧ w.cell? ⟨q, 5, none⟩ = some (.slice A l.fs.length c) ∧ w.cell? ⟨q, 6, none⟩ = some (.int .u32 l.e.1) ∧ w.cell? ⟨q, 7, none⟩ = some (.int .u32 l.e.2) ∧ w.cell? ⟨q, 8, none⟩ = some (.bool l.torn) ∧ w.cell? ⟨q, 9, none⟩ = some (.bool l.off) :=
  ⟨h.blk.cell 0, h.blk.cell 1, h.blk.cell 2, h.blk.cell 3, h.blk.cell 4, h.blk.cell 5, h.blk.cell 6, h.blk.cell 7, h.blk.cell 8, h.blk.cell 9⟩
end Go.Proofs.Ythipaabjmlgjmaa
namespace Go.Proofs.Ythipaabjmlgjmaa
open Go.RowKit Go Go.Maps
set_option linter.unusedVariables false
set_option linter.unusedSimpArgs false
abbrev lp (q : Nat) : Value := .pointer (some ⟨q, 0, none⟩)
set_option maxRecDepth 100000 in
set_option maxHeartbeats 4000000 in
theorem mark_any {S : Nat → Prop} {g q : Nat} {d : Dk} {N : Nat} {l : Lg} {w : World} (h : LgS w S g q d N l) : Calls Try.prog 9 #[lp q] w fun e w' => e = .returned (.int .i64 (l.fs.length : Nat)) ∧ w = w' := by
  obtain ⟨Sd, A, c, hm⟩ := h
  obtain ⟨-, -, -, -, -, d5, -⟩ := lg_cells hm
  clear hm
  go_enter Try.func9, Try.ntmps9
  go_wp2
  go_ret
  exact ⟨rfl, rfl⟩
set_option maxRecDepth 100000 in
set_option maxHeartbeats 4000000 in
theorem mark_nil (w : World) : Calls Try.prog 9 #[.pointer none] w fun e w' => e = .returned (.int .i64 0) ∧ w = w' := by
  go_enter Try.func9, Try.ntmps9
  go_wp2
  go_ret
  exact ⟨rfl, rfl⟩
set_option maxRecDepth 100000 in
set_option maxHeartbeats 4000000 in
theorem pages_any {S : Nat → Prop} {g q : Nat} {d : Dk} {N : Nat} {l : Lg} {w : World} (h : LgS w S g q d N l) : Calls Try.prog 10 #[lp q] w fun e w' => e = .returned (.int .i64 l.P) ∧ w = w' := by
  obtain ⟨Sd, A, c, hm⟩ := h
  obtain ⟨-, -, -, d3, -⟩ := lg_cells hm
  clear hm
  go_enter Try.func10, Try.ntmps10
  go_wp2
  go_ret
  exact ⟨rfl, rfl⟩
set_option maxRecDepth 100000 in
set_option maxHeartbeats 4000000 in
theorem pages_nil (w : World) : Calls Try.prog 10 #[.pointer none] w fun e w' => e = .returned (.int .i64 0) ∧ w = w' := by
  go_enter Try.func10, Try.ntmps10
  go_wp2
  go_ret
  exact ⟨rfl, rfl⟩
set_option maxRecDepth 100000 in
set_option maxHeartbeats 4000000 in
theorem number_any {S : Nat → Prop} {g q : Nat} {d : Dk} {N : Nat} {l : Lg} {w : World} (h : LgS w S g q d N l) : Calls Try.prog 11 #[lp q] w fun e w' => e = .returned (.int .u64 l.N) ∧ w = w' := by
  obtain ⟨Sd, A, c, hm⟩ := h
  obtain ⟨-, d1, -⟩ := lg_cells hm
  clear hm
  go_enter Try.func11, Try.ntmps11
  go_wp2
  go_ret
  exact ⟨rfl, rfl⟩
set_option maxRecDepth 100000 in
set_option maxHeartbeats 4000000 in
theorem number_nil (w : World) : Calls Try.prog 11 #[.pointer none] w fun e w' => e = .returned (.int .u64 0) ∧ w = w' := by
  go_enter Try.func11, Try.ntmps11
  go_wp2
  go_ret
  exact ⟨rfl, rfl⟩
set_option maxRecDepth 100000 in
set_option maxHeartbeats 4000000 in
theorem frameAt_any (m : Int) (w : World) (h0 : 0 ≤ m) (h1 : m ≤ 1000000) : Calls Try.prog 40 #[.int .i64 m] w fun e w' => e = .returned (.int .i64 (1 + m * 9)) ∧ w = w' := by
  have hw1 : IntKind.i64.wrap (m * 9) = m * 9 := by rw [IntKind.wrap_i64]; omega
  have hw2 : IntKind.i64.wrap (1 + m * 9) = 1 + m * 9 := by rw [IntKind.wrap_i64]; omega
  go_enter Try.func40, Try.ntmps40
  go_wp2
  go_ret
  first | exact ⟨rfl, rfl⟩ | exact ⟨by simp only [hw1, hw2], rfl⟩
set_option maxRecDepth 100000 in
set_option maxHeartbeats 4000000 in
theorem pageAt_any (m : Int) (w : World) (h0 : 0 ≤ m) (h1 : m ≤ 1000000) : Calls Try.prog 31 #[.int .i64 m] w fun e w' => e = .returned (.int .i64 ((m - 1) * 8)) ∧ w = w' := by
  have hw1 : IntKind.i64.wrap (m - 1) = m - 1 := by rw [IntKind.wrap_i64]; omega
  have hw2 : IntKind.i64.wrap ((m - 1) * 8) = (m - 1) * 8 := by rw [IntKind.wrap_i64]; omega
  go_enter Try.func31, Try.ntmps31
  go_wp2
  go_ret
  first | exact ⟨rfl, rfl⟩ | exact ⟨by simp only [hw1, hw2], rfl⟩
set_option maxRecDepth 100000 in
set_option maxHeartbeats 1000000 in
theorem wnoughts_any (n : Nat) (w : World) (hn : n ≤ 1000) :
    Calls Try.prog 32 #[.int .i64 n] w fun e w' => e = .returned (.string (bstr (List.replicate n 0))) ∧ Below w.heap.size w w' := by
  have hj := Try.strings_Repeat ⟨#[0]⟩ n w (by omega) (by rw [show (⟨#[0]⟩ : ByteArray).size = 1 from rfl]; omega)
  rw [show (⟨#[0]⟩ : ByteArray).data.toList = [0] from rfl, rep_flat, show (⟨((List.replicate n 0 : List Nat).map UInt8.ofNat).toArray⟩ : ByteArray) = bstr (List.replicate n 0) from rfl] at hj
  have HJ := Lib.hid hj
  clear hj
  go_enter Try.func32, Try.ntmps32
  go_wp2_with (go_at_call 34; refine (HJ.out).mono ?_; rintro e w2 ⟨rfl, hb2⟩)
  go_ret
  exact ⟨rfl, hb2⟩
/-- an image -/
structure Im where
  pg : Int
  dt : ByteArray
def ImAt (W : World) (A : Option Addr) (l : List Im) : Prop :=
  l = [] ∨ ∃ b o, A = some ⟨b, o, none⟩ ∧ b < W.heap.size ∧ ∀ (j : Nat) x, l[j]? = some x → W.cell? ⟨b, o + j * 2, none⟩ = some (.int .i64 x.pg) ∧ W.cell? ⟨b, o + j * 2 + 1, none⟩ = some (.string x.dt)
theorem imAt_below {W W' : World} {A : Option Addr} {l : List Im} (h : ImAt W A l) (hb : Below W.heap.size W W') : ImAt W' A l := by
  rcases h with h | ⟨b, o, hA, hl, hc⟩
  · exact .inl h
  · refine .inr ⟨b, o, hA, Nat.lt_of_lt_of_le hl hb.size, fun j x hx => ?_⟩
    obtain ⟨h1, h2⟩ := hc j x hx
    exact ⟨(hb.cell (p := ⟨b, o + j * 2, none⟩) hl).trans h1, (hb.cell (p := ⟨b, o + j * 2 + 1, none⟩) hl).trans h2⟩
/-- may an image not be -/
def imBad (x : Im) : Bool := decide (x.pg < 1) || (decide (256 < x.pg) || decide (x.dt.size ≠ 512))
set_option maxRecDepth 100000 in
set_option maxHeartbeats 4000000 in
theorem mayBe1_any (x : Im) (hs : x.dt.size ≤ 9223372036854775807) (w : World) : Calls Try.prog 65 #[.agg #[.int .i64 x.pg, .string x.dt]] w fun e w' => e = .returned (.bool (imBad x)) ∧ Below w.heap.size w w' := by
  obtain ⟨p, t⟩ := x
  have HBK := Lib.hid (Blk.new w 36 #[.int .i64 p, .string t])
  have HBL := Lib.hid (allocB (w := w) (o := .cells #[.int .i64 p, .string t] 36))
  unfold imBad
  by_cases h1 : p < 1
  · rw [decide_eq_true h1]
    go_enter Try.func65, Try.ntmps65
    go_wp2
    go_ret
    exact ⟨rfl, HBL.out⟩
  · rw [decide_eq_false h1]
    by_cases h2 : 256 < p
    · rw [decide_eq_true h2]
      go_enter Try.func65, Try.ntmps65
      go_wp2
      go_ret
      exact ⟨rfl, HBL.out⟩
    · rw [decide_eq_false h2]
      by_cases h3 : t.size = 512
      · have h3I : (t.size : Int) = 512 := by omega
        rw [decide_eq_false (show ¬ (Im.mk p t).dt.size ≠ 512 from fun h => h h3)]
        go_enter Try.func65, Try.ntmps65
        go_wp2
        go_ret
        exact ⟨rfl, HBL.out⟩
      · have h3b : ((t.size : Int) != 512) = true := by rw [bne_iff_ne]; omega
        rw [decide_eq_true (show (Im.mk p t).dt.size ≠ 512 from h3)]
        go_enter Try.func65, Try.ntmps65
        go_wp2
        go_ret
        exact ⟨rfl, HBL.out⟩
/-- what slices.IndexFunc tells of images -/
def IdxI (l : List Im) (e : Ending) : Prop :=
  (∃ j : Nat, e = .returned (.int .i64 j) ∧ l.any imBad = true) ∨ (l.any imBad = false ∧ e = .returned (.int .i64 (-1)))
set_option maxRecDepth 100000 in
set_option maxHeartbeats 4000000 in
theorem iindex_any (A : Option Addr) (n c : Nat) (l : List Im) (w : World) (hO : ImAt w A l) (hn : n = l.length) (hsm : n ≤ 100000) (hz : ∀ x ∈ l, x.dt.size ≤ 9223372036854775807) :
    Calls Try.prog 90 #[.slice A n c, .func (.func 65) #[] #[]] w fun e w' => IdxI l e ∧ Below w.heap.size w w' := by
  have HN := Lib.hid hn
  have HO := Lib.hid hO
  have HZ := Lib.hid hz
  have hnI : (n : Int) ≤ 100000 := by omega
  clear hO hn hz
  go_enter Try.func90, Try.ntmps90
  go_wp2
  go_loopw [8] (fun i wr => ∃ j : Nat, j ≤ n ∧ i = .int .i64 j ∧ (l.take j).any imBad = false ∧ Below w.heap.size w wr) (fun i _ => n - (intOf i).toNat)
  case atStart => exact ⟨0, by omega, rfl, rfl, Below.refl _ _⟩
  case round =>
    obtain ⟨j, hj, rfl, hall, hb⟩ := hrel
    by_cases hjn : j < n
    · have hlt : j < l.length := by have := HN.out; omega
      have hjI : (j : Int) < n := by omega
      obtain ⟨x, hx⟩ : ∃ x, l[j]? = some x := ⟨_, List.getElem?_eq_getElem hlt⟩
      have HSNO := Lib.hid (show (l.take (j + 1)).any imBad = imBad x from by rw [List.take_add_one, hx, List.any_append, hall]; simp)
      have HMEM := Lib.hid (List.mem_of_getElem? hx)
      obtain ⟨b, o, rfl, hd⟩ : ∃ b o, A = some ⟨b, o, none⟩ ∧ wr.cell? ⟨b, o + j * 2, none⟩ = some (.int .i64 x.pg) ∧ wr.cell? ⟨b, o + j * 2 + 1, none⟩ = some (.string x.dt) := by
        rcases imAt_below HO.out hb with h | ⟨b, o, hA, _, hc⟩
        · rw [h] at hx; simp at hx
        · exact ⟨b, o, hA, hc j x hx⟩
      obtain ⟨d0, d1⟩ := hd
      have HX := Lib.hid (mayBe1_any x (HZ.out x HMEM.out) wr)
      have HBR := Lib.hid hb
      clear hb hall hx hlt
      go_wp2_with fail
      refine (HX.out).mono ?_
      rintro e w1 ⟨rfl, hb⟩
      cases hr : imBad x with
      | false =>
        rw [hr] at HSNO
        clear hr HX d0 d1
        go_wp2
        go_roundw
        case rel => exact ⟨j + 1, by omega, by go_num, HSNO.out, bj HBR.out hb⟩
        case measure => simp [intOf]; omega
      | true =>
        clear HX d0 d1 HSNO
        have HT := Lib.hid (show l.any imBad = true from List.any_eq_true.2 ⟨x, HMEM.out, hr⟩)
        clear hr
        go_wp2
        go_ret
        exact ⟨.inl ⟨j, rfl, HT.out⟩, bj HBR.out hb⟩
    · obtain rfl : j = n := by omega
      have hall' : l.any imBad = false := by rw [← hall, List.take_of_length_le (by have := HN.out; omega)]
      have HALL := Lib.hid hall'
      clear hall hall'
      go_wp2
      go_ret
      exact ⟨.inr ⟨HALL.out, rfl⟩, hb⟩
set_option maxRecDepth 100000 in
set_option maxHeartbeats 4000000 in
theorem icont_any (A : Option Addr) (n c : Nat) (l : List Im) (w : World) (hO : ImAt w A l) (hn : n = l.length) (hsm : n ≤ 100000) (hz : ∀ x ∈ l, x.dt.size ≤ 9223372036854775807) :
    Calls Try.prog 64 #[.slice A n c, .func (.func 65) #[] #[]] w fun e w' => e = .returned (.bool (l.any imBad)) ∧ Below w.heap.size w w' := by
  have HI := Lib.hid (iindex_any A n c l w hO hn hsm hz)
  clear hO hn hsm hz
  go_enter Try.func64, Try.ntmps64
  go_wp2_with fail
  refine (HI.out).mono ?_
  rintro e w1 ⟨he, hb⟩
  rcases he with ⟨j, rfl, ht⟩ | ⟨hf, rfl⟩
  · have HT := Lib.hid ht
    have hj0 : (0 : Int) ≤ j := by omega
    clear ht
    go_wp2
    go_ret
    exact ⟨by rw [HT.out]; rfl, hb⟩
  · have HF := Lib.hid hf
    clear hf
    go_wp2
    go_ret
    exact ⟨by rw [HF.out]; rfl, hb⟩
/-- whether these may be appended -/
def mayA (pages : Int) (l : List Im) : Bool := !(decide (pages < 1) || (decide (256 < pages) || decide (l.length = 0))) && !l.any imBad
set_option maxRecDepth 100000 in
set_option maxHeartbeats 4000000 in
theorem wmayBe_any (pages : Int) (A : Option Addr) (n c : Nat) (l : List Im) (w : World) (hO : ImAt w A l) (hn : n = l.length) (hsm : n ≤ 100000) (hz : ∀ x ∈ l, x.dt.size ≤ 9223372036854775807) :
    Calls Try.prog 35 #[.int .i64 pages, .slice A n c] w fun e w' => e = .returned (.bool (mayA pages l)) ∧ Below w.heap.size w w' := by
  have HI := Lib.hid (icont_any A n c l w hO hn hsm hz)
  have HNO := Lib.hid (show ∀ b : Bool, (b = (!(decide (pages < 1) || (decide (256 < pages) || decide (n = 0))) && !l.any imBad)) → b = mayA pages l from fun b hb => by rw [hb, hn]; rfl)
  clear hO hn hz
  by_cases h1 : pages < 1
  · have HF := Lib.hid (HNO.out false (by rw [decide_eq_true h1]; rfl))
    go_enter Try.func35, Try.ntmps35
    go_wp2
    go_ret
    exact ⟨by rw [← HF.out]; rfl, Below.refl _ _⟩
  · by_cases h2 : 256 < pages
    · have HF := Lib.hid (HNO.out false (by rw [decide_eq_true h2, decide_eq_false h1]; rfl))
      go_enter Try.func35, Try.ntmps35
      go_wp2
      go_ret
      exact ⟨by rw [← HF.out]; rfl, Below.refl _ _⟩
    · by_cases h3 : n = 0
      · subst h3
        have HF := Lib.hid (HNO.out false (by rw [decide_eq_false h2, decide_eq_false h1]; simp))
        go_enter Try.func35, Try.ntmps35
        go_wp2
        go_ret
        exact ⟨by rw [← HF.out]; rfl, Below.refl _ _⟩
      · have h3I : ¬ ((n : Int) = 0) := by omega
        have HR := Lib.hid (HNO.out (!l.any imBad) (by rw [decide_eq_false h1, decide_eq_false h2, decide_eq_false h3]; rfl))
        clear HNO
        generalize l.any imBad = r at *
        go_enter Try.func35, Try.ntmps35
        go_wp2_with fail
        refine (HI.out).mono ?_
        rintro e w1 ⟨rfl, hb⟩
        go_wp2
        go_ret
        exact ⟨by rw [← HR.out]; rfl, hb⟩
end Go.Proofs.Ythipaabjmlgjmaa
