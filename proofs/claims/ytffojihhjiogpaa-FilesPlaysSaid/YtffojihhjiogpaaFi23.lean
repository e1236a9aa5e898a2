/- Layer 3: the laws' operations: a script, and whether it is too heavy, or goes too far. Conditions: those of each lemma. -/
import Derived.Test.YtffojihhjiogpaaFi22
namespace Go.Proofs.Ytffojihhjiogpaa
open Go.RowKit Go Go.Maps
set_option linter.unusedVariables false
set_option linter.unusedSimpArgs false
/-- an operation of a script -/
structure Fop where
  kd : Int
  fi : Int
  pl : Int
  n : Int
  c : Int
  s : ByteArray
  kA : Option Addr
  kc : Nat
  ks : List Bool
abbrev fopC (x : Fop) : Array Value := #[.int .i64 x.kd, .int .i64 x.fi, .int .i64 x.pl, .int .i64 x.n, .int .u8 x.c, .string x.s, .slice x.kA x.ks.length x.kc]
def J64 (x : Int) : Prop := -9223372036854775808 ≤ x ∧ x ≤ 9223372036854775807
def FitP (x : Fop) : Prop := J64 x.kd ∧ J64 x.fi ∧ J64 x.pl ∧ J64 x.n ∧ 0 ≤ x.c ∧ x.c < 256 ∧ x.ks.length ≤ maxLen
/-- flags below a block's number -/
def KsAt (w : World) (B : Nat) (A : Option Addr) (l : List Bool) : Prop := l = [] ∨ ∃ b o, A = some ⟨b, o, none⟩ ∧ b < B ∧ ∀ j v, l[j]? = some v → w.cell? ⟨b, o + j, none⟩ = some (.bool v)
theorem ks_below {w W : World} {B : Nat} {A : Option Addr} {l : List Bool} (h : KsAt w B A l) (hb : Below B w W) : KsAt W B A l := by
  rcases h with h | ⟨b, o, hA, hlt, hc⟩
  · exact .inl h
  · exact .inr ⟨b, o, hA, hlt, fun j v hv => (hb.cell (p := ⟨b, o + j, none⟩) hlt).trans (hc j v hv)⟩
theorem ks_bs {W : World} {B : Nat} {A : Option Addr} {l : List Bool} (h : KsAt W B A l) (hB : B ≤ W.heap.size) : BsAt W A l := by
  rcases h with h | ⟨b, o, hA, hlt, hc⟩
  · exact .inl h
  · exact .inr ⟨b, o, hA, by omega, hc⟩
/-- an operation's cells -/
structure FopAt (w : World) (b o : Nat) (x : Fop) : Prop where
  c0 : w.cell? ⟨b, o, none⟩ = some (.int .i64 x.kd)
  c1 : w.cell? ⟨b, o + 1, none⟩ = some (.int .i64 x.fi)
  c2 : w.cell? ⟨b, o + 2, none⟩ = some (.int .i64 x.pl)
  c3 : w.cell? ⟨b, o + 3, none⟩ = some (.int .i64 x.n)
  c4 : w.cell? ⟨b, o + 4, none⟩ = some (.int .u8 x.c)
  c5 : w.cell? ⟨b, o + 5, none⟩ = some (.string x.s)
  c6 : w.cell? ⟨b, o + 6, none⟩ = some (.slice x.kA x.ks.length x.kc)
theorem fopAt_below {w W : World} {b o B : Nat} {x : Fop} (h : FopAt w b o x) (hb : Below B w W) (hlt : b < B) : FopAt W b o x :=
  ⟨(hb.cell (p := ⟨b, o, none⟩) hlt).trans h.c0, (hb.cell (p := ⟨b, o + 1, none⟩) hlt).trans h.c1, (hb.cell (p := ⟨b, o + 2, none⟩) hlt).trans h.c2, (hb.cell (p := ⟨b, o + 3, none⟩) hlt).trans h.c3, (hb.cell (p := ⟨b, o + 4, none⟩) hlt).trans h.c4, (hb.cell (p := ⟨b, o + 5, none⟩) hlt).trans h.c5, (hb.cell (p := ⟨b, o + 6, none⟩) hlt).trans h.c6⟩
/-- a script -/
def Fops (w : World) (B : Nat) (A : Option Addr) (l : List Fop) : Prop :=
  l = [] ∨ ∃ b o, A = some ⟨b, o, none⟩ ∧ b < B ∧ ∀ (j : Nat) x, l[j]? = some x → FopAt w b (o + j * 7) x ∧ KsAt w B x.kA x.ks
theorem fops_below {w W : World} {B : Nat} {A : Option Addr} {l : List Fop} (h : Fops w B A l) (hb : Below B w W) : Fops W B A l := by
  rcases h with h | ⟨b, o, hA, hlt, hc⟩
  · exact .inl h
  · exact .inr ⟨b, o, hA, hlt, fun j x hx => ⟨fopAt_below (hc j x hx).1 hb hlt, ks_below (hc j x hx).2 hb⟩⟩
theorem fops_get {w : World} {B : Nat} {A : Option Addr} {l : List Fop} (h : Fops w B A l) (hl : l ≠ []) : ∃ b o, A = some ⟨b, o, none⟩ ∧ b < B ∧ ∀ W, Below B w W → ∀ (j : Nat) x, l[j]? = some x → FopAt W b (o + j * 7) x ∧ KsAt W B x.kA x.ks := by
  rcases h with h | ⟨b, o, hA, hlt, hc⟩
  · exact absurd h hl
  · exact ⟨b, o, hA, hlt, fun W hb j x hx => ⟨fopAt_below (hc j x hx).1 hb hlt, ks_below (hc j x hx).2 hb⟩⟩
/-- what an operation is that is not too heavy -/
def Light (x : Fop) : Prop := x.s.size ≤ 16384 ∧ x.ks.length ≤ 4096
/-- what heavy answers -/
def HvP (l : List Fop) (e : Ending) : Prop := ∃ r, e = .returned (.bool r) ∧ (r = false → l.length ≤ 200 ∧ ∀ x ∈ l, Light x)
theorem light_snoc {l : List Fop} {j : Nat} (hj : j < l.length) (h : ∀ x ∈ l.take j, Light x) (hx : Light l[j]) : ∀ x ∈ l.take (j + 1), Light x := fun x hm => by
  rw [List.take_add_one, List.getElem?_eq_getElem hj] at hm
  rcases List.mem_append.1 hm with h1 | h1
  · exact h x h1
  · simp at h1; rw [h1]; exact hx
set_option maxRecDepth 100000 in
set_option maxHeartbeats 8000000 in
theorem heavy_any (A : Option Addr) (l : List Fop) (n c : Nat) (w : World) (hO : Fops w w.heap.size A l) (hn : n = l.length) (hm : n ≤ maxLen) (hfit : ∀ x ∈ l, FitP x) :
    Calls Try.prog 24 #[.slice A n c] w fun e w' => HvP l e ∧ Below w.heap.size w w' := by
  have hmI : (n : Int) ≤ 9223372036854775807 := by unfold maxLen at hm; omega
  by_cases h0 : n = 0
  · subst h0
    obtain rfl : l = [] := List.eq_nil_of_length_eq_zero hn.symm
    clear hO hn hfit
    go_enter Try.func24, Try.ntmps24
    go_wp2
    go_loopw [8] (fun i wr => i = .int .i64 0 ∧ Below w.heap.size w wr) (fun _ _ => 0)
    case atStart => exact ⟨rfl, Below.refl _ _⟩
    case round =>
      obtain ⟨rfl, hb⟩ := hrel
      go_wp2
      go_ret
      exact ⟨⟨false, rfl, fun _ => ⟨by simp, fun x hx => by cases hx⟩⟩, hb⟩
  · obtain ⟨b, o, rfl, hbl, hc⟩ := fops_get hO (fun e => by rw [e] at hn; exact h0 hn)
    have HC := Lib.hid hc
    have HN := Lib.hid hn
    have HMX := Lib.hid hm
    have HF := Lib.hid hfit
    clear hc hO hn h0 hm hmI hfit
    go_enter Try.func24, Try.ntmps24
    go_wp2
    go_loopw [3, 8] (fun m i wr => ∃ (j : Nat) (q : Int), j ≤ n ∧ i = .int .i64 j ∧ m = .int .i64 q ∧ 0 ≤ q ∧ q ≤ 16384 ∧ (∀ x ∈ l.take j, Light x) ∧ Below w.heap.size w wr) (fun _ i _ => n - (intOf i).toNat)
    case atStart => exact ⟨0, 0, by omega, rfl, rfl, by omega, by omega, fun x hx => by simp at hx, Below.refl _ _⟩
    case round =>
      obtain ⟨j, q, hj, rfl, rfl, hq0, hq1, heq, hb⟩ := hrel
      by_cases hjn : j < n
      · have hjl : j < l.length := by have := HN.out; omega
        obtain ⟨⟨a0, a1, a2, a3, a4, a5, a6⟩, _⟩ := HC.out _ hb j l[j] (List.getElem?_eq_getElem hjl)
        have hfx := HF.out l[j] (List.getElem_mem hjl)
        have HL := Lib.hid (light_snoc hjl heq)
        clear heq
        generalize l[j] = x at *
        obtain ⟨xk, xf, xp, xn, xc, xs, xA, xkc, xks⟩ := x
        simp only at a0 a1 a2 a3 a4 a5 a6
        obtain ⟨_, _, _, hxn, _, _, hxl⟩ := hfx
        simp only at hxn hxl
        have hjI : (j : Int) < n := by omega
        obtain ⟨z, hz⟩ : ∃ z : Int, (xs.size : Int) = z := ⟨_, rfl⟩
        have hz0 : 0 ≤ z := by omega
        obtain ⟨M, hM⟩ : ∃ M, min z 65536 = M := ⟨_, rfl⟩
        have hM0 : 0 ≤ M ∧ M ≤ 65536 := by omega
        have hw : IntKind.i64.wrap (q + M) = q + M := by rw [IntKind.wrap_i64]; omega
        have HB := Lib.hid (hb.alloc hb.size (.cells (fopC ⟨xk, xf, xp, xn, xc, xs, xA, xkc, xks⟩) 42))
        have HJ := Lib.hid (show (j : Int) + 1 ≤ 9223372036854775807 by have := HMX.out; unfold maxLen at this; omega)
        have hwj : IntKind.i64.wrap ((j : Int) + 1) = j + 1 := by have := HJ.out; rw [IntKind.wrap_i64]; omega
        obtain ⟨X, hX⟩ : ∃ X, max xn 0 = X := ⟨_, rfl⟩
        obtain ⟨Y, hY⟩ : ∃ Y, min X 1024 = Y := ⟨_, rfl⟩
        have hY0 : 0 ≤ Y ∧ Y ≤ 1024 := by omega
        have hw2 : IntKind.i64.wrap (q + M + Y) = q + M + Y := by rw [IntKind.wrap_i64]; omega
        have HZ := Lib.hid (show q + M ≤ 16384 → xs.size ≤ 16384 from fun h => by omega)
        have HQ := Lib.hid (show 0 ≤ q + M ∧ 0 ≤ q + M + Y by omega)
        have HLX := Lib.hid (show ((xks.length : Int) ≤ 4096 → xks.length ≤ 4096) from fun h => by omega)
        have HXY := Lib.hid hY0
        have hko : xk = 0 ∨ ¬ xk = 0 := by omega
        have h0j : (0 : Int) ≤ j := by omega
        clear hb hxn hxl hM0 hz0 hq0 hq1 hY0
        rcases hko with hk | hk
        · subst hk
          by_cases hbig : 16384 < q + M + Y
          · have hbd : decide (16384 < q + M + Y) = true := decide_eq_true hbig
            go_wp2
            go_ret
            exact ⟨⟨true, rfl, fun h => by cases h⟩, HB.out⟩
          · have hbd : decide (16384 < q + M + Y) = false := decide_eq_false hbig
            by_cases hkl : (4096 : Int) < xks.length
            · have hkd : decide ((4096 : Int) < xks.length) = true := decide_eq_true hkl
              go_wp2
              go_ret
              exact ⟨⟨true, rfl, fun h => by cases h⟩, HB.out⟩
            · have hkd : decide ((4096 : Int) < xks.length) = false := decide_eq_false hkl
              have HT := Lib.hid (HL.out ⟨HZ.out (by have := HXY.out; omega), HLX.out (by omega)⟩)
              go_wp2
              go_roundw
              case rel => exact ⟨j + 1, q + M + Y, by omega, by go_num, rfl, HQ.out.2, by omega, HT.out, HB.out⟩
              case measure => simp [intOf]; omega
        · have hkb : (xk == 0) = false := by simpa using hk
          by_cases hbig : 16384 < q + M
          · have hbd : decide (16384 < q + M) = true := decide_eq_true hbig
            go_wp2
            go_ret
            exact ⟨⟨true, rfl, fun h => by cases h⟩, HB.out⟩
          · have hbd : decide (16384 < q + M) = false := decide_eq_false hbig
            by_cases hkl : (4096 : Int) < xks.length
            · have hkd : decide ((4096 : Int) < xks.length) = true := decide_eq_true hkl
              go_wp2
              go_ret
              exact ⟨⟨true, rfl, fun h => by cases h⟩, HB.out⟩
            · have hkd : decide ((4096 : Int) < xks.length) = false := decide_eq_false hkl
              have HT := Lib.hid (HL.out ⟨HZ.out (by omega), HLX.out (by omega)⟩)
              go_wp2
              go_roundw
              case rel => exact ⟨j + 1, q + M, by omega, by go_num, rfl, HQ.out.1, by omega, HT.out, HB.out⟩
              case measure => simp [intOf]; omega
      · obtain rfl : j = n := by omega
        have HT := Lib.hid heq
        clear heq
        go_wp2
        go_ret
        refine ⟨⟨decide ((200 : Int) < j), rfl, fun h => ?_⟩, hb⟩
        have hl := HN.out
        have ht := HT.out
        rw [List.take_of_length_le (by omega)] at ht
        refine ⟨?_, ht⟩
        simp at h
        omega
end Go.Proofs.Ytffojihhjiogpaa
