/- A spoilt letter is the one that was sent but for a byte; the law's scripts in memory; heavy. Conditions: those of each lemma. -/
import Derived.Test.YtndlcjpkpkfcpaaNt7
import Derived.Test.YtndlcjpkpkfcpaaNt8
namespace Go.Proofs.Ytndlcjpkpkfcpaa
open Go.RowKit Go Go.Maps
set_option linter.unusedVariables false
set_option linter.unusedSimpArgs false
theorem bts_end (s : ByteArray) (k : Nat) (hk : k ≤ s.size) : bts (s.extract k s.size) = (bts s).drop k := by
  obtain ⟨j, hj⟩ : ∃ j, s.size = k + j := ⟨s.size - k, by omega⟩
  have h := bts_cutn s k j
  rw [← hj] at h
  rw [h, List.take_of_length_le]
  rw [List.length_drop, bts_length]
  omega
theorem bts_spoil (b : ByteArray) (p c : Nat) (hp : p < b.size) (hc : c < 256) : bts (spoilB b p c) = (bts b).take p ++ [c] ++ (bts b).drop (p + 1) := by
  unfold spoilB
  rw [bts_app, bts_app, bts_cutl, bts_end b (p + 1) (by omega), bts_bstr [c] (by intro x hx; rw [List.mem_singleton.1 hx]; exact hc)]
theorem spoil_size (b : ByteArray) (p c : Nat) (hp : p < b.size) (hc : c < 256) : (spoilB b p c).size = b.size := by
  have h := congrArg List.length (bts_spoil b p c hp hc)
  rw [bts_length, List.length_append, List.length_append, List.length_take, List.length_drop, bts_length] at h
  simp at h
  omega
theorem spoil_get (b : ByteArray) (p c : Nat) (hp : p < b.size) (hc : c < 256) (j : Nat) : (bts (spoilB b p c)).getD j 0 = if j = p then c else (bts b).getD j 0 := by
  rw [bts_spoil b p c hp hc]
  have hl : ((bts b).take p).length = p := by rw [List.length_take, bts_length]; omega
  simp only [List.getD_eq_getElem?_getD]
  by_cases h1 : j < p
  · rw [if_neg (by omega), List.append_assoc, List.getElem?_append_left (by omega), List.getElem?_take_of_lt h1]
  · by_cases h2 : j = p
    · rw [if_pos h2, List.append_assoc, List.getElem?_append_right (by omega), hl, h2]
      simp
    · have hl2 : ((bts b).take p ++ [c]).length = p + 1 := by rw [List.length_append, hl]; rfl
      rw [if_neg h2, List.getElem?_append_right (by rw [hl2]; omega), hl2, List.getElem?_drop, show p + 1 + (j - (p + 1)) = j by omega]
theorem xor_ne {b : ByteArray} {p : Nat} {y : Int} (hy : 0 < y) : xorB b p y ≠ (bts b).getD p 0 := by
  unfold xorB
  intro h
  have h2 : (bts b).getD p 0 ^^^ ((bts b).getD p 0 ^^^ y.toNat) = 0 := by rw [h, Nat.xor_self]
  rw [← Nat.xor_assoc, Nat.xor_self, Nat.zero_xor] at h2
  omega
theorem xor_lt {b : ByteArray} {p : Nat} {y : Int} (hy : y < 256) : xorB b p y < 256 := by
  have h := bts_getD_lt b p
  exact Nat.xor_lt_two_pow (n := 8) (by omega) (by omega)
theorem near_spoil {o : Lt} {k f t : Int} {b : ByteArray} {p : Nat} {y : Int} (h : Near o ⟨k, f, t, b, false⟩) (hp : p < b.size) (hy0 : 0 < y) (hy1 : y < 256) : Near o ⟨k, f, t, spoilB b p (xorB b p y), true⟩ := by
  obtain ⟨h1, h2, h3, h4, h5⟩ := h
  have hs := spoil_size b p (xorB b p y) hp (xor_lt hy1)
  have e : o.bytes = b := h5 rfl
  refine ⟨h1, h2, by rw [e]; exact hs.symm, ?_, fun h => by cases h⟩
  show diffN o.bytes (spoilB b p (xorB b p y)) (spoilB b p (xorB b p y)).size = 1
  rw [e, diff_one (spoil_get b p _ hp (xor_lt hy1)) (xor_ne hy0), if_pos (by omega)]
theorem inv_spoil {L : List Lt} {N : Int} {es : List (Int × Lt)} {came : Int} (h : Inv L N es came) {k f t : Int} {b : ByteArray} {p : Nat} {y : Int} (hf : findL L k = some ⟨k, f, t, b, false⟩) (hp : p < b.size) (hy0 : 0 < y) (hy1 : y < 256) : Inv (setLt L k ⟨k, f, t, spoilB b p (xorB b p y), true⟩) N es came := by
  obtain ⟨h1, h2, h3, h4, h5⟩ := h
  refine ⟨h1, h2, by unfold setLt; rw [List.length_map]; exact h3, h4, fun x hx => ?_⟩
  obtain ⟨z, hz, rfl⟩ := List.mem_map.1 hx
  by_cases e : z.id = k
  · rw [if_pos e]
    obtain ⟨g1, o, g2, g3⟩ := h5 _ (find_id hf).2
    exact ⟨by rw [spoil_size b p _ hp (xor_lt hy1)]; exact g1, o, g2, near_spoil g3 hp hy0 hy1⟩
  · rw [if_neg e]; exact h5 z hz
/-- an operation of a script -/
structure Opx where
  kd : Int
  a : Int
  b : Int
  s : ByteArray
  y : Int
abbrev opC (x : Opx) : Array Value := #[.int .i64 x.kd, .int .i64 x.a, .int .i64 x.b, .string x.s, .int .u8 x.y]
def FitO (x : Opx) : Prop := I64' x.kd ∧ I64' x.a ∧ I64' x.b ∧ 0 ≤ x.y ∧ x.y < 256
/-- a script -/
def Opsl (w : World) (B : Nat) (A : Option Addr) (l : List Opx) : Prop :=
  l = [] ∨ ∃ b o, A = some ⟨b, o, none⟩ ∧ b < B ∧ ∀ (j : Nat) x, l[j]? = some x → w.cell? ⟨b, o + j * 5, none⟩ = some (.int .i64 x.kd) ∧ w.cell? ⟨b, o + j * 5 + 1, none⟩ = some (.int .i64 x.a) ∧ w.cell? ⟨b, o + j * 5 + 2, none⟩ = some (.int .i64 x.b) ∧ w.cell? ⟨b, o + j * 5 + 3, none⟩ = some (.string x.s) ∧ w.cell? ⟨b, o + j * 5 + 4, none⟩ = some (.int .u8 x.y)
theorem ops_get {w : World} {B : Nat} {A : Option Addr} {l : List Opx} (h : Opsl w B A l) (hl : l ≠ []) : ∃ b o, A = some ⟨b, o, none⟩ ∧ b < B ∧ ∀ W, Below B w W → ∀ (j : Nat) x, l[j]? = some x → W.cell? ⟨b, o + j * 5, none⟩ = some (.int .i64 x.kd) ∧ W.cell? ⟨b, o + j * 5 + 1, none⟩ = some (.int .i64 x.a) ∧ W.cell? ⟨b, o + j * 5 + 2, none⟩ = some (.int .i64 x.b) ∧ W.cell? ⟨b, o + j * 5 + 3, none⟩ = some (.string x.s) ∧ W.cell? ⟨b, o + j * 5 + 4, none⟩ = some (.int .u8 x.y) := by
  rcases h with h | ⟨b, o, hA, hlt, hc⟩
  · exact absurd h hl
  · refine ⟨b, o, hA, hlt, fun W hb j x hx => ?_⟩
    obtain ⟨h0, h1, h2, h3, h4⟩ := hc j x hx
    exact ⟨(hb.cell (p := ⟨b, o + j * 5, none⟩) hlt).trans h0, (hb.cell (p := ⟨b, o + j * 5 + 1, none⟩) hlt).trans h1, (hb.cell (p := ⟨b, o + j * 5 + 2, none⟩) hlt).trans h2, (hb.cell (p := ⟨b, o + j * 5 + 3, none⟩) hlt).trans h3, (hb.cell (p := ⟨b, o + j * 5 + 4, none⟩) hlt).trans h4⟩
/-- heavy's answer -/
def heavyN : List Opx → Int → Option Int
  | [], n => some n
  | x :: l, n => if 16384 < n + min (x.s.size : Int) 65536 then none else heavyN l (n + min (x.s.size : Int) 65536)
def heavyB (l : List Opx) : Bool := match heavyN l 0 with | none => true | some _ => decide (300 < l.length)
set_option maxRecDepth 100000 in
set_option maxHeartbeats 8000000 in
theorem heavy_any (A : Option Addr) (l : List Opx) (n c : Nat) (w : World) (hO : Opsl w w.heap.size A l) (hn : n = l.length) (hm : n ≤ maxLen) :
    Calls Try.prog 15 #[.slice A n c] w fun e w' => e = .returned (.bool (heavyB l)) ∧ Below w.heap.size w w' := by
  have hmI : (n : Int) ≤ 9223372036854775807 := by unfold maxLen at hm; omega
  by_cases h0 : n = 0
  · subst h0
    obtain rfl : l = [] := List.eq_nil_of_length_eq_zero hn.symm
    have HE := Lib.hid (show heavyB [] = false from rfl)
    clear hO hn
    go_enter Try.func15, Try.ntmps15
    go_wp2
    go_loopw [8] (fun i wr => i = .int .i64 0 ∧ Below w.heap.size w wr) (fun _ _ => 0)
    case atStart => exact ⟨rfl, Below.refl _ _⟩
    case round =>
      obtain ⟨rfl, hb⟩ := hrel
      go_wp2
      go_ret
      exact ⟨rbool HE.out.symm, hb⟩
  · obtain ⟨b, o, rfl, hbl, hc⟩ := ops_get hO (fun e => by rw [e] at hn; exact h0 hn)
    have HC := Lib.hid hc
    have HN := Lib.hid hn
    have HMX := Lib.hid hm
    clear hc hO hn h0 hm hmI
    go_enter Try.func15, Try.ntmps15
    go_wp2
    go_loopw [3, 8] (fun m i wr => ∃ (j : Nat) (q : Int), j ≤ n ∧ i = .int .i64 j ∧ m = .int .i64 q ∧ 0 ≤ q ∧ q ≤ 16384 ∧ heavyN l 0 = heavyN (l.drop j) q ∧ Below w.heap.size w wr) (fun _ i _ => n - (intOf i).toNat)
    case atStart => exact ⟨0, 0, by omega, rfl, rfl, by omega, by omega, rfl, Below.refl _ _⟩
    case round =>
      obtain ⟨j, q, hj, rfl, rfl, hq0, hq1, heq, hb⟩ := hrel
      by_cases hjn : j < n
      · have hjl : j < l.length := by have := HN.out; omega
        obtain ⟨a0, a1, a2, a3, a4⟩ := HC.out _ hb j l[j] (List.getElem?_eq_getElem hjl)
        have hd : l.drop j = l[j] :: l.drop (j + 1) := List.drop_eq_getElem_cons hjl
        rw [hd] at heq
        generalize l[j] = x at *
        obtain ⟨xk, xa, xb, xs, xy⟩ := x
        simp only at a0 a1 a2 a3 a4
        have hjI : (j : Int) < n := by omega
        obtain ⟨z, hz⟩ : ∃ z : Int, (xs.size : Int) = z := ⟨_, rfl⟩
        have hz0 : 0 ≤ z := by omega
        rw [heavyN] at heq
        rw [hz] at heq
        obtain ⟨M, hM⟩ : ∃ M, min z 65536 = M := ⟨_, rfl⟩
        have hM0 : 0 ≤ M ∧ M ≤ 65536 := by omega
        have hw : IntKind.i64.wrap (q + M) = q + M := by rw [IntKind.wrap_i64]; omega
        have HB := Lib.hid (hb.alloc hb.size (.cells (opC ⟨xk, xa, xb, xs, xy⟩) 44))
        simp only [hM] at heq
        have HJ := Lib.hid (show (j : Int) + 1 ≤ 9223372036854775807 by have := HMX.out; unfold maxLen at this; omega)
        have hwj : IntKind.i64.wrap ((j : Int) + 1) = j + 1 := by have := HJ.out; rw [IntKind.wrap_i64]; omega
        by_cases hbig : 16384 < q + M
        · rw [if_pos hbig] at heq
          have HE := Lib.hid (show heavyB l = true by unfold heavyB; rw [heq])
          clear heq hd hb hM0
          go_wp2
          go_ret
          exact ⟨rbool HE.out.symm, HB.out⟩
        · rw [if_neg hbig] at heq
          have HE := Lib.hid heq
          have HBG := Lib.hid (show 0 ≤ q + M ∧ q + M ≤ 16384 by omega)
          have hbd : decide (16384 < q + M) = false := decide_eq_false hbig
          clear heq hd hb hbig hq0 hq1 hM0 hz0
          go_wp2
          go_roundw
          case rel => exact ⟨j + 1, q + M, by omega, by go_num, rfl, HBG.out.1, HBG.out.2, HE.out, HB.out⟩
          case measure => simp [intOf]; omega
      · obtain rfl : j = n := by omega
        rw [List.drop_of_length_le (by have := HN.out; omega), heavyN] at heq
        have HE := Lib.hid (show heavyB l = decide (300 < (j : Int)) by
          unfold heavyB
          rw [heq]
          simp only
          rw [← HN.out]
          congr 1
          exact propext ⟨fun h => by omega, fun h => by omega⟩)
        clear heq
        go_wp2
        go_ret
        exact ⟨rbool HE.out.symm, hb⟩
end Go.Proofs.Ytndlcjpkpkfcpaa
