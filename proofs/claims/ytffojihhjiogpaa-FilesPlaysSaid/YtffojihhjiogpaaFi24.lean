/- Layer 3: whether a script goes too far; an operation's error, place. Conditions: those of each lemma. -/
import Derived.Test.YtffojihhjiogpaaFi23
namespace Go.Proofs.Ytffojihhjiogpaa
open Go.RowKit Go Go.Maps
set_option linter.unusedVariables false
set_option linter.unusedSimpArgs false
/-- one flag or the other -/
def SomeB (e : Ending) : Prop := ∃ r, e = .returned (.bool r)
set_option maxRecDepth 100000 in
set_option maxHeartbeats 8000000 in
theorem far_any (A : Option Addr) (l : List Fop) (n c : Nat) (w : World) (hO : Fops w w.heap.size A l) (hn : n = l.length) (hm : n ≤ maxLen) (hfit : ∀ x ∈ l, FitP x) :
    Calls Try.prog 25 #[.slice A n c] w fun e w' => SomeB e ∧ Below w.heap.size w w' := by
  have hmI : (n : Int) ≤ 9223372036854775807 := by unfold maxLen at hm; omega
  by_cases h0 : n = 0
  · subst h0
    obtain rfl : l = [] := List.eq_nil_of_length_eq_zero hn.symm
    clear hO hn hfit
    go_enter Try.func25, Try.ntmps25
    go_wp2
    go_loopw [3, 8] (fun m i wr => m = .int .i64 0 ∧ i = .int .i64 0 ∧ Below w.heap.size w wr) (fun _ _ _ => 0)
    case atStart => exact ⟨rfl, rfl, Below.refl _ _⟩
    case round =>
      obtain ⟨rfl, rfl, hb⟩ := hrel
      go_wp2
      go_ret
      exact ⟨⟨false, rfl⟩, hb⟩
  · obtain ⟨b, o, rfl, hbl, hc⟩ := fops_get hO (fun e => by rw [e] at hn; exact h0 hn)
    have HC := Lib.hid hc
    have HN := Lib.hid hn
    have HMX := Lib.hid hm
    have HF := Lib.hid hfit
    clear hc hO hn h0 hm hmI hfit
    go_enter Try.func25, Try.ntmps25
    go_wp2
    go_loopw [3, 8] (fun m i wr => ∃ (j : Nat) (q : Int), j ≤ n ∧ i = .int .i64 j ∧ m = .int .i64 q ∧ 0 ≤ q ∧ q ≤ j ∧ Below w.heap.size w wr) (fun _ i _ => n - (intOf i).toNat)
    case atStart => exact ⟨0, 0, by omega, rfl, rfl, by omega, by omega, Below.refl _ _⟩
    case round =>
      obtain ⟨j, q, hj, rfl, rfl, hq0, hq1, hb⟩ := hrel
      by_cases hjn : j < n
      · have hjl : j < l.length := by have := HN.out; omega
        obtain ⟨⟨a0, a1, a2, a3, a4, a5, a6⟩, _⟩ := HC.out _ hb j l[j] (List.getElem?_eq_getElem hjl)
        generalize l[j] = x at *
        obtain ⟨xk, xf, xp, xn, xc, xs, xA, xkc, xks⟩ := x
        simp only at a0 a1 a2 a3 a4 a5 a6
        have hjI : (j : Int) < n := by omega
        have HB := Lib.hid (hb.alloc hb.size (.cells (fopC ⟨xk, xf, xp, xn, xc, xs, xA, xkc, xks⟩) 42))
        have HJ := Lib.hid (show (j : Int) + 1 ≤ 9223372036854775807 by have := HMX.out; unfold maxLen at this; omega)
        have hwj : IntKind.i64.wrap ((j : Int) + 1) = j + 1 := by have := HJ.out; rw [IntKind.wrap_i64]; omega
        have hwq : IntKind.i64.wrap (q + 1) = q + 1 := by have := HJ.out; rw [IntKind.wrap_i64]; omega
        have h0j : (0 : Int) ≤ j := by omega
        have HQ := Lib.hid (And.intro hq0 hq1)
        clear hb hq0 hq1
        by_cases hp : 200 < xp
        · have hpd : decide (200 < xp) = true := decide_eq_true hp
          by_cases hk1 : xk < 1
          · have hkd : decide (xk < 1) = true := decide_eq_true hk1
            go_wp2
            go_roundw
            case rel => exact ⟨j + 1, q + 1, by omega, by go_num, rfl, by have := HQ.out; omega, by have := HQ.out; omega, HB.out⟩
            case measure => simp [intOf]; omega
          · have hkd : decide (xk < 1) = false := decide_eq_false hk1
            by_cases hk7 : 7 < xk
            · have hkd7 : decide (7 < xk) = true := decide_eq_true hk7
              go_wp2
              go_roundw
              case rel => exact ⟨j + 1, q + 1, by omega, by go_num, rfl, by have := HQ.out; omega, by have := HQ.out; omega, HB.out⟩
              case measure => simp [intOf]; omega
            · have hkd7 : decide (7 < xk) = false := decide_eq_false hk7
              go_wp2
              go_roundw
              case rel => exact ⟨j + 1, q, by omega, by go_num, rfl, by have := HQ.out; omega, by have := HQ.out; omega, HB.out⟩
              case measure => simp [intOf]; omega
        · have hpd : decide (200 < xp) = false := decide_eq_false hp
          go_wp2
          go_roundw
          case rel => exact ⟨j + 1, q, by omega, by go_num, rfl, by have := HQ.out; omega, by have := HQ.out; omega, HB.out⟩
          case measure => simp [intOf]; omega
      · obtain rfl : j = n := by omega
        go_wp2
        go_ret
        exact ⟨⟨decide (3 < q), rfl⟩, hb⟩
def errF (x : Fop) : Int := if x.n % 2 = 0 then 31 else 30
def placeF (x : Fop) : Int := if x.kd = 0 ∧ 100 < x.pl ∧ x.pl < 8126 then 100 else x.pl
abbrev fopV (x : Fop) : Value := .agg (fopC x)
set_option maxRecDepth 100000 in
set_option maxHeartbeats 4000000 in
theorem error_any (x : Fop) (w : World) (hf : FitP x) : Calls Try.prog 30 #[fopV x] w fun e w' => e = .returned (.int .i64 (errF x)) ∧ Below w.heap.size w w' := by
  obtain ⟨xk, xf, xp, xn, xc, xs, xA, xkc, xks⟩ := x
  obtain ⟨_, _, _, ⟨h1, h2⟩, _⟩ := hf
  simp only at h1 h2
  have ht : xn.tmod 2 = 0 ↔ xn % 2 = 0 := by rw [Int.tmod_eq_emod]; split <;> omega
  unfold errF
  simp only
  by_cases h : xn % 2 = 0
  · rw [if_pos h]
    have ht0 : xn.tmod 2 = 0 := ht.2 h
    clear ht h h1 h2
    go_enter Try.func30, Try.ntmps30
    go_wp2
    go_ret
    exact ⟨rfl, one_alloc⟩
  · rw [if_neg h]
    obtain ⟨t, hT⟩ : ∃ t, xn.tmod 2 = t := ⟨_, rfl⟩
    have ht0 : ¬ t = 0 := fun e => h (ht.1 (hT.trans e))
    have htb : (t == 0) = false := by simpa using ht0
    clear ht h h1 h2
    go_enter Try.func30, Try.ntmps30
    go_wp2
    go_ret
    exact ⟨rfl, one_alloc⟩
set_option maxRecDepth 100000 in
set_option maxHeartbeats 4000000 in
theorem place_any (x : Fop) (w : World) : Calls Try.prog 34 #[fopV x] w fun e w' => e = .returned (.int .i64 (placeF x)) ∧ Below w.heap.size w w' := by
  obtain ⟨xk, xf, xp, xn, xc, xs, xA, xkc, xks⟩ := x
  unfold placeF
  simp only
  by_cases hk : xk = 0
  · subst hk
    by_cases h1 : 100 < xp
    · have hd1 : decide (100 < xp) = true := decide_eq_true h1
      by_cases h2 : xp < 8126
      · have hd2 : decide (xp < 8126) = true := decide_eq_true h2
        rw [if_pos ⟨rfl, h1, h2⟩]
        go_enter Try.func34, Try.ntmps34
        go_wp2
        go_ret
        exact ⟨rfl, one_alloc⟩
      · have hd2 : decide (xp < 8126) = false := decide_eq_false h2
        rw [if_neg (fun h => h2 h.2.2)]
        go_enter Try.func34, Try.ntmps34
        go_wp2
        go_ret
        exact ⟨rfl, one_alloc⟩
    · have hd1 : decide (100 < xp) = false := decide_eq_false h1
      rw [if_neg (fun h => h1 h.2.1)]
      go_enter Try.func34, Try.ntmps34
      go_wp2
      go_ret
      exact ⟨rfl, one_alloc⟩
  · have hkb : (xk == 0) = false := by simpa using hk
    rw [if_neg (fun h => hk h.1)]
    go_enter Try.func34, Try.ntmps34
    go_wp2
    go_ret
    exact ⟨rfl, one_alloc⟩
end Go.Proofs.Ytffojihhjiogpaa
