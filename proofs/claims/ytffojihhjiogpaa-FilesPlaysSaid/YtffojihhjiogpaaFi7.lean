/- Layer 3: the disk's small calls. Conditions: those of each lemma. -/
import Derived.Test.YtffojihhjiogpaaFi6
namespace Go.Proofs.Ytffojihhjiogpaa
open Go.RowKit Go Go.Maps
set_option linter.unusedVariables false
set_option linter.unusedSimpArgs false
theorem rint3 {a b : Int} (h : a = b) : Ending.returned (.int .i64 a) = .returned (.int .i64 b) := by rw [h]
/-- what an operation does, and what it answers -/
def opD (d : Dk) (made : List Ch) : Dk × Int :=
  if (d.ops : Int) = d.power then (d.goes, 32) else if d.armed d.ops ≠ 0 then (d.hits, d.armed d.ops) else ({ doneAll 0 d.op1 made with loose := d.loose ++ made }, 0)
theorem op_any (S : Nat → Prop) (g : Nat) (d : Dk) (N : Nat) (hN : N + 1 ≤ 1000000) (A : Option Addr) (made : List Ch) (n c : Nat) (hn : n = made.length) (hn8 : n ≤ 8192) (hmk : ∀ c ∈ made, ChOk c) (w : World) (hA : ChsAt w A made) (hAS : ∀ a, A = some a → ¬ S a.block) (h : DkS w S g d N) :
    Calls Try.prog 40 #[.pointer (some ⟨g, 0, none⟩), .slice A n c] w fun e w' => e = .returned (.int .i64 (opD d made).2) ∧ DkR w S g (opD d made).1 (N + 1) w' := by
  unfold opD
  by_cases hp : (d.ops : Int) = d.power
  · rw [if_pos hp]; exact op_goes S g d N hN A n c w h hp
  · rw [if_neg hp]
    by_cases ha : d.armed d.ops = 0
    · rw [if_neg (by simpa using ha)]; exact op_ok S g d N hN A made n c hn hn8 hmk w hA hAS h hp ha
    · rw [if_pos ha]; exact op_hits S g d N hN A n c w h hp ha
set_option maxRecDepth 100000 in
set_option maxHeartbeats 4000000 in
theorem known_any (f : Int) (w : World) : Calls Try.prog 42 #[.int .i64 f] w fun e w' => e = .returned (.bool (decide (0 ≤ f) && decide (f < 8))) ∧ w = w' := by
  by_cases h0 : 0 ≤ f
  · by_cases h1 : f < 8
    · have HR := Lib.hid (show (decide (0 ≤ f) && decide (f < 8)) = true by simp [h0, h1])
      go_enter Try.func42, Try.ntmps42
      go_wp2
      go_ret
      first | exact ⟨rfl, rfl⟩ | exact ⟨by rw [HR.out]; rfl, rfl⟩
    · have HR := Lib.hid (show (decide (0 ≤ f) && decide (f < 8)) = false by simp [h1])
      have h2 : decide (f < 8) = false := decide_eq_false h1
      go_enter Try.func42, Try.ntmps42
      go_wp2
      go_ret
      first | exact ⟨rfl, rfl⟩ | exact ⟨by rw [HR.out]; rfl, rfl⟩
  · have HR := Lib.hid (show (decide (0 ≤ f) && decide (f < 8)) = false by simp [h0])
    have h2 : decide (0 ≤ f) = false := decide_eq_false h0
    go_enter Try.func42, Try.ntmps42
    go_wp2
    go_ret
    first | exact ⟨rfl, rfl⟩ | exact ⟨by rw [HR.out]; rfl, rfl⟩
def inF (f : Int) : Bool := decide (0 ≤ f) && decide (f < 8)
theorem known_in (f : Int) (w : World) : Calls Try.prog 42 #[.int .i64 f] w fun e w' => e = .returned (.bool (inF f)) ∧ w = w' := known_any f w
def readyD (d : Dk) (f : Int) : Int := if d.off then 32 else if inF f then 0 else 2
set_option maxRecDepth 100000 in
set_option maxHeartbeats 4000000 in
theorem ready_any (S : Nat → Prop) (g : Nat) (d : Dk) (N : Nat) (f : Int) (w : World) (h : DkS w S g d N) : Calls Try.prog 39 #[.pointer (some ⟨g, 0, none⟩), .int .i64 f] w fun e w' => e = .returned (.int .i64 (readyD d f)) ∧ w = w' := by
  obtain ⟨m, hm⟩ := h
  obtain ⟨y2, y3, y4, y5, y6, z2, z3, z4, z5, z6⟩ := dk_more hm.blk
  clear y2 y3 y4 y5 z2 z3 z4 z5 z6 hm
  unfold readyD
  cases ho : d.off with
  | true =>
    rw [ho] at y6
    clear ho
    go_enter Try.func39, Try.ntmps39
    go_wp2
    go_ret
    exact ⟨rfl, rfl⟩
  | false =>
    rw [ho] at y6
    have HK := Lib.hid (known_in f w)
    clear ho
    cases hk : inF f with
    | true =>
      rw [hk] at HK
      clear hk
      go_enter Try.func39, Try.ntmps39
      go_wp2_with fail
      refine (HK.out).mono ?_
      rintro e w' ⟨rfl, rfl⟩
      go_wp2
      go_ret
      exact ⟨rfl, rfl⟩
    | false =>
      rw [hk] at HK
      clear hk
      go_enter Try.func39, Try.ntmps39
      go_wp2_with fail
      refine (HK.out).mono ?_
      rintro e w' ⟨rfl, rfl⟩
      go_wp2
      go_ret
      exact ⟨rfl, rfl⟩
set_option maxRecDepth 100000 in
set_option maxHeartbeats 4000000 in
theorem ready_nil (f : Int) (w : World) : Calls Try.prog 39 #[.pointer none, .int .i64 f] w fun e w' => e = .returned (.int .i64 1) ∧ w = w' := by
  go_enter Try.func39, Try.ntmps39
  go_wp2
  go_ret
  exact ⟨rfl, rfl⟩
def sizeD (d : Dk) (f : Int) : Int := if inF f then ((d.fl f.toNat).length : Nat) else 0
set_option maxRecDepth 100000 in
set_option maxHeartbeats 4000000 in
theorem size_any (S : Nat → Prop) (g : Nat) (d : Dk) (N : Nat) (f : Int) (w : World) (h : DkS w S g d N) : Calls Try.prog 12 #[.pointer (some ⟨g, 0, none⟩), .int .i64 f] w fun e w' => e = .returned (.int .i64 (sizeD d f)) ∧ w = w' := by
  obtain ⟨m, hm⟩ := h
  have HK := Lib.hid (known_in f w)
  unfold sizeD
  cases hk : inF f with
  | true =>
    rw [hk] at HK
    have hf : 0 ≤ f ∧ f < 8 := by unfold inF at hk; simpa using hk
    obtain ⟨i, rfl⟩ := Int.eq_ofNat_of_zero_le hf.1
    have hi : i < 8 := by omega
    have y0 : w.cell? ⟨g, i * 2, none⟩ = some (.int .i64 ((d.fl i).length : Nat)) := by rw [hm.blk.cell, dkA_get _ _ (by omega), show i * 2 = 2 * i by omega, cell_len _ _ (by omega)]
    have hi8 : (i : Int) < 8 := by omega
    rw [show ((i : Int)).toNat = i from rfl]
    clear hk hf hm
    go_enter Try.func12, Try.ntmps12
    go_wp2_with fail
    refine (HK.out).mono ?_
    rintro e w' ⟨rfl, rfl⟩
    go_wp2
    go_ret
    exact ⟨rfl, rfl⟩
  | false =>
    rw [hk] at HK
    clear hk hm
    go_enter Try.func12, Try.ntmps12
    go_wp2_with fail
    refine (HK.out).mono ?_
    rintro e w' ⟨rfl, rfl⟩
    go_wp2
    go_ret
    exact ⟨rfl, rfl⟩
set_option maxRecDepth 100000 in
set_option maxHeartbeats 4000000 in
theorem size_nil (f : Int) (w : World) : Calls Try.prog 12 #[.pointer none, .int .i64 f] w fun e w' => e = .returned (.int .i64 0) ∧ w = w' := by
  go_enter Try.func12, Try.ntmps12
  go_wp2
  go_ret
  exact ⟨rfl, rfl⟩
set_option maxRecDepth 100000 in
set_option maxHeartbeats 4000000 in
theorem loose_any (S : Nat → Prop) (g : Nat) (d : Dk) (N : Nat) (w : World) (h : DkS w S g d N) : Calls Try.prog 15 #[.pointer (some ⟨g, 0, none⟩)] w fun e w' => e = .returned (.int .i64 (d.loose.length : Nat)) ∧ w = w' := by
  obtain ⟨m, hm⟩ := h
  obtain ⟨y2, y3, y4, y5, y6, z2, z3, z4, z5, z6⟩ := dk_more hm.blk
  clear y3 y4 y5 y6 z2 z3 z4 z5 z6 hm
  go_enter Try.func15, Try.ntmps15
  go_wp2
  go_ret
  exact ⟨rfl, rfl⟩
set_option maxRecDepth 100000 in
set_option maxHeartbeats 4000000 in
theorem ops_any (S : Nat → Prop) (g : Nat) (d : Dk) (N : Nat) (w : World) (h : DkS w S g d N) : Calls Try.prog 19 #[.pointer (some ⟨g, 0, none⟩)] w fun e w' => e = .returned (.int .i64 d.ops) ∧ w = w' := by
  obtain ⟨m, hm⟩ := h
  obtain ⟨y2, y3, y4, y5, y6, z2, z3, z4, z5, z6⟩ := dk_more hm.blk
  clear y2 y3 y4 y6 z2 z3 z4 z5 z6 hm
  go_enter Try.func19, Try.ntmps19
  go_wp2
  go_ret
  exact ⟨rfl, rfl⟩
set_option maxRecDepth 100000 in
set_option maxHeartbeats 4000000 in
theorem on_any (S : Nat → Prop) (g : Nat) (d : Dk) (N : Nat) (w : World) (h : DkS w S g d N) : Calls Try.prog 21 #[.pointer (some ⟨g, 0, none⟩)] w fun e w' => e = .returned (.bool !d.off) ∧ w = w' := by
  obtain ⟨m, hm⟩ := h
  obtain ⟨y2, y3, y4, y5, y6, z2, z3, z4, z5, z6⟩ := dk_more hm.blk
  clear y2 y3 y4 y5 z2 z3 z4 z5 z6 hm
  go_enter Try.func21, Try.ntmps21
  go_wp2
  go_ret
  exact ⟨rfl, rfl⟩
set_option maxRecDepth 100000 in
set_option maxHeartbeats 4000000 in
theorem loose_nil (w : World) : Calls Try.prog 15 #[.pointer none] w fun e w' => e = .returned (.int .i64 0) ∧ w = w' := by
  go_enter Try.func15, Try.ntmps15
  go_wp2
  go_ret
  exact ⟨rfl, rfl⟩
set_option maxRecDepth 100000 in
set_option maxHeartbeats 4000000 in
theorem ops_nil (w : World) : Calls Try.prog 19 #[.pointer none] w fun e w' => e = .returned (.int .i64 0) ∧ w = w' := by
  go_enter Try.func19, Try.ntmps19
  go_wp2
  go_ret
  exact ⟨rfl, rfl⟩
set_option maxRecDepth 100000 in
set_option maxHeartbeats 4000000 in
theorem on_nil (w : World) : Calls Try.prog 21 #[.pointer none] w fun e w' => e = .returned (.bool false) ∧ w = w' := by
  go_enter Try.func21, Try.ntmps21
  go_wp2
  go_ret
  exact ⟨rfl, rfl⟩
end Go.Proofs.Ytffojihhjiogpaa
