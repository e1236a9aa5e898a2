/- What ship.Take answers. Conditions: a text is no longer than a machine has addresses. -/
import Derived.Test.YtkocdaillkhkfaaShipTake5
namespace Go.Proofs.Ytkocdaillkhkfaa
open Go.RowKit
set_option linter.unusedVariables false
theorem take_pair (s : ByteArray) (h : 8 ≤ s.size) : textL ((val 0 ((bts s).take 8) / 4294967296 : Nat) : Int) ((val 0 ((bts s).take 8) % 4294967296 : Nat) : Int) = (bts s).take 8 ∧ Fit (((val 0 ((bts s).take 8) / 4294967296 : Nat) : Int), ((val 0 ((bts s).take 8) % 4294967296 : Nat) : Int)) := by
  have h2 := eightL_val (L := (bts s).take 8) (by rw [List.length_take, bts_length]; omega) (fun x hx => bts_lt s x (List.mem_of_mem_take hx))
  generalize val 0 ((bts s).take 8) = v at *
  refine ⟨?_, ?_⟩
  · unfold textL
    rw [Int.toNat_natCast, Int.toNat_natCast]
    exact h2.1
  · unfold Fit
    simp only
    omega
theorem sum_calls (s : ByteArray) (h : 8 ≤ s.size) (hz : s.size ≤ 140737488351232) : ∃ P1 P2 Q1 Q2 : Int,
    (∀ w, Calls Try.prog 26 #[.string s] w fun e w' => e = .returned (.tuple #[.agg #[.int .u32 P1, .int .u32 P2], .int .i64 0]) ∧ Below w.heap.size w w') ∧
    (∀ w, Calls Try.prog 24 #[.string (s.extract 8 s.size)] w fun e w' => e = .returned (.agg #[.int .u32 Q1, .int .u32 Q2]) ∧ Below w.heap.size w w') ∧ (sumOk s ↔ P1 = Q1 ∧ P2 = Q2) := by
  have h1 := fun w => stake_any s w (by omega)
  rw [fixedS_ok (by rw [bts_length]; exact h)] at h1
  dsimp only at h1
  have h2 := fun w => of_any (s.extract 8 s.size) w (by rw [ByteArray.size_extract]; omega)
  rw [bts_cutr] at h2
  obtain ⟨t1, t2⟩ := take_pair s h
  refine ⟨_, _, _, _, h1, h2, ?_⟩
  have e0 : sumOk s ↔ textL (addL ((bts s).drop 8) (0, 0)).1 (addL ((bts s).drop 8) (0, 0)).2 = textL ((val 0 ((bts s).take 8) / 4294967296 : Nat) : Int) ((val 0 ((bts s).take 8) % 4294967296 : Nat) : Int) := by
    rw [t1]; rfl
  rw [e0]
  have hq : Fit (addL ((bts s).drop 8) (0, 0)) := fit_addL fit0
  constructor
  · intro e
    have := textL_inj (p := ((addL ((bts s).drop 8) (0, 0)).1, (addL ((bts s).drop 8) (0, 0)).2)) (q := (((val 0 ((bts s).take 8) / 4294967296 : Nat) : Int), ((val 0 ((bts s).take 8) % 4294967296 : Nat) : Int))) hq t2 e
    rw [Prod.mk.injEq] at this
    exact ⟨this.1.symm, this.2.symm⟩
  · rintro ⟨a, b⟩
    rw [a, b]
theorem mod8 {s : ByteArray} (h : s.size % 8 = 0) : ((s.size : Int) % 8 != 0) = false := by rw [bne_eq_false_iff_eq]; omega
theorem take_short (s : ByteArray) (w : World) (hz : s.size ≤ 140737488351232) (hs : s.size < 56 ∨ s.size % 8 ≠ 0) :
    Calls Try.prog 12 #[.string s] w fun e w' => e = .returned (.tuple #[shipZero, .int .i64 7]) ∧ Below w.heap.size w w' :=
  shipTake_len s w hz (by omega)
theorem take_sum (s : ByteArray) (w : World) (hz : s.size ≤ 140737488351232) (hs : 56 ≤ s.size) (hm : s.size % 8 = 0) (h : ¬ sumOk s) :
    Calls Try.prog 12 #[.string s] w fun e w' => e = .returned (.tuple #[shipZero, .int .i64 40]) ∧ Below w.heap.size w w' := by
  obtain ⟨P1, P2, Q1, Q2, h1, h2, h3⟩ := sum_calls s (by omega) hz
  exact shipTake_sum s P1 P2 Q1 Q2 0 w hz hs (mod8 hm) h1 h2 (fun e => h (h3.2 e))
theorem take_main (s : ByteArray) (w : World) (hz : s.size ≤ 140737488351232) (hs : 56 ≤ s.size) (hm : s.size % 8 = 0) (h : sumOk s) : Calls Try.prog 12 #[.string s] w (TkPost s w) := by
  obtain ⟨P1, P2, Q1, Q2, h1, h2, h3⟩ := sum_calls s (by omega) hz
  obtain ⟨rfl, rfl⟩ := h3.1 h
  exact shipTake_main s P1 P2 0 w hz hs (mod8 hm) h1 h2
theorem take_bad (s : ByteArray) (w : World) (hz : s.size ≤ 140737488351232) (hs : 56 ≤ s.size) (hm : s.size % 8 = 0) (h : sumOk s) (hb : tkB s = false) :
    Calls Try.prog 12 #[.string s] w fun e w' => e = .returned (.tuple #[shipZero, .int .i64 7]) ∧ Below w.heap.size w w' :=
  (take_main s w hz hs hm h).mono fun _ _ he => ⟨he.2.1 hb, he.1⟩
theorem take_yes (s : ByteArray) (kind ep K : Nat) (full : Bool) (pages : Nat) (l : List (Int × ByteArray)) (w : World) (hz : s.size ≤ 140737488351232) (h : IsShip s kind ep K full pages l) :
    Calls Try.prog 12 #[.string s] w fun e w' => ∃ A c, e = .returned (.tuple #[.agg #[.int .u8 kind, .int .u64 ep, .int .u64 K, .bool full, .int .i64 pages, .slice A l.length c], .int .i64 0]) ∧ Imgs w' w'.heap.size A l ∧ Below w.heap.size w w' := by
  have hsz := ship_size h
  obtain ⟨hb, v1, v2, v3, v4, v5, v6, v7⟩ := ship_tk h
  refine (take_main s w hz (by omega) (by omega) (ship_sum h)).mono fun e w' he => ?_
  obtain ⟨A, c, h1, h2⟩ := he.2.2 hb
  have hf : decide ((if full = true then 1 else 0) = 1) = full := by cases full <;> rfl
  rw [v1, v2, v3, v4, v5, v6, hf] at h1
  rw [v6, v7] at h2
  exact ⟨A, c, h1, h2, he.1⟩
end Go.Proofs.Ytkocdaillkhkfaa
