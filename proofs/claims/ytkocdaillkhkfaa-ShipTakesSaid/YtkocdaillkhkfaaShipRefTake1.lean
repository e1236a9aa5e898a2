/- The document's own numbers of a ship's bytes, and what its Take reads. Conditions: those of each lemma. -/
import Derived.Test.YtkocdaillkhkfaaRefValue2
import Derived.Test.YtkocdaillkhkfaaShipMath
namespace Go.Proofs.Ytkocdaillkhkfaa
open Go.RowKit
set_option linter.unusedVariables false
def sm (s : ByteArray) (i : Nat) : Nat := min (vAt s i) 1000000
theorem vAt_cut (s : ByteArray) (i : Nat) : val 0 (bts (s.extract i (i + 8))) = vAt s i := by
  unfold vAt
  rw [bts_cutn]
set_option maxRecDepth 100000 in
set_option maxHeartbeats 2000000 in
theorem small_any (s : ByteArray) (i : Nat) (w : World) (h : i + 8 ≤ s.size) (hz : s.size ≤ 1000000000000) :
    Calls Try.prog 36 #[.string s, .int .i64 i] w fun e w' => e = .returned (.int .i64 (sm s i)) ∧ w = w' := by
  have hv := fun W => refValue_any (s.extract i (i + 8)) W (by rw [ByteArray.size_extract]; omega)
  rw [vAt_cut] at hv
  have hlt := (vAt_lt s i h).1
  have w8 : IntKind.i64.wrap ((i : Int) + 8) = (i : Int) + 8 := by simp [IntKind.wrap, IntKind.bits, IntKind.signed]; omega
  have f0 : (0 : Int) ≤ (i : Int) := by omega
  have f1 : (i : Int) ≤ (i : Int) + 8 := by omega
  have f2 : (i : Int) + 8 ≤ s.size := by omega
  have f3 : (0 : Int) ≤ (i : Int) + 8 := by omega
  have f4 : ((i : Int) + 8).toNat = i + 8 := by omega
  generalize hV : vAt s i = V at *
  have HV := Lib.hid hv
  have HE := Lib.hid hV
  clear hv hV
  by_cases hb : 1000000 < V
  · have hb' : (1000000 : Int) < (V : Int) := by omega
    go_enter Try.func36, Try.ntmps36
    go_wp2_with fail
    refine (HV.out _).mono ?_
    rintro e w1 ⟨rfl, rfl⟩
    go_wp2
    go_ret
    exact ⟨by unfold sm; rw [HE.out, Nat.min_eq_right (by omega)]; rfl, rfl⟩
  · have hb' : (V : Int) ≤ 1000000 := by omega
    have hw : IntKind.i64.wrap (V : Int) = V := by simp [IntKind.wrap, IntKind.bits, IntKind.signed]; omega
    go_enter Try.func36, Try.ntmps36
    go_wp2_with fail
    refine (HV.out _).mono ?_
    rintro e w1 ⟨rfl, rfl⟩
    go_wp2
    go_ret
    exact ⟨by unfold sm; rw [HE.out, Nat.min_eq_left (by omega)]; rfl, rfl⟩
def imgR (s : ByteArray) (i : Nat) : Int × ByteArray := ((sm s i : Int), s.extract (i + 8) (i + 520))
def imgsR (s : ByteArray) (n : Nat) : List (Int × ByteArray) := (List.range n).map fun j => imgR s (56 + 520 * j)
theorem imgsR_len (s : ByteArray) (n : Nat) : (imgsR s n).length = n := by simp [imgsR]
theorem imgsR_succ (s : ByteArray) (n : Nat) : imgsR s (n + 1) = imgsR s n ++ [imgR s (56 + 520 * n)] := by simp [imgsR, List.range_succ]
def kR (s : ByteArray) : Nat := min (sm s 8) 255
def nR (s : ByteArray) : Nat := (s.size - 56) / 520
theorem imgsR_N (s : ByteArray) (n : Nat) (h : pgsOk s n = true) : imgsR s n = imgsN s n := by
  unfold imgsR imgsN
  refine List.map_congr_left fun j hj => ?_
  have hb := pgsOk_at h (List.mem_range.1 hj)
  unfold imgR imgAt sm
  rw [wrap_small hb, Nat.min_eq_left (by omega)]
/-- what it reads of a ship's bytes is that ship -/
theorem ship_read {s : ByteArray} {kind ep K : Nat} {full : Bool} {pages : Nat} {l : List (Int × ByteArray)} (h : IsShip s kind ep K full pages l) :
    kR s = kind ∧ vAt s 16 = ep ∧ vAt s 24 = K ∧ decide (sm s 32 = 1) = full ∧ sm s 40 = pages ∧ nR s = l.length ∧ imgsR s (nR s) = l := by
  obtain ⟨hb, v1, v2, v3, v4, v5, v6, v7⟩ := ship_tk h
  have hs := ship_size h
  have hk := h.hkind
  have hp := h.hpages
  have hl := h.hlen
  have hn : nR s = l.length := by unfold nR; omega
  have hpg : pgsOk s l.length = true := by
    unfold tkB at hb
    rw [v6] at hb
    simp only [Bool.and_eq_true] at hb
    exact hb.1.2
  refine ⟨?_, v2, v3, ?_, ?_, hn, ?_⟩
  · unfold kR sm; rw [v1]; omega
  · unfold sm
    rw [v4]
    cases full <;> rfl
  · unfold sm; rw [v5]; omega
  · rw [hn, imgsR_N s _ hpg, v7]
end Go.Proofs.Ytkocdaillkhkfaa
