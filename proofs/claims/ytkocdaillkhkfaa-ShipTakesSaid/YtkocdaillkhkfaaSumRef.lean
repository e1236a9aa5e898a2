/- What counterfoilref02.word and counterfoilref02.Add answer. Conditions: the text is no longer than a machine has addresses, the pair's numbers fit their kind. -/
import Derived.Test.YtkocdaillkhkfaaProg
import Derived.Test.YtkocdaillkhkfaaSum
import Derived.Deep.RegionHeld3
import Derived.Deep.RegionWith
import Derived.StillTailTactics
namespace Go.Proofs.Ytkocdaillkhkfaa
open Go.RowKit
def pw (L : List Nat) (at_ : Nat) : Nat → Nat
  | 0 => 0
  | j + 1 => pw L at_ j * 256 + L.getD (at_ + j) 0
theorem pw_four (L : List Nat) (i : Nat) : pw L i 4 = wd L i := by
  show (((0 * 256 + L.getD (i + 0) 0) * 256 + L.getD (i + 1) 0) * 256 + L.getD (i + 2) 0) * 256 + L.getD (i + 3) 0 = wd L i
  unfold wd; rw [Nat.add_zero]; omega
theorem pw_lt (s : ByteArray) (i : Nat) : ∀ j, pw (bts s) i j < 256 ^ j
  | 0 => by simp [pw]
  | j + 1 => by
    have h := pw_lt s i j
    have h2 := bts_getD_lt s (i + j)
    show pw (bts s) i j * 256 + (bts s).getD (i + j) 0 < 256 ^ (j + 1)
    rw [Nat.pow_succ]; omega
set_option maxRecDepth 100000 in
set_option maxHeartbeats 2000000 in
theorem word_nat (s : ByteArray) (i : Nat) (w : World) (hi : i ≤ 140737488351240) (hs : s.size ≤ 140737488351232) :
    Calls Try.prog 49 #[.string s, .int .i64 i] w fun e w' => e = .returned (.int .u32 (wd (bts s) i)) ∧ w = w' := by
  have hpl := pw_lt s i
  have hlt := bts_getD_lt s
  have hcell : ∀ k, (hk : k < s.size) → s[k].toNat = (bts s).getD k 0 := fun k hk => by
    have h2 : k < (bts s).length := by rw [bts_length]; exact hk
    rw [List.getD_eq_getElem?_getD, List.getElem?_eq_getElem h2]
    simp [bts]
    rfl
  have hend : ∀ k, s.size ≤ k → (bts s).getD k 0 = 0 := fun k hk => by
    rw [List.getD_eq_getElem?_getD, List.getElem?_eq_none (by rw [bts_length]; exact hk)]; rfl
  have h4 := Lib.hid (pw_four (bts s) i)
  go_enter Try.func49, Try.ntmps49
  go_wp2
  go_loop [5, 6] (fun n k => ∃ j m : Nat, j ≤ 4 ∧ m = pw (bts s) i j ∧ n = .int .u64 m ∧ k = .int .i64 ((i + j : Nat) : Int)) (fun _ k => i + 4 - (intOf k).toNat)
  case atStart => exact ⟨0, 0, by omega, rfl, rfl, rfl⟩
  case round =>
    obtain ⟨j, m, hj, hm, rfl, rfl⟩ := hrel
    have hmb : m < 4294967296 := by
      have h1 := hpl j
      have h2 : 256 ^ j ≤ 256 ^ 4 := Nat.pow_le_pow_right (by omega) hj
      have e : (256 : Nat) ^ 4 = 4294967296 := by decide
      omega
    have hst : pw (bts s) i (j + 1) = m * 256 + (bts s).getD (i + j) 0 := by rw [hm]; rfl
    have HST := Lib.hid hst
    have HM := Lib.hid hm
    clear hst hm hpl
    by_cases hj4 : j < 4
    · by_cases hin : i + j < s.size
      · have hc := hcell (i + j) hin
        have hl := hlt (i + j)
        generalize (bts s).getD (i + j) 0 = c at *
        have hcb := s[i + j].toNat_lt
        clear hcell hlt hend
        go_wp2
        go_round
        case rel => exact ⟨j + 1, m * 256 + c, by omega, HST.out.symm, vint (by omega), vint (by omega)⟩
        case measure => simp [intOf]; omega
      · have h0 := hend (i + j) (by omega)
        rw [h0] at HST
        clear hcell hlt hend h0
        go_wp2
        go_round
        case rel => exact ⟨j + 1, m * 256, by omega, by rw [HST.out]; rfl, vint (by omega), vint (by omega)⟩
        case measure => simp [intOf]; omega
    · obtain rfl : j = 4 := by omega
      clear hcell hlt hend
      go_wp2
      go_ret
      exact ⟨rint (by rw [← h4.out, ← HM.out]), rfl⟩
theorem word_int (s : ByteArray) (z : Int) (w : World) (h0 : 0 ≤ z) (hi : z ≤ 140737488351240) (hs : s.size ≤ 140737488351232) :
    Calls Try.prog 49 #[.string s, .int .i64 z] w fun e w' => e = .returned (.int .u32 (wd (bts s) z.toNat)) ∧ w' = w := by
  obtain ⟨j, rfl⟩ := Int.eq_ofNat_of_zero_le h0
  exact (word_nat s j w (by omega) hs).mono fun _ _ h => ⟨h.1, h.2.symm⟩
set_option maxRecDepth 100000 in
set_option maxHeartbeats 40000000 in
theorem refAdd_any (a b : Int) (s : ByteArray) (w : World) (hp : Fit (a, b)) (hs : s.size ≤ 140737488351232) :
    Calls Try.prog 34 #[.agg #[.int .u32 a, .int .u32 b], .string s] w fun e w' => e = .returned (.agg #[.int .u32 (addL (bts s) (a, b)).1, .int .u32 (addL (bts s) (a, b)).2]) ∧ Below w.heap.size w w' := by
  have hwd := wd_lt s
  have hk0 := keep_new w a b
  have hfit := fit_addN (L := bts s) hp
  have e1 : addN (bts s) (nb s.size) (a, b) = addL (bts s) (a, b) := by unfold addL; rw [bts_length]
  have E1 := Lib.hid e1
  clear e1
  go_enter Try.func34, Try.ntmps34
  go_wp2_with fail
  go_loopw [5] (fun i wr => ∃ (k : Nat) (A B : Int), k ≤ nb s.size ∧ i = .int .i64 ((8 * k : Nat) : Int) ∧ (A, B) = addN (bts s) k (a, b) ∧ Keep w wr A B) (fun i _ => nb s.size * 8 - (intOf i).toNat)
  case atStart => exact ⟨0, a, b, by omega, rfl, rfl, hk0⟩
  case round =>
    obtain ⟨k, A, B, hk, rfl, hAB, hkp⟩ := hrel
    have c0 : wr.cell? ⟨w.heap.size, 0, none⟩ = some (.int .u32 A) := hkp.box.cell 0
    have c1 : wr.cell? ⟨w.heap.size, 1, none⟩ = some (.int .u32 B) := hkp.box.cell 1
    have f0 := hkp.box.frozen 0
    have f1 := hkp.box.frozen 1
    by_cases hlt : 8 * k < s.size
    · have hf : Fit (A, B) := by rw [hAB]; exact hfit k
      have hstep : addN (bts s) (k + 1) (a, b) = (addA A B (wd (bts s) (8 * k)), addB A B (wd (bts s) (8 * k)) (wd (bts s) (8 * k + 4))) := by
        show stepA (addN (bts s) k (a, b)) (bts s) k = _
        rw [← hAB]; rfl
      have HS := Lib.hid hstep
      have hz : (8 * (k : Int)).toNat = 8 * k := by omega
      have hz4 : (8 * (k : Int) + 4).toNat = 8 * k + 4 := by omega
      have HZ := Lib.hid hz
      have HZ4 := Lib.hid hz4
      have hkn : k + 1 ≤ nb s.size := by unfold nb; omega
      obtain ⟨hf1, hf2, hf3, hf4⟩ := hf
      simp only at hf1 hf2 hf3 hf4
      have hx := hwd (8 * k)
      have hy := hwd (8 * k + 4)
      have hwr : IntKind.i64.wrap (8 * (k : Int) + 4) = 8 * (k : Int) + 4 := by simp [IntKind.wrap, IntKind.bits, IntKind.signed]; omega
      have eqA : Hid (((A + (wd (bts s) (8 * k) : Nat)) % 4294967296 + B) % 4294967296 = addA A B (wd (bts s) (8 * k))) := Lib.hid (by unfold addA; omega)
      have eqB : Hid (((B + (wd (bts s) (8 * k + 4) : Nat)) % 4294967296 + ((A + (wd (bts s) (8 * k) : Nat)) % 4294967296 + B) % 4294967296) % 4294967296 = addB A B (wd (bts s) (8 * k)) (wd (bts s) (8 * k + 4))) := Lib.hid (by unfold addB; omega)
      clear hAB hstep hfit hk0 hp hz hz4 hwd
      go_wp2_with fail
      go_region_with ((go_at_call 49; refine (word_int s _ _ (by omega) (by omega) hs).mono ?_; rintro e w2 ⟨rfl, rfl⟩; rw [HZ.out]))
      all_goals go_wp2_with fail
      all_goals go_region_with ((go_at_call 49; refine (word_int s _ _ (by omega) (by omega) hs).mono ?_; rintro e w2 ⟨rfl, rfl⟩; rw [HZ4.out]))
      all_goals go_wp2
      all_goals exact ⟨⟨k + 1, _, _, hkn, vint (by omega), by rw [HS.out, ← eqA.out, ← eqB.out], hkp.set.drew.drew⟩, by simp [intOf]; omega⟩
    · have hke : nb s.size = k := by unfold nb at hk ⊢; omega
      have HE := Lib.hid (show (A, B) = addL (bts s) (a, b) by rw [← E1.out, hke]; exact hAB)
      obtain ⟨hq1, hq2, hq3⟩ := hkp
      have r0 : wr.cell? ⟨w.heap.size + 1, 0, none⟩ = some (.int .u32 0) := hq2.cell 0
      have r1 : wr.cell? ⟨w.heap.size + 1, 1, none⟩ = some (.int .u32 0) := hq2.cell 1
      have f2 := hq2.frozen 0
      have f3 := hq2.frozen 1
      clear hAB hfit hk0 hke hp
      go_wp2
      refine bodyPost_ret (v := .agg #[.int .u32 A, .int .u32 B]) ?_ rfl ⟨ragg (by rw [← HE.out]) (by rw [← HE.out]), (hq3.setCell (Nat.le_succ _) _).setCell (Nat.le_succ _) _⟩
      simp [results, Try.results34, go_sem, r0, r1]
end Go.Proofs.Ytkocdaillkhkfaa
