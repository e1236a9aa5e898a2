/- Layer 3: files.Cut. Conditions: those of each lemma. -/
import Derived.Test.YtffojihhjiogpaaFi8
namespace Go.Proofs.Ytffojihhjiogpaa
open Go.RowKit Go Go.Maps
set_option linter.unusedVariables false
set_option linter.unusedSimpArgs false
def cutC (f n : Nat) : Ch := ⟨f, n, true, zS⟩
def cutD (d : Dk) (f n : Int) : Dk × Int :=
  if readyD d f ≠ 0 then (d, readyD d f) else if n < 0 ∨ (sizeD d f) < n then (d, 5) else opD d [cutC f.toNat n.toNat]
theorem ready_ok {d : Dk} {f : Int} (h : readyD d f = 0) : d.off = false ∧ inF f = true ∧ 0 ≤ f ∧ f < 8 := by
  unfold readyD at h
  cases ho : d.off with
  | true => rw [ho] at h; simp at h
  | false =>
    rw [ho] at h
    cases hi : inF f with
    | false => rw [hi] at h; simp at h
    | true =>
      have : 0 ≤ f ∧ f < 8 := by unfold inF at hi; simpa using hi
      exact ⟨rfl, rfl, this.1, this.2⟩
theorem one_chs (w : World) (c : Ch) (cs : Array Value) (hcs : cs = (chL c).toArray) : ChsAt (w.alloc (.cells cs 74)) (some ⟨w.heap.size, 0, none⟩) [c] := by
  subst hcs
  refine .inr ⟨w.heap.size, 0, rfl, by simp, fun j x hj k v hv => ?_⟩
  have hj0 : j = 0 := by
    rcases j with _ | j
    · rfl
    · simp at hj
  subst hj0
  simp at hj
  subst hj
  rw [(Blk.new w 74 (chL c).toArray).cell]
  simpa using hv
theorem cutC_ok {f n : Nat} (hf : f < 8) (hn : n ≤ 8192) : ChOk (cutC f n) := ⟨hf, hn, (fun h => by cases h), zS_ok⟩
set_option maxRecDepth 100000 in
set_option maxHeartbeats 4000000 in
theorem cut_any (S : Nat → Prop) (g : Nat) (d : Dk) (N : Nat) (hN : N + 1 ≤ 1000000) (f n : Int) (w : World) (h : DkS w S g d N) : Calls Try.prog 14 #[.pointer (some ⟨g, 0, none⟩), .int .i64 f, .int .i64 n] w fun e w' => e = .returned (.int .i64 (cutD d f n).2) ∧ DkR w S g (cutD d f n).1 (N + 1) w' := by
  have HRD := Lib.hid (ready_any S g d N f w h)
  have HB0 := Lib.hid (dkR_refl (dkS_more h hN))
  unfold cutD
  by_cases hr : readyD d f = 0
  · rw [if_neg (by simpa using hr)]
    obtain ⟨ho, hif, hf0, hf8⟩ := ready_ok hr
    obtain ⟨i, rfl⟩ := Int.eq_ofNat_of_zero_le hf0
    have hi : i < 8 := by omega
    obtain ⟨m, hm⟩ := id h
    have hs : sizeD d i = ((d.fl i).length : Nat) := by unfold sizeD; rw [hif]; rfl
    have y0 : w.cell? ⟨g, i * 2, none⟩ = some (.int .i64 ((d.fl i).length : Nat)) := by rw [hm.blk.cell, dkA_get _ _ (by omega), show i * 2 = 2 * i by omega, cell_len _ _ (by omega)]
    have hl8 := (hm.ok i (by omega)).1
    rw [hs, show ((i : Int)).toNat = i from rfl]
    rw [hr] at HRD
    generalize hL : (d.fl i).length = L at *
    clear hL hs hif ho hr
    by_cases h0 : n < 0
    · rw [if_pos (.inl h0)]
      have h0b : decide (n < 0) = true := decide_eq_true h0
      clear hm h
      go_enter Try.func14, Try.ntmps14
      go_wp2_with fail
      refine (HRD.out).mono ?_
      rintro e w' ⟨rfl, rfl⟩
      go_wp2
      go_ret
      exact ⟨rfl, HB0.out⟩
    obtain ⟨k, rfl⟩ := Int.eq_ofNat_of_zero_le (show 0 ≤ n by omega)
    have h0b : decide ((k : Int) < 0) = false := decide_eq_false h0
    by_cases h1 : L < k
    · rw [if_pos (.inr (by omega))]
      have h1b : decide (L < k) = true := decide_eq_true h1
      have h1c : decide ((L : Int) < k) = true := decide_eq_true (by omega)
      clear hm h
      go_enter Try.func14, Try.ntmps14
      go_wp2_with fail
      refine (HRD.out).mono ?_
      rintro e w' ⟨rfl, rfl⟩
      go_wp2
      go_ret
      exact ⟨rfl, HB0.out⟩
    · rw [if_neg (by omega), show ((k : Int)).toNat = k from rfl]
      have h1b : decide (L < k) = false := decide_eq_false h1
      have h1c : decide ((L : Int) < k) = false := decide_eq_false (by omega)
      have hws : ¬ S w.heap.size := fun e => by have := hm.lt _ e; omega
      have HOP := Lib.hid (fun cs (hcs : cs = (chL (cutC i k)).toArray) => op_any S g d N hN (some ⟨w.heap.size, 0, none⟩) [cutC i k] 1 1 rfl (by omega) (fun c hc => by rw [List.mem_singleton.1 hc]; exact cutC_ok hi (by omega)) _ (one_chs w (cutC i k) cs hcs) (fun a ha => by injection ha with ha; subst ha; exact hws) (dkS_below h one_alloc))
      clear hm h hws
      go_enter Try.func14, Try.ntmps14
      go_wp2_with fail
      refine (HRD.out).mono ?_
      rintro e w' ⟨rfl, rfl⟩
      go_wp2_with fail
      with_reducible refine (HOP.out _ ?hcs).mono ?_
      case hcs => kernel_rfl
      rintro e w' ⟨rfl, hR⟩
      have HR := Lib.hid (show DkR w S g (opD d [cutC i k]).1 (N + 1) w' by
        obtain ⟨S', k1, k2, k3⟩ := hR
        exact ⟨S', k1, fr_trans (fr_of one_alloc) k2 (fun b hb => .inl hb), fun b hb => by
          rcases k3 b hb with h4 | h4
          · exact .inl h4
          · exact .inr (Nat.le_trans (by simp) h4)⟩)
      clear hR
      go_wp2
      go_ret
      exact ⟨rfl, HR.out⟩
  · rw [if_pos hr]
    have hne : (readyD d f != 0) = true := by rw [bne_iff_ne]; exact hr
    generalize readyD d f = E at *
    clear h hr
    go_enter Try.func14, Try.ntmps14
    go_wp2_with fail
    refine (HRD.out).mono ?_
    rintro e w' ⟨rfl, rfl⟩
    go_wp2
    go_ret
    exact ⟨rfl, HB0.out⟩
end Go.Proofs.Ytffojihhjiogpaa
