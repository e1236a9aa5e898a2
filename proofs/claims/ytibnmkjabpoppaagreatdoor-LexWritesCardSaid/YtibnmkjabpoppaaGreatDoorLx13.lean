/- Layer 13: ref13.words at a capital letter. Conditions: those of each lemma. -/
import Derived.Test.YtibnmkjabpoppaaGreatDoorLx12
namespace Go.Proofs.YtibnmkjabpoppaaGreatDoor
open Go Go.RowKit
set_option linter.unusedVariables false
set_option linter.unusedSimpArgs false
def rbadT (e p : Int) : Value := .tuple #[tokV 0 ⟨#[]⟩ 0 0, .int .i64 0, spotV e p]
def rokT (k : Nat) (x : ByteArray) (p n : Nat) : Value := .tuple #[tokV k x 0 p, .int .i64 n, spotV 0 0]
def rwrdT (S : ByteArray) (p n : Nat) : Value := if isIn wordsB (S.extract p n) = true then rokT 1 (S.extract p n) p n else rbadT 6 p
theorem rwords_ex (w : World) : Calls Tryz.prog 58 #[] w fun e w' => ∃ g, e = .returned (.slice (some ⟨g, 0, none⟩) 43 43) ∧ Below w.heap.size w w' ∧ ∀ j x, wordsB[j]? = some x → w'.cell? ⟨g, j, none⟩ = some (.string x) := (rwords_any w).mono fun _ _ h => ⟨_, h⟩
set_option maxRecDepth 100000 in
set_option maxHeartbeats 8000000 in
theorem rwordsC_any (S : ByteArray) (p : Nat) (w : World) (hp : p < S.size) (hcap : capB (atB S p : Int) = true) (hS : S.size ≤ 140737488351232) : Calls Tryz.prog 32 #[.string S, .int .i64 p] w fun r w' => r = .returned (rwrdT S p (p + wl ((bts S).drop p))) ∧ Below w.heap.size w w' := by
  have hSI : (S.size : Int) ≤ 140737488351232 := by omega
  have hpI : (p : Int) < S.size := by omega
  obtain ⟨R, hR⟩ : ∃ R, p + wl ((bts S).drop p) = R := ⟨_, rfl⟩
  have HR := Lib.hid hR
  rw [hR]
  clear hR
  have HAT := Lib.hid (fun (q : Nat) (W : World) => rAt_any S q W)
  have HWB := Lib.hid rwor_any
  have hx0 := atB_at S p hp
  have HC := Lib.hid (fun W => rcap_any (atB S p : Int) W)
  rw [hcap] at HC
  generalize hc0 : atB S p = c0 at *
  clear hc0 hcap
  obtain ⟨hA, hB⟩ := two_blk w (.int .u8 0) (.string ⟨#[]⟩) (.int .u64 0) (.int .i64 0) (.int .i64 0) (.int .i64 0) 34 29
  have HA := Lib.hid hA
  have HB := Lib.hid hB
  have HW := Lib.hid (bj13 (one_alloc (w := w) (o := tokA)) (one_alloc (o := spotA)))
  clear hA hB
  go_enter Tryz.func32, Tryz.ntmps32
  go_wp2_with fail
  refine (HC.out _).mono ?_
  rintro e w1 ⟨rfl, hw⟩
  have HA1 := Lib.hid (show Blk w1 w.heap.size 34 #[.int .u8 0, .string ⟨#[]⟩, .int .u64 0, .int .i64 0] from hw ▸ HA.out)
  have HB1 := Lib.hid (show Blk w1 (w.heap.size + 1) 29 #[.int .i64 0, .int .i64 0] from hw ▸ HB.out)
  have HW1 := Lib.hid (show Below w.heap.size w w1 from hw ▸ HW.out)
  have hsz : w.heap.size + 2 ≤ w1.heap.size := by have := (HB1.out).lt; omega
  clear hw HA HB HW HC
  go_wp2
  go_loopw [7] (fun i wr => ∃ q : Nat, p ≤ q ∧ q ≤ S.size ∧ i = .int .i64 q ∧ q + wl ((bts S).drop q) = R ∧ wr = w1) (fun i _ => S.size - (intOf i).toNat)
  case atStart => exact ⟨p, Nat.le_refl _, by omega, rfl, HR.out, rfl⟩
  case round =>
    clear HR
    obtain ⟨q, hq1, hq2, rfl, hE, rfl⟩ := hrel
    have HE := Lib.hid hE
    clear hE
    obtain ⟨b, hb⟩ : ∃ b, worB (atB S q : Int) = b := ⟨_, rfl⟩
    go_wp2_with fail
    refine (HAT.out q _).mono ?_
    rintro e w2 ⟨rfl, rfl⟩
    go_wp2_with fail
    refine (HWB.out _ _).mono ?_
    rintro e w3 ⟨rfl, rfl⟩
    rw [hb]
    cases b with
    | true =>
      have hqs : q < S.size := by
        refine Nat.lt_of_not_le fun h => ?_
        rw [atB_end S q h] at hb
        revert hb
        decide
      have HQ := Lib.hid (show q + 1 + wl ((bts S).drop (q + 1)) = R by rw [← HE.out, drop_at S q hqs, wl_yes hb]; omega)
      clear hb
      go_wp2
      go_roundw
      case rel => exact ⟨q + 1, by omega, by omega, by go_num, HQ.out, by trivial⟩
      case measure => simp [intOf]; omega
    | false =>
      have HQ := Lib.hid (show q = R by
        rw [← HE.out]
        rcases Nat.lt_or_ge q S.size with h | h
        · rw [drop_at S q h, wl_no hb]; rfl
        · rw [wl_end S q h]; rfl)
      clear hb
      have hI : (q : Int) ≤ S.size := by omega
      have hI2 : (p : Int) ≤ q := by omega
      have hlen : wordsB.length = 43 := rfl
      have hle : (43 : Nat) ≤ 1000 := by decide
      obtain rfl : q = R := HQ.out
      obtain ⟨b2, hb2⟩ : ∃ b2, isIn wordsB (S.extract p q) = b2 := ⟨_, rfl⟩
      have hrin := fun (W : World) (gg : Nat) (h : ∀ j x, wordsB[j]? = some x → W.cell? ⟨gg, j, none⟩ = some (.string x)) => rin_any wordsB gg 43 43 (S.extract p q) W hlen hle h
      rw [hb2] at hrin
      have HRIN := Lib.hid hrin
      clear hrin
      go_wp2_with fail
      go_region_with (first | (go_at_call 58; (with_reducible refine (rwords_ex _).mono ?_); rintro e w4 ⟨g4, rfl, hb4, hc4⟩) | (go_at_call 35; (with_reducible refine (HRIN.out _ _ hc4).mono ?_); rintro e w5 ⟨rfl, rfl⟩))
      all_goals
        have HA4 := Lib.hid (Blk.below (Blk.drew HA1.out) hb4 (Blk.lt (Blk.drew HA1.out)))
        have HB4 := Lib.hid (Blk.below (Blk.drew HB1.out) hb4 (Blk.lt (Blk.drew HB1.out)))
        have HW4 := Lib.hid (below_low (Below.drew HW1.out) (by show w.heap.size ≤ wr.heap.size; omega) hb4)
        have HIN := Lib.hid hb2
        clear hb4 hc4 hb2
        cases b2 with
        | true =>
          obtain ⟨d0, d1, d2, d3⟩ := cell2b HB4.out
          obtain ⟨b0, b1, b2, b3⟩ := cell4b HA4.out
          have e0 := (HA4.out).frozen 0
          have e1 := (HA4.out).frozen 1
          have e2 := (HA4.out).frozen 2
          have e3 := (HA4.out).frozen 3
          go_wp2
          obtain ⟨hA, hB⟩ := two_set HA4.out HB4.out (by omega) (.int .u8 1) (.string (S.extract p q)) (.int .u64 0) (.int .i64 p) (.int .i64 0) (.int .i64 0)
          have HB6 := two_below (g := w.heap.size) (h := w.heap.size + 1) HW4.out (Nat.le_refl _) (Nat.le_succ _) (.int .u8 1) (.string (S.extract p q)) (.int .u64 0) (.int .i64 p) (.int .i64 0) (.int .i64 0)
          clear d0 d1 d2 d3 b0 b1 b2 b3 e0 e1 e2 e3
          obtain ⟨d0, d1, _, _⟩ := cell2b hB
          obtain ⟨c0, c1, c2, c3⟩ := cell4b hA
          exact bodyPost_ret (v := rokT 1 (S.extract p q) p q) (by simp [results, Tryz.results32, go_sem, c0, c1, c2, c3, d0, d1, tokV, spotV, rokT]) rfl ⟨by unfold rwrdT; rw [if_pos HIN.out], HB6⟩
        | false =>
          go_wp2_with fail
          refine (rbad_any 6 p _).mono ?_
          rintro e w6 ⟨rfl, hb6⟩
          have HA6 := Lib.hid (Blk.below HA4.out hb6 (Blk.lt HA4.out))
          have HB6 := Lib.hid (Blk.below HB4.out hb6 (Blk.lt HB4.out))
          have HW6 := Lib.hid (below_low HW4.out HW4.out.size hb6)
          clear hb6
          obtain ⟨d0, d1, d2, d3⟩ := cell2b HB6.out
          obtain ⟨b0, b1, b2, b3⟩ := cell4b HA6.out
          have e0 := (HA6.out).frozen 0
          have e1 := (HA6.out).frozen 1
          have e2 := (HA6.out).frozen 2
          have e3 := (HA6.out).frozen 3
          unfold tokV spotV
          go_wp2
          obtain ⟨hA, hB⟩ := two_set HA6.out HB6.out (by omega) (.int .u8 0) (.string ⟨#[]⟩) (.int .u64 0) (.int .i64 0) (.int .i64 6) (.int .i64 p)
          have HB7 := two_below (g := w.heap.size) (h := w.heap.size + 1) HW6.out (Nat.le_refl _) (Nat.le_succ _) (.int .u8 0) (.string ⟨#[]⟩) (.int .u64 0) (.int .i64 0) (.int .i64 6) (.int .i64 p)
          clear d0 d1 d2 d3 b0 b1 b2 b3 e0 e1 e2 e3
          obtain ⟨d0, d1, _, _⟩ := cell2b hB
          obtain ⟨c0, c1, c2, c3⟩ := cell4b hA
          exact bodyPost_ret (v := rbadT 6 p) (by simp [results, Tryz.results32, go_sem, c0, c1, c2, c3, d0, d1, tokV, spotV, rbadT]) rfl ⟨by unfold rwrdT; rw [if_neg (by rw [HIN.out]; decide)], HB7⟩
end Go.Proofs.YtibnmkjabpoppaaGreatDoor
