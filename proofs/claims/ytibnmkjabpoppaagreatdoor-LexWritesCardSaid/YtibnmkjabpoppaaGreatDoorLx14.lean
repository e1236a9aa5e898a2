/- Layer 13: ref13.words at a letter that is no capital. Conditions: those of each lemma. -/
import Derived.Test.YtibnmkjabpoppaaGreatDoorLx13
namespace Go.Proofs.YtibnmkjabpoppaaGreatDoor
open Go Go.RowKit
set_option linter.unusedVariables false
set_option linter.unusedSimpArgs false
/-- how many bytes of a name are gone over, and whether a capital letter ends it -/
def rsc : List Nat → Nat × Bool
  | [] => (0, false)
  | c :: l => if worB (c : Int) = false then (0, false) else if capB (c : Int) = true then (0, true) else (1 + (rsc l).1, (rsc l).2)
def rnamT (S : ByteArray) (p : Nat) (r : Nat × Bool) : Value := if r.2 = true then rbadT 6 ((p + r.1 : Nat) : Int) else if 32 < r.1 then rbadT 3 p else rokT 2 (S.extract p (p + r.1)) p (p + r.1)
set_option maxRecDepth 100000 in
set_option maxHeartbeats 8000000 in
theorem rwordsS_any (S : ByteArray) (p : Nat) (w : World) (hp : p < S.size) (hcap : capB (atB S p : Int) = false) (hS : S.size ≤ 140737488351232) : Calls Tryz.prog 32 #[.string S, .int .i64 p] w fun r w' => r = .returned (rnamT S p (rsc ((bts S).drop p))) ∧ Below w.heap.size w w' := by
  have hSI : (S.size : Int) ≤ 140737488351232 := by omega
  have hpI : (p : Int) < S.size := by omega
  obtain ⟨R, hR⟩ : ∃ R, p + (rsc ((bts S).drop p)).1 = R := ⟨_, rfl⟩
  obtain ⟨E, hE⟩ : ∃ E, (rsc ((bts S).drop p)).2 = E := ⟨_, rfl⟩
  have HANS := Lib.hid (show rnamT S p (rsc ((bts S).drop p)) = rnamT S p (R - p, E) by rw [← hR, ← hE, Nat.add_sub_cancel_left])
  rw [HANS.out]
  have HR := Lib.hid hR
  have HE0 := Lib.hid hE
  clear hR hE HANS
  have HAT := Lib.hid (fun (q : Nat) (W : World) => rAt_any S q W)
  have HWB := Lib.hid rwor_any
  have hx0 := atB_at S p hp
  have HCA := Lib.hid rcap_any
  have HC := Lib.hid (fun W => rcap_any (atB S p : Int) W)
  rw [hcap] at HC
  generalize hc0 : atB S p = c0 at *
  clear hc0 hcap
  obtain ⟨hA, hB⟩ := two_blk w (.int .u8 0) (.string ⟨#[]⟩) (.int .u64 0) (.int .i64 0) (.int .i64 0) (.int .i64 0) 34 29
  have HA := Lib.hid hA
  have HB := Lib.hid hB
  have HW := Lib.hid (bj13 (one_alloc (w := w) (o := tokA)) (one_alloc (o := spotA)))
  clear hA hB
  go_enter Tryz.func32, Tryz.ntmps32
  go_wp2_with fail
  refine (HC.out _).mono ?_
  rintro e w1 ⟨rfl, hw⟩
  have HA1 := Lib.hid (show Blk w1 w.heap.size 34 #[.int .u8 0, .string ⟨#[]⟩, .int .u64 0, .int .i64 0] from hw ▸ HA.out)
  have HB1 := Lib.hid (show Blk w1 (w.heap.size + 1) 29 #[.int .i64 0, .int .i64 0] from hw ▸ HB.out)
  have HW1 := Lib.hid (show Below w.heap.size w w1 from hw ▸ HW.out)
  have hsz : w.heap.size + 2 ≤ w1.heap.size := by have := (HB1.out).lt; omega
  clear hw HA HB HW HC
  go_wp2
  go_loopw [7] (fun i wr => ∃ q : Nat, p ≤ q ∧ q ≤ S.size ∧ i = .int .i64 q ∧ q + (rsc ((bts S).drop q)).1 = R ∧ (rsc ((bts S).drop q)).2 = E ∧ wr = w1) (fun i _ => S.size - (intOf i).toNat)
  case atStart => exact ⟨p, Nat.le_refl _, by omega, rfl, HR.out, HE0.out, rfl⟩
  case round =>
    clear HR HE0
    obtain ⟨q, hq1, hq2, rfl, hE, hE2, rfl⟩ := hrel
    have HE := Lib.hid hE
    have HE2 := Lib.hid hE2
    clear hE hE2
    obtain ⟨b, hb⟩ : ∃ b, worB (atB S q : Int) = b := ⟨_, rfl⟩
    go_wp2_with fail
    refine (HAT.out q _).mono ?_
    rintro e w2 ⟨rfl, rfl⟩
    go_wp2_with fail
    refine (HWB.out _ _).mono ?_
    rintro e w3 ⟨rfl, rfl⟩
    rw [hb]
    cases b with
    | true =>
      have hqs : q < S.size := by
        refine Nat.lt_of_not_le fun h => ?_
        rw [atB_end S q h] at hb
        revert hb
        decide
      have hqI : (q : Int) < S.size := by omega
      have hdr := drop_at S q hqs
      have hy := atB_at S q hqs
      have hcb := HCA.out (atB S q : Int)
      obtain ⟨b2, hb2⟩ : ∃ b, capB (atB S q : Int) = b := ⟨_, rfl⟩
      rw [hb2] at hcb
      have HCB := Lib.hid hcb
      generalize hcq : atB S q = c at *
      clear hcq hcb
      cases b2 with
      | true =>
        have hs : rsc ((bts S).drop q) = (0, true) := by rw [hdr, rsc, hb, hb2]; rfl
        have HQ := Lib.hid (show q = R by rw [← HE.out, hs]; rfl)
        have HQ2 := Lib.hid (show true = E by rw [← HE2.out, hs])
        clear hb hb2 hdr hs
        go_wp2_with fail
        refine (HCB.out _).mono ?_
        rintro e w4 ⟨rfl, rfl⟩
        have HRES := Lib.hid (show rnamT S p (R - p, E) = rbadT 6 (q : Int) from (by rw [← HQ.out, ← HQ2.out]; unfold rnamT; rw [if_pos rfl]; simp only [Nat.add_sub_cancel' hq1]))
        go_wp2_with fail
        refine (rbad_any 6 (q : Int) _).mono ?_
        rintro e w6 ⟨rfl, hb6⟩
        have HA6 := Lib.hid (Blk.below HA1.out hb6 (Blk.lt HA1.out))
        have HB6 := Lib.hid (Blk.below HB1.out hb6 (Blk.lt HB1.out))
        have HW6 := Lib.hid (below_low HW1.out HW1.out.size hb6)
        clear hb6
        obtain ⟨d0, d1, d2, d3⟩ := cell2b HB6.out
        obtain ⟨b0, b1, b2, b3⟩ := cell4b HA6.out
        have e0 := (HA6.out).frozen 0
        have e1 := (HA6.out).frozen 1
        have e2 := (HA6.out).frozen 2
        have e3 := (HA6.out).frozen 3
        unfold tokV spotV
        go_wp2
        obtain ⟨hA, hB⟩ := two_set HA6.out HB6.out (by omega) (.int .u8 0) (.string ⟨#[]⟩) (.int .u64 0) (.int .i64 0) (.int .i64 6) (.int .i64 (q : Int))
        have HB7 := two_below (g := w.heap.size) (h := w.heap.size + 1) HW6.out (Nat.le_refl _) (Nat.le_succ _) (.int .u8 0) (.string ⟨#[]⟩) (.int .u64 0) (.int .i64 0) (.int .i64 6) (.int .i64 (q : Int))
        clear d0 d1 d2 d3 b0 b1 b2 b3 e0 e1 e2 e3
        obtain ⟨d0, d1, _, _⟩ := cell2b hB
        obtain ⟨c0, c1, c2, c3⟩ := cell4b hA
        exact bodyPost_ret (v := rbadT 6 (q : Int)) (by simp [results, Tryz.results32, go_sem, c0, c1, c2, c3, d0, d1, tokV, spotV, rbadT]) rfl ⟨by rw [HRES.out], HB7⟩
      | false =>
        have hs : rsc ((bts S).drop q) = (1 + (rsc ((bts S).drop (q + 1))).1, (rsc ((bts S).drop (q + 1))).2) := by rw [hdr, rsc, hb, hb2]; rfl
        have HQ := Lib.hid (show q + 1 + (rsc ((bts S).drop (q + 1))).1 = R by rw [← HE.out, hs]; omega)
        have HQ2 := Lib.hid (show (rsc ((bts S).drop (q + 1))).2 = E by rw [← HE2.out, hs])
        clear hb hb2 hdr hs
        go_wp2_with fail
        refine (HCB.out _).mono ?_
        rintro e w4 ⟨rfl, rfl⟩
        go_wp2
        go_roundw
        case rel => exact ⟨q + 1, by omega, by omega, by go_num, HQ.out, HQ2.out, by trivial⟩
        case measure => simp [intOf]; omega
    | false =>
      have hs : rsc ((bts S).drop q) = (0, false) := by
        rcases Nat.lt_or_ge q S.size with h | h
        · rw [drop_at S q h, rsc, hb]; rfl
        · rw [List.drop_of_length_le (by rw [bts_length]; exact h)]; rfl
      have HQ := Lib.hid (show q = R by rw [← HE.out, hs]; rfl)
      have HQ2 := Lib.hid (show false = E by rw [← HE2.out, hs])
      clear hb hs
      have hI : (q : Int) ≤ S.size := by omega
      have hI2 : (p : Int) ≤ q := by omega
      by_cases h32 : 32 < q - p
      · have h32I : (32 : Int) < (q : Int) - p := by omega
        have HRES := Lib.hid (show rnamT S p (R - p, E) = rbadT 3 (p : Int) from (by rw [← HQ.out, ← HQ2.out]; unfold rnamT; rw [if_neg (show ¬ (false = true) by decide), if_pos h32]))
        go_wp2_with fail
        refine (rbad_any 3 (p : Int) _).mono ?_
        rintro e w6 ⟨rfl, hb6⟩
        have HA6 := Lib.hid (Blk.below HA1.out hb6 (Blk.lt HA1.out))
        have HB6 := Lib.hid (Blk.below HB1.out hb6 (Blk.lt HB1.out))
        have HW6 := Lib.hid (below_low HW1.out HW1.out.size hb6)
        clear hb6
        obtain ⟨d0, d1, d2, d3⟩ := cell2b HB6.out
        obtain ⟨b0, b1, b2, b3⟩ := cell4b HA6.out
        have e0 := (HA6.out).frozen 0
        have e1 := (HA6.out).frozen 1
        have e2 := (HA6.out).frozen 2
        have e3 := (HA6.out).frozen 3
        unfold tokV spotV
        go_wp2
        obtain ⟨hA, hB⟩ := two_set HA6.out HB6.out (by omega) (.int .u8 0) (.string ⟨#[]⟩) (.int .u64 0) (.int .i64 0) (.int .i64 3) (.int .i64 (p : Int))
        have HB7 := two_below (g := w.heap.size) (h := w.heap.size + 1) HW6.out (Nat.le_refl _) (Nat.le_succ _) (.int .u8 0) (.string ⟨#[]⟩) (.int .u64 0) (.int .i64 0) (.int .i64 3) (.int .i64 (p : Int))
        clear d0 d1 d2 d3 b0 b1 b2 b3 e0 e1 e2 e3
        obtain ⟨d0, d1, _, _⟩ := cell2b hB
        obtain ⟨c0, c1, c2, c3⟩ := cell4b hA
        exact bodyPost_ret (v := rbadT 3 (p : Int)) (by simp [results, Tryz.results32, go_sem, c0, c1, c2, c3, d0, d1, tokV, spotV, rbadT]) rfl ⟨by rw [HRES.out], HB7⟩
      · have h32I : ¬ (32 : Int) < (q : Int) - p := by omega
        have HRES := Lib.hid (show rnamT S p (R - p, E) = rokT 2 (S.extract p q) p q from (by rw [← HQ.out, ← HQ2.out]; unfold rnamT; rw [if_neg (show ¬ (false = true) by decide), if_neg h32]; simp only [Nat.add_sub_cancel' hq1]))
        obtain ⟨d0, d1, d2, d3⟩ := cell2b HB1.out
        obtain ⟨b0, b1, b2, b3⟩ := cell4b HA1.out
        have e0 := (HA1.out).frozen 0
        have e1 := (HA1.out).frozen 1
        have e2 := (HA1.out).frozen 2
        have e3 := (HA1.out).frozen 3
        go_wp2
        obtain ⟨hA, hB⟩ := two_set HA1.out HB1.out (by omega) (.int .u8 2) (.string (S.extract p q)) (.int .u64 0) (.int .i64 p) (.int .i64 0) (.int .i64 0)
        have HB6 := two_below (g := w.heap.size) (h := w.heap.size + 1) HW1.out (Nat.le_refl _) (Nat.le_succ _) (.int .u8 2) (.string (S.extract p q)) (.int .u64 0) (.int .i64 p) (.int .i64 0) (.int .i64 0)
        clear d0 d1 d2 d3 b0 b1 b2 b3 e0 e1 e2 e3
        obtain ⟨d0, d1, _, _⟩ := cell2b hB
        obtain ⟨c0, c1, c2, c3⟩ := cell4b hA
        exact bodyPost_ret (v := rokT 2 (S.extract p q) p q) (by simp [results, Tryz.results32, go_sem, c0, c1, c2, c3, d0, d1, tokV, spotV, rokT]) rfl ⟨by rw [HRES.out], HB6⟩
/-- the two ways to find a name's end and its first capital letter are one -/
theorem rsc_eq : ∀ l : List Nat, rsc l = (cpl (l.takeWhile (fun c : Nat => worB (c : Int))), decide (cpl (l.takeWhile (fun c : Nat => worB (c : Int))) < wl l))
  | [] => rfl
  | c :: l => by
    cases hw : worB (c : Int) with
    | false =>
      rw [rsc, if_pos hw, List.takeWhile_cons_of_neg (by simp [hw]), wl_no hw]
      rfl
    | true =>
      rw [rsc, if_neg (by rw [hw]; decide), List.takeWhile_cons_of_pos (p := fun c : Nat => worB (c : Int)) hw, wl_yes hw]
      cases hc : capB (c : Int) with
      | true =>
        rw [if_pos rfl, cpl_yes hc]
        simp
        omega
      | false =>
        rw [if_neg (by decide), cpl_no hc, rsc_eq l]
        simp
end Go.Proofs.YtibnmkjabpoppaaGreatDoor
