/- ref25's Send, Twice. Conditions: those of each lemma. -/
import Derived.Test.YtndlcjpkpkfcpaaNt12
namespace Go.Proofs.Ytndlcjpkpkfcpaa
open Go.RowKit Go Go.Maps
set_option linter.unusedVariables false
set_option linter.unusedSimpArgs false
theorem at_none {k : Int} : ∀ (L : List Lt) (j : Nat), findL L k = none → atZ L k j = -1
  | [], j, _ => rfl
  | a :: L, j, h => by
    unfold findL at h
    rw [List.find?_cons] at h
    by_cases e : a.id = k
    · simp [e] at h
    · simp only [e, decide_false] at h
      rw [atZ, if_neg e]
      exact at_none L (j + 1) h
theorem at_some {k : Int} {x : Lt} : ∀ (L : List Lt) (j : Nat), findL L k = some x → ∃ i : Nat, atZ L k j = ((j + i : Nat) : Int) ∧ L[i]? = some x
  | [], j, h => by simp [findL] at h
  | a :: L, j, h => by
    unfold findL at h
    rw [List.find?_cons] at h
    by_cases e : a.id = k
    · simp only [e, decide_true] at h
      exact ⟨0, by rw [atZ, if_pos e]; rfl, h⟩
    · simp only [e, decide_false] at h
      obtain ⟨i, h1, h2⟩ := at_some L (j + 1) h
      exact ⟨i + 1, by rw [atZ, if_neg e, h1]; congr 1; omega, h2⟩
theorem ref_but {gr base gn gm : Nat} {L : List Lt} {N : Int} {W W' : World} (h : RefS gr base L N W) (hb : But gn gm W W') (h1 : gn < base) (h2 : gm < base) : RefS gr base L N W' := by
  obtain ⟨v, k1, k2, k3, k4⟩ := h
  refine ⟨v, but_blk hb k1 (by omega) (by omega), ?_, k3, k4⟩
  obtain ⟨hl, h | ⟨g, cap, cur, hv, hbg, hg, hr⟩⟩ := k2
  · exact ⟨hl, .inl h⟩
  · have hh : Blk W g 31 cur := hg
    exact ⟨hl, .inr ⟨g, cap, cur, hv, hbg, but_blk hb hh (by omega) (by omega), hr⟩⟩
theorem radd_x {l : Lt} {gr base : Nat} {L : List Lt} {N : Int} {w : World} (hs : RefS gr base L N w) (hN0 : 0 ≤ N) (hN : N ≤ 1000000) {i f t : Int} {b : ByteArray} {s : Bool} (hl : l = ⟨i, f, t, b, s⟩) :
    Calls Try.prog 32 #[.pointer (some ⟨gr, 0, none⟩), .agg #[.int .i64 i, .int .i64 f, .int .i64 t, .string b, .bool s]] w fun e w' => e = .returned (.tuple #[.int .i64 (if 64 ≤ L.length then 0 else N + 1), .int .i64 (if 64 ≤ L.length then 8 else 0)]) ∧ RefS gr base (if 64 ≤ L.length then L else L ++ [newL l N]) (if 64 ≤ L.length then N else N + 1) w' ∧ But gr gr w w' := by
  subst hl
  by_cases h : 64 ≤ L.length
  · simp only [if_pos h]
    refine (radd_full ⟨i, f, t, b, s⟩ gr base L N w hs h).mono ?_
    rintro e w' ⟨rfl, hb⟩
    exact ⟨rfl, ref_step hs hb, but_of hb⟩
  · simp only [if_neg h]
    exact radd_ok ⟨i, f, t, b, s⟩ gr base L N w hs (by omega) hN0 hN
set_option maxRecDepth 100000 in
set_option maxHeartbeats 4000000 in
theorem rtwice_none (k : Int) (gr base : Nat) (L : List Lt) (N : Int) (w : World) (hs : RefS gr base L N w) (hl : L.length ≤ 64) (hf : findL L k = none) :
    Calls Try.prog 18 #[.pointer (some ⟨gr, 0, none⟩), .int .i64 k] w fun e w' => e = .returned (.tuple #[.int .i64 0, .int .i64 4]) ∧ w = w' := by
  have h := at_any gr base L N k w hs hl
  rw [at_none L 0 hf] at h
  have HA := Lib.hid h
  clear hs hf hl h
  go_enter Try.func18, Try.ntmps18
  go_wp2_with fail
  refine HA.out.mono ?_
  rintro e w2 ⟨rfl, rfl⟩
  go_wp2
  exact bodyPost_ret (v := .tuple #[.int .i64 0, .int .i64 4]) (by simp [results, Try.results18, go_sem]) rfl ⟨rfl, rfl⟩
/-- a letter at its place -/
theorem ref_at {gr base : Nat} {L : List Lt} {N : Int} {w : World} (hs : RefS gr base L N w) {i : Nat} {x : Lt} (hx : L[i]? = some x) : ∃ g o c, w.cell? ⟨gr, 0, none⟩ = some (.slice (some ⟨g, o, none⟩) L.length c) ∧ w.cell? ⟨g, o + i * 5, none⟩ = some (.int .i64 x.id) ∧ w.cell? ⟨g, o + i * 5 + 1, none⟩ = some (.int .i64 x.fr) ∧ w.cell? ⟨g, o + i * 5 + 2, none⟩ = some (.int .i64 x.to) ∧ w.cell? ⟨g, o + i * 5 + 3, none⟩ = some (.string x.bytes) ∧ w.cell? ⟨g, o + i * 5 + 4, none⟩ = some (.bool x.sp) := by
  obtain ⟨v, hb, ho, _⟩ := hs
  obtain ⟨A, c, rfl, hlt⟩ := lts_of_own ho
  rcases hlt with rfl | ⟨g, o, rfl, hgl, hc⟩
  · simp at hx
  · exact ⟨g, o, c, hb.cell 0, hc i x hx⟩
set_option maxRecDepth 100000 in
set_option maxHeartbeats 4000000 in
theorem rtwice_some (k : Int) (gr base : Nat) (L : List Lt) (N : Int) (w : World) (hs : RefS gr base L N w) (hl : L.length ≤ 64) (hN0 : 0 ≤ N) (hN : N ≤ 1000000) (x : Lt) (hf : findL L k = some x) (z1 z2 : Int) (L' : List Lt) (N' : Int) (h1 : (if 64 ≤ L.length then 0 else N + 1) = z1) (h2 : (if 64 ≤ L.length then 8 else 0) = z2) (h3 : (if 64 ≤ L.length then L else L ++ [newL x N]) = L') (h4 : (if 64 ≤ L.length then N else N + 1) = N') :
    Calls Try.prog 18 #[.pointer (some ⟨gr, 0, none⟩), .int .i64 k] w fun e w' => e = .returned (.tuple #[.int .i64 z1, .int .i64 z2]) ∧ RefS gr base L' N' w' ∧ But gr gr w w' := by
  obtain ⟨j, hj, hx⟩ := at_some L 0 hf
  have h := at_any gr base L N k w hs hl
  rw [hj, Nat.zero_add] at h
  have HF := Lib.hid h
  obtain ⟨i, f, t, b, s⟩ := x
  obtain ⟨g, o, c, c0, b0, b1, b2, b3, b4⟩ := ref_at hs hx
  have hjl : j < L.length := (List.getElem?_eq_some_iff.1 hx).1
  have hjI : (j : Int) < L.length := by omega
  have HA := Lib.hid (by
    have h := radd_x (l := ⟨i, f, t, b, s⟩) hs hN0 hN rfl
    rw [h1, h2, h3, h4] at h
    exact h : Calls Try.prog 32 #[.pointer (some ⟨gr, 0, none⟩), .agg #[.int .i64 i, .int .i64 f, .int .i64 t, .string b, .bool s]] w fun e w' => e = .returned (.tuple #[.int .i64 z1, .int .i64 z2]) ∧ RefS gr base L' N' w' ∧ But gr gr w w')
  clear hs hf h1 h2 h3 h4 hN hN0 hj hx h hl
  go_enter Try.func18, Try.ntmps18
  go_wp2_with fail
  refine HF.out.mono ?_
  rintro e w2 ⟨rfl, rfl⟩
  go_wp2_with fail
  refine HA.out.mono ?_
  rintro e w3 ⟨rfl, hn3, hb3⟩
  have HN := Lib.hid hn3
  have HB3 := Lib.hid hb3
  clear hn3 hb3
  go_wp2
  exact bodyPost_ret (v := .tuple #[.int .i64 z1, .int .i64 z2]) (by simp [results, Try.results18, go_sem]) rfl ⟨rfl, HN.out, HB3.out⟩
set_option maxRecDepth 100000 in
set_option maxHeartbeats 4000000 in
theorem rsend_bad (f t : Int) (b : ByteArray) (gr : Nat) (w : World) (E : Int) (hE : sendE f t b = E) (h0 : E ≠ 0) :
    Calls Try.prog 16 #[.pointer (some ⟨gr, 0, none⟩), .int .i64 f, .int .i64 t, .string b] w fun e w' => e = .returned (.tuple #[.int .i64 0, .int .i64 E]) ∧ w = w' := by
  unfold sendE at hE
  have key : (f < 0 ∧ E = 2) ∨ (decide (f < 0) = false ∧ 4 ≤ f ∧ E = 2) ∨ (decide (f < 0) = false ∧ decide (4 ≤ f) = false ∧ t < 0 ∧ E = 2) ∨ (decide (f < 0) = false ∧ decide (4 ≤ f) = false ∧ decide (t < 0) = false ∧ 4 ≤ t ∧ E = 2) ∨ (decide (f < 0) = false ∧ decide (4 ≤ f) = false ∧ decide (t < 0) = false ∧ decide (4 ≤ t) = false ∧ 262144 < (b.size : Int) ∧ E = 3) := by
    by_cases a1 : f < 0
    · exact .inl ⟨a1, by rw [if_neg (by simp; omega)] at hE; exact hE.symm⟩
    by_cases a2 : 4 ≤ f
    · exact .inr (.inl ⟨decide_eq_false a1, a2, by rw [if_neg (by simp; omega)] at hE; exact hE.symm⟩)
    by_cases a3 : t < 0
    · exact .inr (.inr (.inl ⟨decide_eq_false a1, decide_eq_false a2, a3, by rw [if_neg (by simp; omega)] at hE; exact hE.symm⟩))
    by_cases a4 : 4 ≤ t
    · exact .inr (.inr (.inr (.inl ⟨decide_eq_false a1, decide_eq_false a2, decide_eq_false a3, a4, by rw [if_neg (by simp; omega)] at hE; exact hE.symm⟩)))
    rw [if_pos (by simp; omega)] at hE
    by_cases a5 : 262144 < b.size
    · rw [if_pos a5] at hE
      exact .inr (.inr (.inr (.inr ⟨decide_eq_false a1, decide_eq_false a2, decide_eq_false a3, decide_eq_false a4, by omega, hE.symm⟩)))
    · rw [if_neg a5] at hE
      exact absurd hE.symm h0
  clear hE h0
  rcases key with ⟨k1, rfl⟩ | ⟨k1, k2, rfl⟩ | ⟨k1, k2, k3, rfl⟩ | ⟨k1, k2, k3, k4, rfl⟩ | ⟨k1, k2, k3, k4, k5, rfl⟩
  all_goals
    go_enter Try.func16, Try.ntmps16
    go_wp2
    exact bodyPost_ret (v := .tuple #[.int .i64 0, .int .i64 _]) (by simp [results, Try.results16, go_sem]) rfl ⟨rfl, rfl⟩
set_option maxRecDepth 100000 in
set_option maxHeartbeats 4000000 in
theorem rsend_ok (f t : Int) (b : ByteArray) (gr base : Nat) (L : List Lt) (N : Int) (w : World) (hs : RefS gr base L N w) (hN0 : 0 ≤ N) (hN : N ≤ 1000000) (hE : sendE f t b = 0) (z1 z2 : Int) (L' : List Lt) (N' : Int) (h1 : (if 64 ≤ L.length then 0 else N + 1) = z1) (h2 : (if 64 ≤ L.length then 8 else 0) = z2) (h3 : (if 64 ≤ L.length then L else L ++ [⟨N + 1, f, t, b, false⟩]) = L') (h4 : (if 64 ≤ L.length then N else N + 1) = N') :
    Calls Try.prog 16 #[.pointer (some ⟨gr, 0, none⟩), .int .i64 f, .int .i64 t, .string b] w fun e w' => e = .returned (.tuple #[.int .i64 z1, .int .i64 z2]) ∧ RefS gr base L' N' w' ∧ But gr gr w w' := by
  have HA := Lib.hid (by
    have h := radd_x (l := ⟨0, f, t, b, false⟩) hs hN0 hN rfl
    rw [h1, h2, h4] at h
    rw [show (if 64 ≤ L.length then L else L ++ [newL ⟨0, f, t, b, false⟩ N]) = L' from h3] at h
    exact h : Calls Try.prog 32 #[.pointer (some ⟨gr, 0, none⟩), .agg #[.int .i64 0, .int .i64 f, .int .i64 t, .string b, .bool false]] w fun e w' => e = .returned (.tuple #[.int .i64 z1, .int .i64 z2]) ∧ RefS gr base L' N' w' ∧ But gr gr w w')
  obtain ⟨k1, k2, k3, k4, k5⟩ : decide (f < 0) = false ∧ decide (4 ≤ f) = false ∧ decide (t < 0) = false ∧ decide (4 ≤ t) = false ∧ (b.size : Int) ≤ 262144 := by
    unfold sendE at hE
    by_cases h : ((decide (0 ≤ f) && decide (f < 4)) && (decide (0 ≤ t) && decide (t < 4))) = true
    · rw [if_pos h] at hE
      simp at h
      by_cases a5 : 262144 < b.size
      · rw [if_pos a5] at hE; exact absurd hE (by simp)
      · exact ⟨decide_eq_false (by omega), decide_eq_false (by omega), decide_eq_false (by omega), decide_eq_false (by omega), by omega⟩
    · rw [if_neg h] at hE; exact absurd hE (by simp)
  clear hs hN hN0 hE h1 h2 h3 h4
  go_enter Try.func16, Try.ntmps16
  go_wp2_with fail
  refine HA.out.mono ?_
  rintro e w3 ⟨rfl, hn3, hb3⟩
  have HN := Lib.hid hn3
  have HB3 := Lib.hid hb3
  clear hn3 hb3
  go_wp2
  exact bodyPost_ret (v := .tuple #[.int .i64 z1, .int .i64 z2]) (by simp [results, Try.results16, go_sem]) rfl ⟨rfl, HN.out, HB3.out⟩
end Go.Proofs.Ytndlcjpkpkfcpaa
