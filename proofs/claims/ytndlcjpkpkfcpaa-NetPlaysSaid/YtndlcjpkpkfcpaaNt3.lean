/- net's add. Conditions: those of each lemma. -/
import Derived.Test.YtndlcjpkpkfcpaaNt2
import Derived.Outline
import Derived.Deep.RegionWith
namespace Go.Proofs.Ytndlcjpkpkfcpaa
open Go.RowKit Go Go.Maps
set_option linter.unusedVariables false
set_option linter.unusedSimpArgs false
def I64' (x : Int) : Prop := -9223372036854775808 ≤ x ∧ x ≤ 9223372036854775807
abbrev newL (l : Lt) (N : Int) : Lt := ⟨N + 1, l.fr, l.to, l.bytes, l.sp⟩
theorem key_int (a : Int) (h0 : -9223372036854775808 ≤ a) (h1 : a ≤ 9223372036854775807) : keyOf Try.prog 3 (.int .i64 a) = some (.int .i64 a) := keyOf_int_mk Try.underlying3 (by
  have e3 : IntKind.i64.min = -9223372036854775808 := rfl
  have e4 : IntKind.i64.max = 9223372036854775807 := rfl
  simp [Lit.wf, e3, e4]; omega)
/-- the net beside a letter's box -/
def Ad (w : World) (gn gm : Nat) (L : List Lt) (N : Int) (g : Nat) (x : Lt) (W : World) : Prop := Blk W gn 49 #[.map (some gm), .int .i64 N] ∧ W.ownsMap Try.prog 3 heldR gm L.length (mapOf L) ∧ Blk W g 31 (ltC x) ∧ But gn gm w W ∧ gn ≠ gm ∧ gn ≠ g ∧ gm ≠ g ∧ w.heap.size ≤ g
theorem ad_new {w : World} {gn gm : Nat} {L : List Lt} {N : Int} (h : NetS gn gm L N w) (x : Lt) : Ad w gn gm L N w.heap.size x (w.alloc (.cells (ltC x) 31)) := by
  have h1 := net_step h (one_alloc (o := .cells (ltC x) 31))
  have hl := h.1.lt
  have hm := h.2.1.lt
  exact ⟨h1.1, h1.2.1, Blk.new _ _ _, but_of one_alloc, h.2.2.1, by omega, by omega, Nat.le_refl _⟩
theorem ad_drew {w W : World} {gn gm : Nat} {L : List Lt} {N : Int} {g : Nat} {x : Lt} (h : Ad w gn gm L N g x W) : Ad w gn gm L N g x W.drew := ⟨h.1.drew, h.2.1.drew, h.2.2.1.drew, but_trans h.2.2.2.1 (but_of ((Below.refl _ _).drew)), h.2.2.2.2⟩
theorem ad_setN {w W : World} {gn gm : Nat} {L : List Lt} {N : Int} {g : Nat} {x : Lt} (h : Ad w gn gm L N g x W) (N' : Int) : Ad w gn gm L N' g x (W.setCell ⟨gn, 1, none⟩ (.int .i64 N')) := by
  obtain ⟨h1, h2, h3, h4, h5, h6, h7, h8⟩ := h
  exact ⟨h1.set_ 1 _, h2.setCell (a := ⟨gn, 1, none⟩) (Ne.symm h5) _, h3.far (Ne.symm h6) _, but_trans h4 (but_set (p := ⟨gn, 1, none⟩) (.inl rfl) _), h5, h6, h7, h8⟩
theorem ad_setI {w W : World} {gn gm : Nat} {L : List Lt} {N : Int} {g : Nat} {x : Lt} (h : Ad w gn gm L N g x W) (i : Int) : Ad w gn gm L N g ⟨i, x.fr, x.to, x.bytes, x.sp⟩ (W.setCell ⟨g, 0, none⟩ (.int .i64 i)) := by
  obtain ⟨h1, h2, h3, h4, h5, h6, h7, h8⟩ := h
  exact ⟨h1.far h6 _, h2.setCell (a := ⟨g, 0, none⟩) h7 _, h3.set_ 0 _, but_far h4 h8 _, h5, h6, h7, h8⟩
theorem ad_cells {w W : World} {gn gm : Nat} {L : List Lt} {N : Int} {g : Nat} {x : Lt} (h : Ad w gn gm L N g x W) : W.cell? ⟨gn, 0, none⟩ = some (.map (some gm)) ∧ W.cell? ⟨gn, 1, none⟩ = some (.int .i64 N) ∧ W.frozen? ⟨gn, 1, none⟩ = false ∧ W.cell? ⟨g, 0, none⟩ = some (.int .i64 x.id) ∧ W.cell? ⟨g, 1, none⟩ = some (.int .i64 x.fr) ∧ W.cell? ⟨g, 2, none⟩ = some (.int .i64 x.to) ∧ W.cell? ⟨g, 3, none⟩ = some (.string x.bytes) ∧ W.cell? ⟨g, 4, none⟩ = some (.bool x.sp) ∧ W.frozen? ⟨g, 0, none⟩ = false :=
  ⟨h.1.cell 0, h.1.cell 1, h.1.frozen 1, h.2.2.1.cell 0, h.2.2.1.cell 1, h.2.2.1.cell 2, h.2.2.1.cell 3, h.2.2.1.cell 4, h.2.2.1.frozen 0⟩
set_option maxRecDepth 100000 in
set_option maxHeartbeats 4000000 in
theorem add_full (l : Lt) (gn gm : Nat) (L : List Lt) (N : Int) (w : World) (hs : NetS gn gm L N w) (hl : 64 ≤ L.length) :
    Calls Try.prog 22 #[.pointer (some ⟨gn, 0, none⟩), ltV l] w fun e w' => e = .returned (.tuple #[.int .i64 0, .int .i64 8]) ∧ Below w.heap.size w w' := by
  obtain ⟨i, f, t, b, s⟩ := l
  have HS := Lib.hid (ad_new hs ⟨i, f, t, b, s⟩)
  obtain ⟨c0, c1, c2, b0, b1, b2, b3, b4, b5⟩ := ad_cells HS.out
  have hsz : Maps.size (mapOf L) = L.length := map_size L
  have hlI : 64 ≤ (L.length : Int) := by omega
  clear hs hl
  go_enter Try.func22, Try.ntmps22
  go_wp2_with (at_len; refine wpList_len_own _ rfl (.tmp 9) 46 rfl 3 31 Try.underlying46 heldR gm L.length (mapOf L) rfl HS.out.2.1 ?_)
  exact bodyPost_ret (v := .tuple #[.int .i64 0, .int .i64 8]) (by simp [results, Try.results22, go_sem]) rfl ⟨rfl, one_alloc⟩
set_option maxRecDepth 100000 in
set_option maxHeartbeats 4000000 in
theorem add_ok (l : Lt) (gn gm : Nat) (L : List Lt) (N : Int) (w : World) (hs : NetS gn gm L N w) (hl : L.length < 64) (hN : N ≤ 1000000) :
    Calls Try.prog 22 #[.pointer (some ⟨gn, 0, none⟩), ltV l] w fun e w' => e = .returned (.tuple #[.int .i64 (N + 1), .int .i64 0]) ∧ NetS gn gm (L ++ [newL l N]) (N + 1) w' ∧ But gn gm w w' := by
  obtain ⟨i, f, t, b, s⟩ := l
  obtain ⟨_, _, _, hu, hi, _, hN0⟩ := id hs
  have h1 := ad_new hs ⟨i, f, t, b, s⟩
  have h2 := ad_setN h1 (N + 1)
  have h3 := ad_setI h2 (N + 1)
  have h4 := ad_drew h3
  obtain ⟨w4, hrun, hown, hgr⟩ := h4.2.1.update keyed Try.underlying46 (by unfold maxLen; omega) (key := .int .i64 (N + 1)) (val := ltV (newL ⟨i, f, t, b, s⟩ N)) (key_int (N + 1) (by omega) (by omega)) (d := .held (ltV (newL ⟨i, f, t, b, s⟩ N))) (ps := []) rfl
  have hput := map_put_new L (newL ⟨i, f, t, b, s⟩ N) (fun x hx => by have := hi x hx; show x.id < N + 1; omega)
  have HOW := Lib.hid (hput ▸ hown)
  have HGR := Lib.hid hgr
  have HU : Hid (NOk (L ++ [newL ⟨i, f, t, b, s⟩ N]) (N + 1)) := Lib.hid ⟨up_snoc hu (fun x hx => by have := hi x hx; show x.id < N + 1; omega), fun x hx => by
    rcases List.mem_append.1 hx with hx | hx
    · have := hi x hx; omega
    · rw [List.mem_singleton.1 hx]; exact ⟨by show 1 ≤ N + 1; omega, Int.le_refl _⟩, by simp; omega, by omega⟩
  have HS := Lib.hid h1
  have HS2 := Lib.hid h2
  have HS3 := Lib.hid h3
  have HS4 := Lib.hid h4
  have HE : Hid (Blk w4 gn 49 #[.map (some gm), .int .i64 (N + 1)] ∧ Blk w4 w.heap.size 31 (ltC (newL ⟨i, f, t, b, s⟩ N)) ∧ But gn gm w w4 ∧ gn ≠ gm) := Lib.hid ⟨h4.1.grown hgr (fun e => h4.2.2.2.2.1 (Option.some.inj e)), h4.2.2.1.grown hgr (fun e => h4.2.2.2.2.2.2.1 (Option.some.inj e).symm), but_trans h4.2.2.2.1 (but_grown hgr (fun z hz => .inr (Option.some.inj hz).symm)), h4.2.2.2.2.1⟩
  have x0 := HE.out.2.1.cell 0
  have hsz : Maps.size (mapOf L) = L.length := map_size L
  have hlI : (L.length : Int) < 64 := by omega
  have hw : IntKind.i64.wrap (N + 1) = N + 1 := by rw [IntKind.wrap_i64]; omega
  obtain ⟨c0, c1, c2, b0, b1, b2, b3, b4, b5⟩ := ad_cells HS.out
  obtain ⟨d0, d1, d2, e0, e1, e2, e3, e4, e5⟩ := ad_cells HS2.out
  obtain ⟨k0, k1, k2, m0, m1, m2, m3, m4, m5⟩ := ad_cells HS4.out
  obtain ⟨p0, p1, p2, q0, q1, q2, q3, q4, q5⟩ := ad_cells HS3.out
  clear hs hl hu hi h1 h2 h3 h4 hown hgr hput hN hN0
  go_enter Try.func22, Try.ntmps22
  go_wp2_with (at_len; refine wpList_len_own _ rfl (.tmp 9) 46 rfl 3 31 Try.underlying46 heldR gm L.length (mapOf L) rfl HS.out.2.1 ?_)
  go_region
  all_goals
    go_wp2
    exact bodyPost_ret (v := .tuple #[.int .i64 (N + 1), .int .i64 0]) (by simp [results, Try.results22, go_sem]) rfl ⟨rfl, ⟨HE.out.1, owns_tight HOW.out, HE.out.2.2.2, HU.out⟩, HE.out.2.2.1⟩
end Go.Proofs.Ytndlcjpkpkfcpaa
