/- Layer 13: what a step of the reader leaves as it was; run. Conditions: those of each lemma. -/
import Derived.Test.YtibnmkjabpoppaaGreatDoorLx3
namespace Go.Proofs.YtibnmkjabpoppaaGreatDoor
open Go Go.RowKit
set_option linter.unusedVariables false
set_option linter.unusedSimpArgs false
/-- all else stands but that block -/
def Bx (g : Nat) (W W' : World) : Prop := W'.os = W.os ∧ W'.tape = W.tape ∧ W'.output = W.output ∧ W.heap.size ≤ W'.heap.size ∧ ∀ k, k < W.heap.size → k ≠ g → W'.heap[k]? = W.heap[k]?
theorem bx_refl (g : Nat) (W : World) : Bx g W W := ⟨rfl, rfl, rfl, Nat.le_refl _, fun _ _ _ => rfl⟩
theorem bx_trans {g : Nat} {a b c : World} (h : Bx g a b) (k : Bx g b c) : Bx g a c :=
  ⟨k.1.trans h.1, k.2.1.trans h.2.1, k.2.2.1.trans h.2.2.1, Nat.le_trans h.2.2.2.1 k.2.2.2.1, fun i hi hg => (k.2.2.2.2 i (Nat.lt_of_lt_of_le hi h.2.2.2.1) hg).trans (h.2.2.2.2 i hi hg)⟩
theorem bx_of {g B : Nat} {a b : World} (h : Below B a b) (hB : a.heap.size = B) : Bx g a b := ⟨h.os, h.tape, h.output, h.size, fun i hi _ => h.block i (by omega)⟩
theorem bx_later {g : Nat} {a b c : World} (h : Bx g a b) (k : Below b.heap.size b c) : Bx g a c := bx_trans h (bx_of k rfl)
theorem bx_drew {g : Nat} {a b : World} (h : Bx g a b) : Bx g a b.drew := bx_later h (Below.refl _ _).drew
theorem bx_below {g B : Nat} {w a b : World} (h : Below B w a) (k : Bx g a b) (hg : B ≤ g) (hB : B ≤ a.heap.size) : Below B w b :=
  h.trans ⟨k.1, k.2.1, k.2.2.1, k.2.2.2.1, fun i hi => k.2.2.2.2 i (by omega) (by omega)⟩
theorem bx_blk {g g' : Nat} {a b : World} {t : TypeId} {cs : Array Value} (h : Blk a g' t cs) (k : Bx g a b) (hg : g' ≠ g) : Blk b g' t cs := (k.2.2.2.2 g' h.lt hg).trans h
theorem bx_set (g : Nat) (W : World) (i : Nat) (u : Value) : Bx g W (W.setCell ⟨g, i, none⟩ u) :=
  ⟨rfl, rfl, rfl, by simp [World.setCell], fun k _ hk => Below.heap_setCell _ _ _ _ (fun e => hk (by simp [e]))⟩
theorem rd_step {W W' : World} {g : Nat} {S : ByteArray} {p : Nat} (h : Rd W g S p) (hb : Below W.heap.size W W') : Rd W' g S p := Blk.below h hb (Blk.lt h)
theorem rd_drew {W : World} {g : Nat} {S : ByteArray} {p : Nat} (h : Rd W g S p) : Rd W.drew g S p := Blk.drew h
/-- where the reader stands -/
def rdAt (g : Nat) (W : World) : Nat := (intOf ((W.cell? ⟨g, 1, none⟩).getD undef)).toNat
theorem rd_at {W : World} {g : Nat} {S : ByteArray} {p : Nat} (h : Rd W g S p) : rdAt g W = p := by
  unfold rdAt
  rw [(rd_cells h).2.1]
  simp [intOf]
theorem rd_set {W : World} {g : Nat} {S : ByteArray} {p : Nat} (h : Rd W g S p) (q : Nat) : Rd (W.setCell ⟨g, 1, none⟩ (.int .i64 q)) g S q := Blk.set_ h 1 (.int .i64 q)
/-- how many bytes of a word a text begins with -/
def wl (l : List Nat) : Nat := (l.takeWhile (fun c : Nat => worB (c : Int))).length
theorem wl_yes {c : Nat} {l : List Nat} (h : worB (c : Int) = true) : wl (c :: l) = 1 + wl l := by
  unfold wl
  rw [List.takeWhile_cons_of_pos (p := fun c : Nat => worB (c : Int)) h, List.length_cons]
  omega
theorem wl_no {c : Nat} {l : List Nat} (h : worB (c : Int) = false) : wl (c :: l) = 0 := by
  unfold wl
  rw [List.takeWhile_cons_of_neg (by rw [h]; decide)]
  rfl
theorem wl_end (S : ByteArray) (q : Nat) (h : S.size ≤ q) : wl ((bts S).drop q) = 0 := by
  rw [List.drop_of_length_le (by rw [bts_length]; exact h)]
  rfl
set_option maxRecDepth 100000 in
set_option maxHeartbeats 8000000 in
theorem run_any (g : Nat) (S : ByteArray) (p : Nat) (w : World) (h : Rd w g S p) (hp : p ≤ S.size) (hS : S.size ≤ 140737488351232) : Calls Tryz.prog 60 #[.pointer (some ⟨g, 0, none⟩)] w fun e w' => e = .returned (.string (S.extract p (p + wl ((bts S).drop p)))) ∧ Rd w' g S (p + wl ((bts S).drop p)) ∧ Bx g w w' := by
  have hSI : (S.size : Int) ≤ 140737488351232 := by omega
  obtain ⟨R, hR⟩ : ∃ R, p + wl ((bts S).drop p) = R := ⟨_, rfl⟩
  have HR := Lib.hid hR
  rw [hR]
  clear hR
  have HN := Lib.hid (fun q W hr => next_any g S q W hr)
  have HW := Lib.hid lwor_any
  have HD := Lib.hid h
  obtain ⟨c0, c1, f0, f1⟩ := rd_cells h
  clear h
  go_enter Tryz.func60, Tryz.ntmps60
  go_wp2
  go_loopw [] (fun wr => ∃ q : Nat, p ≤ q ∧ q ≤ S.size ∧ q + wl ((bts S).drop q) = R ∧ Rd wr g S q ∧ Bx g w wr) (fun wr => S.size - rdAt g wr)
  case atStart => exact ⟨p, Nat.le_refl _, hp, HR.out, HD.out, bx_refl _ _⟩
  case round =>
    clear HD HR c0 c1 f0 f1 hp
    obtain ⟨q, hq1, hq2, hE, hr, hb⟩ := hrel
    have HE := Lib.hid hE
    have HRD := Lib.hid hr
    have HB := Lib.hid hb
    clear hE hr hb
    obtain ⟨b, hb⟩ : ∃ b, worB (atB S q : Int) = b := ⟨_, rfl⟩
    go_wp2_with fail
    refine (HN.out q _ HRD.out).mono ?_
    rintro e w1 ⟨rfl, hb1⟩
    have HRD1 := Lib.hid (rd_step HRD.out hb1)
    have HB1 := Lib.hid (bx_later HB.out hb1)
    clear hb1
    go_wp2_with fail
    refine (HW.out _ _).mono ?_
    rintro e w2 ⟨rfl, rfl⟩
    rw [hb]
    obtain ⟨c0, c1, f0, f1⟩ := rd_cells HRD1.out
    cases b with
    | true =>
      have hqs : q < S.size := by
        refine Nat.lt_of_not_le fun h => ?_
        rw [atB_end S q h] at hb
        revert hb
        decide
      have HQ := Lib.hid (show q + 1 + wl ((bts S).drop (q + 1)) = R by rw [← HE.out, drop_at S q hqs, wl_yes hb]; omega)
      clear hb
      have hI : (q : Int) < S.size := by omega
      go_wp2
      go_roundw
      case rel => exact ⟨q + 1, by omega, by omega, HQ.out, rd_set HRD1.out (q + 1), bx_trans HB1.out (bx_set _ _ _ _)⟩
      case measure =>
        rw [rd_at HRD.out]
        have h2 : rdAt g (w1.setCell ⟨g, 1, none⟩ (.int .i64 ((q : Int) + 1))) = q + 1 := rd_at (rd_set HRD1.out (q + 1))
        rw [h2]
        omega
    | false =>
      have HQ := Lib.hid (show q = R by
        rw [← HE.out]
        rcases Nat.lt_or_ge q S.size with h | h
        · rw [drop_at S q h, wl_no hb]; rfl
        · rw [wl_end S q h]; rfl)
      clear hb
      have hI : (q : Int) ≤ S.size := by omega
      have hI2 : (p : Int) ≤ q := by omega
      go_wp2_with fail
      go_region
      all_goals
        go_wp2
        go_ret
        exact ⟨by rw [← HQ.out]; rfl, by rw [← HQ.out]; exact rd_drew HRD1.out, bx_drew HB1.out⟩
end Go.Proofs.YtibnmkjabpoppaaGreatDoor
