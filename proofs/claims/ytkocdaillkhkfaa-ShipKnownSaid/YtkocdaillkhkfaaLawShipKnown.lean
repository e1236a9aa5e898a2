/- The walk of ShipKnown. No condition. -/
import Derived.Test.YtkocdaillkhkfaaShipGreat
namespace Go.Proofs.Ytkocdaillkhkfaa
open Go.RowKit
set_option linter.unusedVariables false
theorem pg_cut (c k : Nat) (hc : c < 256) (hk : k ≤ 512) : bts ((pgD c).extract 0 k) = List.replicate k c := by
  rw [bts_cut0]
  unfold pgD
  rw [bts_bstr _ (fun x hx => by rw [(List.mem_replicate.1 hx).2]; exact hc), List.take_replicate, Nat.min_eq_left hk]
theorem pg_cut_size (c k : Nat) (hc : c < 256) (hk : k ≤ 512) : ((pgD c).extract 0 k).size = k := by rw [← bts_length, pg_cut c k hc hk, List.length_replicate]
theorem zero_sum : sumOk ((pgD 0).extract 0 56) := by
  unfold sumOk
  rw [pg_cut 0 56 (by omega) (by omega)]
  decide +kernel
theorem one_sum : ¬ sumOk ((pgD 1).extract 0 56) := by
  unfold sumOk
  rw [pg_cut 1 56 (by omega) (by omega)]
  decide +kernel
theorem zero_bad : tkB ((pgD 0).extract 0 56) = false := by
  have v : vAt ((pgD 0).extract 0 56) 8 = 0 := by
    unfold vAt
    rw [pg_cut 0 56 (by omega) (by omega)]
    decide +kernel
  unfold tkB
  rw [v]
  have e : ∀ a b c d, shipOk ((0 : Nat) : Int) a b c d = false := fun a b c d => by
    unfold shipOk
    rw [if_neg (by omega), if_neg (by omega)]
  rw [e, Bool.and_false]
def K24 : Array Value := #[.int .u8 1, .int .u64 0, .int .u64 1, .bool false, .int .i64 0, .slice none 0 0, .int .u8 2, .int .u64 0, .int .u64 0, .bool false, .int .i64 1, .slice none 0 0, .int .u8 3, .int .u64 0, .int .u64 0, .bool false, .int .i64 0, .slice none 0 0, .int .u8 0, .int .u64 0, .int .u64 0, .bool false, .int .i64 0, .slice none 0 0]
def Kn (w : World) (g : Nat) (W : World) : Prop := Blk W g 28 K24 ∧ Below w.heap.size w W
theorem kn_step {w W W' : World} {g : Nat} (hb : Below W.heap.size W W') (h : Kn w g W) : Kn w g W' := ⟨blk_step h.1 hb, bj h.2 hb⟩
theorem kn_at {w W : World} {g : Nat} (h : Kn w g W) (i : Nat) : W.cell? ⟨g, i, none⟩ = K24[i]? := h.1.cell i
structure KnownIn (S P Q : ByteArray) : Prop where
  h1 : ∀ w, Calls Try.prog 10 #[.agg #[.int .u8 2, .int .u64 0, .int .u64 3, .bool false, .int .i64 0, .slice none 0 0]] w fun e w' => e = .returned (.tuple #[.string S, .int .i64 0]) ∧ Below w.heap.size w w'
  b1 : ∀ w, Calls Try.prog 10 #[.agg #[.int .u8 1, .int .u64 0, .int .u64 1, .bool false, .int .i64 0, .slice none 0 0]] w fun e w' => e = .returned (.tuple #[.string ⟨#[]⟩, .int .i64 2]) ∧ Below w.heap.size w w'
  b2 : ∀ w, Calls Try.prog 10 #[.agg #[.int .u8 2, .int .u64 0, .int .u64 0, .bool false, .int .i64 1, .slice none 0 0]] w fun e w' => e = .returned (.tuple #[.string ⟨#[]⟩, .int .i64 2]) ∧ Below w.heap.size w w'
  b3 : ∀ w, Calls Try.prog 10 #[.agg #[.int .u8 3, .int .u64 0, .int .u64 0, .bool false, .int .i64 0, .slice none 0 0]] w fun e w' => e = .returned (.tuple #[.string ⟨#[]⟩, .int .i64 2]) ∧ Below w.heap.size w w'
  b4 : ∀ w, Calls Try.prog 10 #[.agg #[.int .u8 0, .int .u64 0, .int .u64 0, .bool false, .int .i64 0, .slice none 0 0]] w fun e w' => e = .returned (.tuple #[.string ⟨#[]⟩, .int .i64 2]) ∧ Below w.heap.size w w'
  p0 : ∀ w, Calls Try.prog 13 #[.int .u8 0] w fun e w' => e = .returned (.string P) ∧ Below w.heap.size w w'
  p1 : ∀ w, Calls Try.prog 13 #[.int .u8 1] w fun e w' => e = .returned (.string Q) ∧ Below w.heap.size w w'
  t55 : ∀ w, Calls Try.prog 12 #[.string (P.extract 0 55)] w fun e w' => e = .returned (.tuple #[.agg #[.int .u8 0, .int .u64 0, .int .u64 0, .bool false, .int .i64 0, .slice none 0 0], .int .i64 7]) ∧ Below w.heap.size w w'
  t57 : ∀ w, Calls Try.prog 12 #[.string (P.extract 0 57)] w fun e w' => e = .returned (.tuple #[.agg #[.int .u8 0, .int .u64 0, .int .u64 0, .bool false, .int .i64 0, .slice none 0 0], .int .i64 7]) ∧ Below w.heap.size w w'
  t56 : ∀ w, Calls Try.prog 12 #[.string (P.extract 0 56)] w fun e w' => e = .returned (.tuple #[.agg #[.int .u8 0, .int .u64 0, .int .u64 0, .bool false, .int .i64 0, .slice none 0 0], .int .i64 7]) ∧ Below w.heap.size w w'
  t1 : ∀ w, Calls Try.prog 12 #[.string (Q.extract 0 56)] w fun e w' => e = .returned (.tuple #[.agg #[.int .u8 0, .int .u64 0, .int .u64 0, .bool false, .int .i64 0, .slice none 0 0], .int .i64 40]) ∧ Below w.heap.size w w'
theorem kin {S P Q : ByteArray} (h : Hid (KnownIn S P Q)) : KnownIn S P Q := h
set_option maxRecDepth 100000 in
set_option maxHeartbeats 8000000 in
theorem shipKnown_core (S P Q : ByteArray) (w : World) (hS : (S.size : Int) = 56) (hP1 : (57 : Int) ≤ P.size) (hQ1 : (56 : Int) ≤ Q.size) (H : Hid (KnownIn S P Q)) :
    Calls Try.prog 3 #[] w fun e w' => e = .returned (.bool true) ∧ Below w.heap.size w w' := by
  have HSZ := Lib.hid hS
  clear hS
  have hP2 : (56 : Int) ≤ P.size := by omega
  have hP3 : (55 : Int) ≤ P.size := by omega
  go_enter Try.func3, Try.ntmps3
  go_wp2_with fail
  refine ((kin H).h1 _).mono ?_
  rintro e w1 ⟨rfl, hb1⟩
  go_wp2_with fail
  refine (works_any _).mono ?_
  rintro e w2 ⟨rfl, hb2⟩
  have hq : ((S.size : Int) != 56) = false := by rw [HSZ.out]; rfl
  have hk0 : Kn w w2.heap.size (w2.alloc (.cells K24 28)) := ⟨Blk.new _ _ _, (bj hb1 hb2).alloc (bj hb1 hb2).size _⟩
  have HK0 := Lib.hid hk0
  clear hb1 hb2 hk0
  go_wp2_with fail
  generalize w2.heap.size = g at *
  clear hq
  go_loopw [37] (fun i wr => ∃ z : Int, 0 ≤ z ∧ z ≤ 4 ∧ i = .int .i64 z ∧ Kn w g wr) (fun i _ => (4 - intOf i).toNat)
  case atStart => exact ⟨0, by omega, by omega, rfl, HK0.out⟩
  case round =>
    obtain ⟨z, h0, h4, rfl, hk⟩ := hrel
    clear HK0
    obtain rfl | rfl | rfl | rfl | rfl : z = 0 ∨ z = 1 ∨ z = 2 ∨ z = 3 ∨ z = 4 := by omega
    · clear h0 h4
      have c0 : wr.cell? ⟨g, 0, none⟩ = some (.int .u8 1) := kn_at hk 0
      have c1 : wr.cell? ⟨g, 1, none⟩ = some (.int .u64 0) := kn_at hk 1
      have c2 : wr.cell? ⟨g, 2, none⟩ = some (.int .u64 1) := kn_at hk 2
      have c3 : wr.cell? ⟨g, 3, none⟩ = some (.bool false) := kn_at hk 3
      have c4 : wr.cell? ⟨g, 4, none⟩ = some (.int .i64 0) := kn_at hk 4
      have c5 : wr.cell? ⟨g, 5, none⟩ = some (.slice none 0 0) := kn_at hk 5
      have HK := Lib.hid hk
      clear hk
      go_wp2_with fail
      refine ((kin H).b1 _).mono ?_
      rintro e w3 ⟨rfl, hb3⟩
      have hk3 := kn_step hb3 (kn_step ((Below.refl _ _).alloc (Nat.le_refl _) _) HK.out)
      clear hb3 c0 c1 c2 c3 c4 c5
      go_wp2
      go_roundw
      case rel => exact ⟨1, by omega, by omega, rfl, hk3⟩
      case measure => simp [intOf]
    · clear h0 h4
      have c0 : wr.cell? ⟨g, 6, none⟩ = some (.int .u8 2) := kn_at hk 6
      have c1 : wr.cell? ⟨g, 7, none⟩ = some (.int .u64 0) := kn_at hk 7
      have c2 : wr.cell? ⟨g, 8, none⟩ = some (.int .u64 0) := kn_at hk 8
      have c3 : wr.cell? ⟨g, 9, none⟩ = some (.bool false) := kn_at hk 9
      have c4 : wr.cell? ⟨g, 10, none⟩ = some (.int .i64 1) := kn_at hk 10
      have c5 : wr.cell? ⟨g, 11, none⟩ = some (.slice none 0 0) := kn_at hk 11
      have HK := Lib.hid hk
      clear hk
      go_wp2_with fail
      refine ((kin H).b2 _).mono ?_
      rintro e w3 ⟨rfl, hb3⟩
      have hk3 := kn_step hb3 (kn_step ((Below.refl _ _).alloc (Nat.le_refl _) _) HK.out)
      clear hb3 c0 c1 c2 c3 c4 c5
      go_wp2
      go_roundw
      case rel => exact ⟨2, by omega, by omega, rfl, hk3⟩
      case measure => simp [intOf]
    · clear h0 h4
      have c0 : wr.cell? ⟨g, 12, none⟩ = some (.int .u8 3) := kn_at hk 12
      have c1 : wr.cell? ⟨g, 13, none⟩ = some (.int .u64 0) := kn_at hk 13
      have c2 : wr.cell? ⟨g, 14, none⟩ = some (.int .u64 0) := kn_at hk 14
      have c3 : wr.cell? ⟨g, 15, none⟩ = some (.bool false) := kn_at hk 15
      have c4 : wr.cell? ⟨g, 16, none⟩ = some (.int .i64 0) := kn_at hk 16
      have c5 : wr.cell? ⟨g, 17, none⟩ = some (.slice none 0 0) := kn_at hk 17
      have HK := Lib.hid hk
      clear hk
      go_wp2_with fail
      refine ((kin H).b3 _).mono ?_
      rintro e w3 ⟨rfl, hb3⟩
      have hk3 := kn_step hb3 (kn_step ((Below.refl _ _).alloc (Nat.le_refl _) _) HK.out)
      clear hb3 c0 c1 c2 c3 c4 c5
      go_wp2
      go_roundw
      case rel => exact ⟨3, by omega, by omega, rfl, hk3⟩
      case measure => simp [intOf]
    · clear h0 h4
      have c0 : wr.cell? ⟨g, 18, none⟩ = some (.int .u8 0) := kn_at hk 18
      have c1 : wr.cell? ⟨g, 19, none⟩ = some (.int .u64 0) := kn_at hk 19
      have c2 : wr.cell? ⟨g, 20, none⟩ = some (.int .u64 0) := kn_at hk 20
      have c3 : wr.cell? ⟨g, 21, none⟩ = some (.bool false) := kn_at hk 21
      have c4 : wr.cell? ⟨g, 22, none⟩ = some (.int .i64 0) := kn_at hk 22
      have c5 : wr.cell? ⟨g, 23, none⟩ = some (.slice none 0 0) := kn_at hk 23
      have HK := Lib.hid hk
      clear hk
      go_wp2_with fail
      refine ((kin H).b4 _).mono ?_
      rintro e w3 ⟨rfl, hb3⟩
      have hk3 := kn_step hb3 (kn_step ((Below.refl _ _).alloc (Nat.le_refl _) _) HK.out)
      clear hb3 c0 c1 c2 c3 c4 c5
      go_wp2
      go_roundw
      case rel => exact ⟨4, by omega, by omega, rfl, hk3⟩
      case measure => simp [intOf]
    · clear h0 h4
      go_wp2_with fail
      refine ((kin H).p0 _).mono ?_
      rintro e v0 ⟨rfl, hv0⟩
      go_wp2_with fail
      refine ((kin H).t55 _).mono ?_
      rintro e u0_ ⟨rfl, hu0⟩
      have hk0 := kn_step ((Below.refl _ _).alloc (Nat.le_refl _) (.cells #[.int .u8 0, .int .u64 0, .int .u64 0, .bool false, .int .i64 0, .slice none 0 0] 28)) (kn_step hu0 (kn_step hv0 hk))
      clear hv0 hu0
      go_wp2_with fail
      refine ((kin H).p0 _).mono ?_
      rintro e v1 ⟨rfl, hv1⟩
      go_wp2_with fail
      refine ((kin H).t57 _).mono ?_
      rintro e u1_ ⟨rfl, hu1⟩
      have hk1 := kn_step ((Below.refl _ _).alloc (Nat.le_refl _) (.cells #[.int .u8 0, .int .u64 0, .int .u64 0, .bool false, .int .i64 0, .slice none 0 0] 28)) (kn_step hu1 (kn_step hv1 hk0))
      clear hv1 hu1
      go_wp2_with fail
      refine ((kin H).p0 _).mono ?_
      rintro e v2 ⟨rfl, hv2⟩
      go_wp2_with fail
      refine ((kin H).t56 _).mono ?_
      rintro e u2_ ⟨rfl, hu2⟩
      have hk2 := kn_step ((Below.refl _ _).alloc (Nat.le_refl _) (.cells #[.int .u8 0, .int .u64 0, .int .u64 0, .bool false, .int .i64 0, .slice none 0 0] 28)) (kn_step hu2 (kn_step hv2 hk1))
      clear hv2 hu2
      go_wp2_with fail
      refine ((kin H).p1 _).mono ?_
      rintro e v3 ⟨rfl, hv3⟩
      go_wp2_with fail
      refine ((kin H).t1 _).mono ?_
      rintro e u3_ ⟨rfl, hu3⟩
      have hk3 := kn_step ((Below.refl _ _).alloc (Nat.le_refl _) (.cells #[.int .u8 0, .int .u64 0, .int .u64 0, .bool false, .int .i64 0, .slice none 0 0] 28)) (kn_step hu3 (kn_step hv3 hk2))
      clear hv3 hu3
      go_wp2
      go_ret
      exact ⟨rfl, hk3.2⟩
theorem shipKnown_walk (w : World) : Calls Try.prog 3 #[] w fun e w' => e = .returned (.bool true) ∧ Below w.heap.size w w' := by
  have ok : shipOk 2 3 false 0 [] = true := rfl
  have hi := put_is (kind := 2) (ep := 0) (K := 3) (pages := 0) (full := false) (l := []) ok (by omega) (by omega)
  have hsz := ship_size hi
  have bad : ∀ (kind K pages : Int) (w : World), shipOk kind K false pages [] = false → Calls Try.prog 10 #[.agg #[.int .u8 kind, .int .u64 0, .int .u64 K, .bool false, .int .i64 pages, .slice none 0 0]] w fun e w' => e = .returned (.tuple #[.string ⟨#[]⟩, .int .i64 2]) ∧ Below w.heap.size w w' :=
    fun kind K pages w h => shipPut_bad kind 0 K pages false none [] 0 0 w (.inl rfl) rfl (by unfold maxLen; omega) h
  have z0 := pgD_size 0
  have z1 := pgD_size 1
  have e55 := pg_cut_size 0 55 (by omega) (by omega)
  have e57 := pg_cut_size 0 57 (by omega) (by omega)
  have e56 := pg_cut_size 0 56 (by omega) (by omega)
  have e1 := pg_cut_size 1 56 (by omega) (by omega)
  exact shipKnown_core (bstr (shipL 2 0 3 false 0 [])) (pgD 0) (pgD 1) w (by rw [hsz]; rfl) (by omega) (by omega) (Lib.hid
    ⟨fun w => put_yes 2 0 3 0 false none [] 0 0 w (.inl rfl) rfl (by omega) (by omega) ok, fun w => bad 1 1 0 w rfl, fun w => bad 2 0 1 w rfl, fun w => bad 3 0 0 w rfl, fun w => bad 0 0 0 w rfl,
      fun w => page_any 0 w (by omega), fun w => page_any 1 w (by omega),
      fun w => take_short _ w (by omega) (by omega), fun w => take_short _ w (by omega) (by omega), fun w => take_bad _ w (by omega) (by omega) (by omega) zero_sum zero_bad, fun w => take_sum _ w (by omega) (by omega) (by omega) one_sum⟩)
end Go.Proofs.Ytkocdaillkhkfaa
