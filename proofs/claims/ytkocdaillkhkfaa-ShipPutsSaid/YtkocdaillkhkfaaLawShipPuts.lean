/- The walk of ShipPuts. Conditions: the numbers fit their kinds. -/
import Derived.Test.YtkocdaillkhkfaaShipRefPut
import Derived.Test.YtkocdaillkhkfaaShipRefSame
import Derived.Deep.RegionHeld3
namespace Go.Proofs.Ytkocdaillkhkfaa
open Go.RowKit
set_option linter.unusedVariables false
theorem sd_step {w W W' : World} {k1 e1 K1 p1 : Int} {f1 : Bool} {A : Option Addr} {n c : Nat} {k2 e2 K2 p2 : Int} {f2 : Bool} {C : Option Addr} {n' c' : Nat} (hb : Below W.heap.size W W') (h : Sd w k1 e1 K1 p1 f1 A n c k2 e2 K2 p2 f2 C n' c' W) : Sd w k1 e1 K1 p1 f1 A n c k2 e2 K2 p2 f2 C n' c' W' := ⟨blk_step h.1 hb, blk_step h.2.1 hb, bj h.2.2 hb⟩
theorem sdS {w W : World} {k1 e1 K1 p1 : Int} {f1 : Bool} {A : Option Addr} {n c : Nat} {k2 e2 K2 p2 : Int} {f2 : Bool} {C : Option Addr} {n' c' : Nat} (h : Sd w k1 e1 K1 p1 f1 A n c k2 e2 K2 p2 f2 C n' c' W) : W.cell? ⟨w.heap.size, 0, none⟩ = some (.int .u8 k1) ∧ W.cell? ⟨w.heap.size, 1, none⟩ = some (.int .u64 e1) ∧ W.cell? ⟨w.heap.size, 2, none⟩ = some (.int .u64 K1) ∧ W.cell? ⟨w.heap.size, 3, none⟩ = some (.bool f1) ∧ W.cell? ⟨w.heap.size, 4, none⟩ = some (.int .i64 p1) ∧ W.cell? ⟨w.heap.size, 5, none⟩ = some (.slice A n c) ∧ W.cell? ⟨w.heap.size + 1, 0, none⟩ = some (.int .u8 k2) ∧ W.cell? ⟨w.heap.size + 1, 1, none⟩ = some (.int .u64 e2) ∧ W.cell? ⟨w.heap.size + 1, 2, none⟩ = some (.int .u64 K2) ∧ W.cell? ⟨w.heap.size + 1, 3, none⟩ = some (.bool f2) ∧ W.cell? ⟨w.heap.size + 1, 4, none⟩ = some (.int .i64 p2) ∧ W.cell? ⟨w.heap.size + 1, 5, none⟩ = some (.slice C n' c') :=
  ⟨h.1.cell 0, h.1.cell 1, h.1.cell 2, h.1.cell 3, h.1.cell 4, h.1.cell 5, h.2.1.cell 0, h.2.1.cell 1, h.2.1.cell 2, h.2.1.cell 3, h.2.1.cell 4, h.2.1.cell 5⟩
theorem sd_im {w W : World} {k1 e1 K1 p1 : Int} {f1 : Bool} {A : Option Addr} {n c : Nat} {k2 e2 K2 p2 : Int} {f2 : Bool} {C : Option Addr} {n' c' : Nat} {A' : Option Addr} {l : List (Int × ByteArray)} (h : Sd w k1 e1 K1 p1 f1 A n c k2 e2 K2 p2 f2 C n' c' W) (hI : Imgs w w.heap.size A' l) : Imgs W W.heap.size A' l := imgs_mono (imgs_below hI h.2.2) h.2.2.size
theorem sdB {w W : World} {k1 e1 K1 p1 : Int} {f1 : Bool} {A : Option Addr} {n c : Nat} {k2 e2 K2 p2 : Int} {f2 : Bool} {C : Option Addr} {n' c' : Nat} (h : Sd w k1 e1 K1 p1 f1 A n c k2 e2 K2 p2 f2 C n' c' W) : Below w.heap.size w W := h.2.2
set_option maxRecDepth 100000 in
set_option maxHeartbeats 8000000 in
theorem shipPuts_g1 (k1 e1 K1 p1 : Int) (f1 : Bool) (A : Option Addr) (l : List (Int × ByteArray)) (n c : Nat) (k2 e2 K2 p2 : Int) (f2 : Bool) (C : Option Addr) (m : List (Int × ByteArray)) (n' c' : Nat)  (w : World) (hI : Imgs w w.heap.size A l) (hJ : Imgs w w.heap.size C m) (hn : n = l.length) (hn' : n' = m.length) (hm : n ≤ maxLen) (hm' : n' ≤ maxLen) (hg : grB l = true) :
    Calls Try.prog 4 #[.agg #[.int .u8 k1, .int .u64 e1, .int .u64 K1, .bool f1, .int .i64 p1, .slice A n c], .agg #[.int .u8 k2, .int .u64 e2, .int .u64 K2, .bool f2, .int .i64 p2, .slice C n' c']] w fun e w' => e = .returned (.bool true) ∧ Below w.heap.size w w' := by
  have hg1 := fun W (h : Sd w k1 e1 K1 p1 f1 A n c k2 e2 K2 p2 f2 C n' c' W) => great_any k1 e1 K1 p1 f1 A l n c W (sd_im h hI) hn hm
  have hg2 := fun W (h : Sd w k1 e1 K1 p1 f1 A n c k2 e2 K2 p2 f2 C n' c' W) => great_any k2 e2 K2 p2 f2 C m n' c' W (sd_im h hJ) hn' hm'
  rw [hg] at hg1
  have HG1 := Lib.hid hg1
  have HG2 := Lib.hid hg2
  have hs0 := sd_new w k1 e1 K1 p1 f1 A n c k2 e2 K2 p2 f2 C n' c'
  clear hg1 hg2 hI hJ hn hn' hm hm' hg
  go_enter Try.func4, Try.ntmps4
  go_wp2_with fail
  refine (works_any _).mono ?_
  rintro e w1 ⟨rfl, hb1⟩
  have hs1 := sd_step hb1 hs0
  obtain ⟨r0, r1, r2, r3, r4, r5, s0, s1, s2, s3, s4, s5⟩ := sdS hs1
  clear hb1 hs0
  go_wp2_with fail
  refine (HG1.out _ hs1).mono ?_
  rintro e w2 ⟨rfl, hb2⟩
  have hs2 := sd_step hb2 hs1
  clear hb2 hs1 r0 r1 r2 r3 r4 r5 s0 s1 s2 s3 s4 s5
  obtain ⟨r0, r1, r2, r3, r4, r5, s0, s1, s2, s3, s4, s5⟩ := sdS hs2
  go_wp2
  go_ret
  exact ⟨rfl, sdB hs2⟩
set_option maxRecDepth 100000 in
set_option maxHeartbeats 8000000 in
theorem shipPuts_g2 (k1 e1 K1 p1 : Int) (f1 : Bool) (A : Option Addr) (l : List (Int × ByteArray)) (n c : Nat) (k2 e2 K2 p2 : Int) (f2 : Bool) (C : Option Addr) (m : List (Int × ByteArray)) (n' c' : Nat)  (w : World) (hI : Imgs w w.heap.size A l) (hJ : Imgs w w.heap.size C m) (hn : n = l.length) (hn' : n' = m.length) (hm : n ≤ maxLen) (hm' : n' ≤ maxLen) (hg : grB l = false) (hg' : grB m = true) :
    Calls Try.prog 4 #[.agg #[.int .u8 k1, .int .u64 e1, .int .u64 K1, .bool f1, .int .i64 p1, .slice A n c], .agg #[.int .u8 k2, .int .u64 e2, .int .u64 K2, .bool f2, .int .i64 p2, .slice C n' c']] w fun e w' => e = .returned (.bool true) ∧ Below w.heap.size w w' := by
  have hg1 := fun W (h : Sd w k1 e1 K1 p1 f1 A n c k2 e2 K2 p2 f2 C n' c' W) => great_any k1 e1 K1 p1 f1 A l n c W (sd_im h hI) hn hm
  have hg2 := fun W (h : Sd w k1 e1 K1 p1 f1 A n c k2 e2 K2 p2 f2 C n' c' W) => great_any k2 e2 K2 p2 f2 C m n' c' W (sd_im h hJ) hn' hm'
  rw [hg] at hg1
  rw [hg'] at hg2
  have HG1 := Lib.hid hg1
  have HG2 := Lib.hid hg2
  have hs0 := sd_new w k1 e1 K1 p1 f1 A n c k2 e2 K2 p2 f2 C n' c'
  clear hg1 hg2 hI hJ hn hn' hm hm' hg hg'
  go_enter Try.func4, Try.ntmps4
  go_wp2_with fail
  refine (works_any _).mono ?_
  rintro e w1 ⟨rfl, hb1⟩
  have hs1 := sd_step hb1 hs0
  obtain ⟨r0, r1, r2, r3, r4, r5, s0, s1, s2, s3, s4, s5⟩ := sdS hs1
  clear hb1 hs0
  go_wp2_with fail
  refine (HG1.out _ hs1).mono ?_
  rintro e w2 ⟨rfl, hb2⟩
  have hs2 := sd_step hb2 hs1
  clear hb2 hs1 r0 r1 r2 r3 r4 r5 s0 s1 s2 s3 s4 s5
  obtain ⟨r0, r1, r2, r3, r4, r5, s0, s1, s2, s3, s4, s5⟩ := sdS hs2
  go_wp2_with fail
  refine (HG2.out _ hs2).mono ?_
  rintro e w3 ⟨rfl, hb3⟩
  have hs3 := sd_step hb3 hs2
  clear hb3 hs2 r0 r1 r2 r3 r4 r5 s0 s1 s2 s3 s4 s5
  obtain ⟨r0, r1, r2, r3, r4, r5, s0, s1, s2, s3, s4, s5⟩ := sdS hs3
  go_wp2
  go_ret
  exact ⟨rfl, sdB hs3⟩
set_option maxRecDepth 100000 in
set_option maxHeartbeats 8000000 in
theorem shipPuts_main (k1 e1 K1 p1 : Int) (f1 : Bool) (A : Option Addr) (l : List (Int × ByteArray)) (n c : Nat) (k2 e2 K2 p2 : Int) (f2 : Bool) (C : Option Addr) (m : List (Int × ByteArray)) (n' c' : Nat) (S : ByteArray) (ev : Int) (w : World) (hI : Imgs w w.heap.size A l) (hJ : Imgs w w.heap.size C m) (hn : n = l.length) (hn' : n' = m.length) (hm : n ≤ maxLen) (hm' : n' ≤ maxLen) (hg : grB l = false) (hg' : grB m = false)
    (hp : ∀ W, Sd w k1 e1 K1 p1 f1 A n c k2 e2 K2 p2 f2 C n' c' W → Calls Try.prog 10 #[.agg #[.int .u8 k1, .int .u64 e1, .int .u64 K1, .bool f1, .int .i64 p1, .slice A n c]] W fun e w' => e = .returned (.tuple #[.string S, .int .i64 ev]) ∧ Below W.heap.size W w')
    (hr : ∀ W, Sd w k1 e1 K1 p1 f1 A n c k2 e2 K2 p2 f2 C n' c' W → Calls Try.prog 15 #[.agg #[.int .u8 k1, .int .u64 e1, .int .u64 K1, .bool f1, .int .i64 p1, .slice A n c]] W fun e w' => e = .returned (.tuple #[.string S, .int .i64 ev]) ∧ Below W.heap.size W w') :
    Calls Try.prog 4 #[.agg #[.int .u8 k1, .int .u64 e1, .int .u64 K1, .bool f1, .int .i64 p1, .slice A n c], .agg #[.int .u8 k2, .int .u64 e2, .int .u64 K2, .bool f2, .int .i64 p2, .slice C n' c']] w fun e w' => e = .returned (.bool true) ∧ Below w.heap.size w w' := by
  have hg1 := fun W (h : Sd w k1 e1 K1 p1 f1 A n c k2 e2 K2 p2 f2 C n' c' W) => great_any k1 e1 K1 p1 f1 A l n c W (sd_im h hI) hn hm
  have hg2 := fun W (h : Sd w k1 e1 K1 p1 f1 A n c k2 e2 K2 p2 f2 C n' c' W) => great_any k2 e2 K2 p2 f2 C m n' c' W (sd_im h hJ) hn' hm'
  rw [hg] at hg1
  rw [hg'] at hg2
  have HG1 := Lib.hid hg1
  have HG2 := Lib.hid hg2
  have hs0 := sd_new w k1 e1 K1 p1 f1 A n c k2 e2 K2 p2 f2 C n' c'
  have hS := fun W (h : Sd w k1 e1 K1 p1 f1 A n c k2 e2 K2 p2 f2 C n' c' W) => same_any k1 e1 K1 p1 f1 A l n c k2 e2 K2 p2 f2 C m n' c' W (sd_im h hI) (sd_im h hJ) hn hn' hm
  have hR := fun W (h : Sd w k1 e1 K1 p1 f1 A n c k2 e2 K2 p2 f2 C n' c' W) => refSame_any k1 e1 K1 p1 f1 A l n c k2 e2 K2 p2 f2 C m n' c' W (sd_im h hI) (sd_im h hJ) hn hn' hm
  generalize sameB k1 e1 K1 p1 f1 l k2 e2 K2 p2 f2 m = b at *
  have HP := Lib.hid hp
  have HR := Lib.hid hr
  have HS := Lib.hid hS
  have HRS := Lib.hid hR
  clear hg1 hg2 hI hJ hn hn' hm hm' hg hg' hp hr hS hR
  go_enter Try.func4, Try.ntmps4
  go_wp2_with fail
  refine (works_any _).mono ?_
  rintro e w1 ⟨rfl, hb1⟩
  have hs1 := sd_step hb1 hs0
  obtain ⟨r0, r1, r2, r3, r4, r5, s0, s1, s2, s3, s4, s5⟩ := sdS hs1
  clear hb1 hs0
  go_wp2_with fail
  refine (HG1.out _ hs1).mono ?_
  rintro e w2 ⟨rfl, hb2⟩
  have hs2 := sd_step hb2 hs1
  clear hb2 hs1 r0 r1 r2 r3 r4 r5 s0 s1 s2 s3 s4 s5
  obtain ⟨r0, r1, r2, r3, r4, r5, s0, s1, s2, s3, s4, s5⟩ := sdS hs2
  go_wp2_with fail
  refine (HG2.out _ hs2).mono ?_
  rintro e w3 ⟨rfl, hb3⟩
  have hs3 := sd_step hb3 hs2
  clear hb3 hs2 r0 r1 r2 r3 r4 r5 s0 s1 s2 s3 s4 s5
  obtain ⟨r0, r1, r2, r3, r4, r5, s0, s1, s2, s3, s4, s5⟩ := sdS hs3
  go_wp2_with fail
  refine (HP.out _ hs3).mono ?_
  rintro e w4 ⟨rfl, hb4⟩
  have hs4 := sd_step hb4 hs3
  clear hb4 hs3 r0 r1 r2 r3 r4 r5 s0 s1 s2 s3 s4 s5
  obtain ⟨r0, r1, r2, r3, r4, r5, s0, s1, s2, s3, s4, s5⟩ := sdS hs4
  go_wp2_with fail
  refine (HR.out _ hs4).mono ?_
  rintro e w5 ⟨rfl, hb5⟩
  have hs5 := sd_step hb5 hs4
  clear hb5 hs4 r0 r1 r2 r3 r4 r5 s0 s1 s2 s3 s4 s5
  have h5 := sd_step (Below.refl _ _).drew hs5
  clear hs5
  cases b
  all_goals
    go_wp2_with fail
    go_region_held3 (fun W => W.cell? ⟨w.heap.size, 0, none⟩ = some (.int .u8 k1) ∧ W.cell? ⟨w.heap.size, 1, none⟩ = some (.int .u64 e1) ∧ W.cell? ⟨w.heap.size, 2, none⟩ = some (.int .u64 K1) ∧ W.cell? ⟨w.heap.size, 3, none⟩ = some (.bool f1) ∧ W.cell? ⟨w.heap.size, 4, none⟩ = some (.int .i64 p1) ∧ W.cell? ⟨w.heap.size, 5, none⟩ = some (.slice A n c) ∧ W.cell? ⟨w.heap.size + 1, 0, none⟩ = some (.int .u8 k2) ∧ W.cell? ⟨w.heap.size + 1, 1, none⟩ = some (.int .u64 e2) ∧ W.cell? ⟨w.heap.size + 1, 2, none⟩ = some (.int .u64 K2) ∧ W.cell? ⟨w.heap.size + 1, 3, none⟩ = some (.bool f2) ∧ W.cell? ⟨w.heap.size + 1, 4, none⟩ = some (.int .i64 p2) ∧ W.cell? ⟨w.heap.size + 1, 5, none⟩ = some (.slice C n' c'))
      (with_reducible first | exact sdS h5 | exact sdS h6 | exact sdS h7)
      (first
        | (go_at_call 16; (with_reducible refine (HS.out _ h5).mono ?_); rintro e w6 ⟨rfl, hb6⟩; (have h6 := sd_step hb6 h5))
        | (go_at_call 17; (with_reducible refine (HRS.out _ h6).mono ?_); rintro e w7 ⟨rfl, hb7⟩; (have h7 := sd_step hb7 h6)))
    go_wp2
    go_ret
    exact ⟨rfl, sdB h7⟩
theorem shipPuts_walk (a0 b0 c0 : Int) (d0 : Bool) (e0 : Int) (A0 : Option Addr) (l0 : List (Int × ByteArray)) (n0 k0 : Nat) (a1 b1 c1 : Int) (d1 : Bool) (e1 : Int) (A1 : Option Addr) (l1 : List (Int × ByteArray)) (n1 k1 : Nat) (_wa0 : (Lit.int .u8 a0).wf = true) (wb0 : (Lit.int .u64 b0).wf = true) (wc0 : (Lit.int .u64 c0).wf = true) (_we0 : (Lit.int .i64 e0).wf = true) (hn0 : n0 = l0.length) (hm0 : n0 ≤ maxLen) (_hx0 : ∀ x ∈ l0, (Lit.int .i64 x.1).wf = true)
    (_wa1 : (Lit.int .u8 a1).wf = true) (_wb1 : (Lit.int .u64 b1).wf = true) (_wc1 : (Lit.int .u64 c1).wf = true) (_we1 : (Lit.int .i64 e1).wf = true) (hn1 : n1 = l1.length) (hm1 : n1 ≤ maxLen) (_hx1 : ∀ x ∈ l1, (Lit.int .i64 x.1).wf = true) (w : World) (I0 : Imgs w w.heap.size A0 l0) (I1 : Imgs w w.heap.size A1 l1) :
    Calls Try.prog 4 #[.agg #[.int .u8 a0, .int .u64 b0, .int .u64 c0, .bool d0, .int .i64 e0, .slice A0 n0 k0], .agg #[.int .u8 a1, .int .u64 b1, .int .u64 c1, .bool d1, .int .i64 e1, .slice A1 n1 k1]] w fun e w' => e = .returned (.bool true) ∧ Below w.heap.size w w' := by
  cases hg : grB l0 with
  | true => exact shipPuts_g1 a0 b0 c0 e0 d0 A0 l0 n0 k0 a1 b1 c1 e1 d1 A1 l1 n1 k1 w I0 I1 hn0 hn1 hm0 hm1 hg
  | false =>
    cases hg' : grB l1 with
    | true => exact shipPuts_g2 a0 b0 c0 e0 d0 A0 l0 n0 k0 a1 b1 c1 e1 d1 A1 l1 n1 k1 w I0 I1 hn0 hn1 hm0 hm1 hg hg'
    | false =>
      cases hok : shipOk a0 c0 d0 e0 l0 with
      | false =>
        exact shipPuts_main a0 b0 c0 e0 d0 A0 l0 n0 k0 a1 b1 c1 e1 d1 A1 l1 n1 k1 ⟨#[]⟩ 2 w I0 I1 hn0 hn1 hm0 hm1 hg hg' (fun W hW => shipPut_bad a0 b0 c0 e0 d0 A0 l0 n0 k0 W (sd_im hW I0) hn0 hm0 hok) (fun W hW => refPut_bad a0 b0 c0 e0 d0 A0 l0 n0 k0 W (sd_im hW I0) hn0 hm0 hok)
      | true =>
        obtain ⟨q1, q2, q3, q4, q5, q6⟩ := ok_bounds hok
        obtain ⟨k, rfl⟩ := Int.eq_ofNat_of_zero_le q1
        obtain ⟨ep, rfl⟩ := Int.eq_ofNat_of_zero_le (u64_lt wb0).1
        obtain ⟨K, rfl⟩ := Int.eq_ofNat_of_zero_le (u64_lt wc0).1
        obtain ⟨p, rfl⟩ := Int.eq_ofNat_of_zero_le q3
        have x1 := (u64_lt wb0).2
        have x2 := (u64_lt wc0).2
        exact shipPuts_main k ep K p d0 A0 l0 n0 k0 a1 b1 c1 e1 d1 A1 l1 n1 k1 (bstr (shipL k ep K d0 p l0)) 0 w I0 I1 hn0 hn1 hm0 hm1 hg hg' (fun W hW => put_yes k ep K p d0 A0 l0 n0 k0 W (sd_im hW I0) hn0 (by omega) (by omega) hok) (fun W hW => refPut_good k ep K p d0 A0 l0 n0 k0 W (sd_im hW I0) hn0 (by omega) (by omega) hok)
end Go.Proofs.Ytkocdaillkhkfaa
