/- The law NodePuts: the walk. Conditions: those of each lemma. -/
import Derived.Test.YticpenbebokjdaaDoorNd19
namespace Go.Proofs.YticpenbebokjdaaDoor
open Go.RowKit Go
set_option linter.unusedVariables false
set_option linter.unusedSimpArgs false
set_option maxRecDepth 100000 in
set_option maxHeartbeats 8000000 in
theorem nputs_great (kind first : Int) (A : Option Addr) (l : List Cl) (n c : Nat) (data : ByteArray) (w : World) (hC : Cls w w.heap.size A l) (hn : n = l.length) (hg : greatB l data = true) :
    Calls Tryd.prog 4 #[.agg #[.int .u8 kind, .int .i64 first, .slice A n c, .string data]] w fun e w' => e = .returned (.bool true) ∧ Below w.heap.size w w' := by
  have HG := Lib.hid hg
  clear hg
  have HWK := Lib.hid (fun (W : World) (h : LwSt w kind first A l n c data W) => (works_any W).mono (fun e w' he => (⟨he.1, lwst_step h he.2⟩ : e = .returned (.bool true) ∧ LwSt w kind first A l n c data w')))
  have HGR := Lib.hid (fun (W : World) (h : LwSt w kind first A l n c data W) => (great_any kind first A l n c data W h.2 hn).mono (fun e w' he => (⟨he.1, lwst_step h he.2⟩ : e = .returned (.bool (greatB l data)) ∧ LwSt w kind first A l n c data w')))
  have HST := Lib.hid (lwst_new (kind := kind) (first := first) (n := n) (c := c) (data := data) hC)
  clear hC hn
  go_enter Tryd.func4, Tryd.ntmps4
  obtain ⟨c0, c1, c2, c3⟩ := cell4 HST.out.1.1
  go_wp2_with fail
  refine (HWK.out _ HST.out).mono ?_
  rintro e wa ⟨rfl, hb⟩
  have HSA := Lib.hid hb
  clear hb c0 c1 c2 c3 HWK HST
  obtain ⟨c0, c1, c2, c3⟩ := cell4 HSA.out.1.1
  go_wp2_with fail
  refine (HGR.out _ HSA.out).mono ?_
  rintro e wb ⟨rfl, hb⟩
  have HSB := Lib.hid hb
  clear hb c0 c1 c2 c3 HGR HSA
  obtain ⟨c0, c1, c2, c3⟩ := cell4 HSB.out.1.1
  rw [HG.out]
  go_wp2
  go_ret
  exact ⟨rfl, HSB.out.1.2⟩
set_option maxRecDepth 100000 in
set_option maxHeartbeats 8000000 in
theorem nputs_no (kind first : Int) (A : Option Addr) (l : List Cl) (n c : Nat) (data : ByteArray) (w : World) (hC : Cls w w.heap.size A l) (hn : n = l.length) (hg : greatB l data = false) (hmay : mayB kind first l data = false) :
    Calls Tryd.prog 4 #[.agg #[.int .u8 kind, .int .i64 first, .slice A n c, .string data]] w fun e w' => e = .returned (.bool true) ∧ Below w.heap.size w w' := by
  have hz : sizeZ kind first l data = 0 := by unfold sizeZ; rw [hmay]; rfl
  have hm : n ≤ 65535 := by have := (great_no hg).1; omega
  have hm2 : n ≤ 1000000 := by omega
  have HG := Lib.hid hg
  obtain ⟨T, hT⟩ : ∃ T, (putN kind first l data).1 = T := ⟨_, rfl⟩
  obtain ⟨E, hE⟩ : ∃ E, (putN kind first l data).2 = E := ⟨_, rfl⟩
  have HPT := Lib.hid (fun (W : World) (h : LwSt w kind first A l n c data W) => (putN_any kind first A l n c data W h.2 hn hm2).mono (fun e w' he => (⟨by rw [he.1, hT, hE], lwst_step h he.2⟩ : e = .returned (.tuple #[.string T, .int .i64 E]) ∧ LwSt w kind first A l n c data w')))
  have HRP := Lib.hid (fun (W : World) (h : LwSt w kind first A l n c data W) => (rput_any kind first A l n c data W h.2 hn hm).mono (fun e w' he => (⟨by rw [he.1, hT, hE], lwst_step h he.2⟩ : e = .returned (.tuple #[.string T, .int .i64 E]) ∧ LwSt w kind first A l n c data w')))
  have HMY := Lib.hid (fun (W : World) (h : LwSt w kind first A l n c data W) => (rmay_any kind first A l n c data W h.2 hn hm2).mono (fun e w' he => (⟨by rw [he.1, hmay], lwst_step h he.2⟩ : e = .returned (.bool false) ∧ LwSt w kind first A l n c data w')))
  have HSZ := Lib.hid (fun (W : World) (h : LwSt w kind first A l n c data W) => (size_any kind first A l n c data W h.2 hn hm2).mono (fun e w' he => (⟨by rw [he.1, hz], lwst_step h he.2⟩ : e = .returned (.int .i64 (0)) ∧ LwSt w kind first A l n c data w')))
  clear hg hm hm2 hT hE hmay hz
  have HWK := Lib.hid (fun (W : World) (h : LwSt w kind first A l n c data W) => (works_any W).mono (fun e w' he => (⟨he.1, lwst_step h he.2⟩ : e = .returned (.bool true) ∧ LwSt w kind first A l n c data w')))
  have HGR := Lib.hid (fun (W : World) (h : LwSt w kind first A l n c data W) => (great_any kind first A l n c data W h.2 hn).mono (fun e w' he => (⟨he.1, lwst_step h he.2⟩ : e = .returned (.bool (greatB l data)) ∧ LwSt w kind first A l n c data w')))
  have HST := Lib.hid (lwst_new (kind := kind) (first := first) (n := n) (c := c) (data := data) hC)
  clear hC hn
  go_enter Tryd.func4, Tryd.ntmps4
  obtain ⟨c0, c1, c2, c3⟩ := cell4 HST.out.1.1
  go_wp2_with fail
  refine (HWK.out _ HST.out).mono ?_
  rintro e wa ⟨rfl, hb⟩
  have HSA := Lib.hid hb
  clear hb c0 c1 c2 c3 HWK HST
  obtain ⟨c0, c1, c2, c3⟩ := cell4 HSA.out.1.1
  go_wp2_with fail
  refine (HGR.out _ HSA.out).mono ?_
  rintro e wb ⟨rfl, hb⟩
  have HSB := Lib.hid hb
  clear hb c0 c1 c2 c3 HGR HSA
  obtain ⟨c0, c1, c2, c3⟩ := cell4 HSB.out.1.1
  rw [HG.out]
  go_wp2_with fail
  refine (HPT.out _ HSB.out).mono ?_
  rintro e wc ⟨rfl, hb⟩
  have HSC := Lib.hid hb
  clear hb c0 c1 c2 c3 HPT HSB
  obtain ⟨c0, c1, c2, c3⟩ := cell4 HSC.out.1.1
  go_wp2_with fail
  refine (HRP.out _ HSC.out).mono ?_
  rintro e wd ⟨rfl, hb⟩
  have HSD := Lib.hid hb
  clear hb c0 c1 c2 c3 HRP HSC
  obtain ⟨c0, c1, c2, c3⟩ := cell4 HSD.out.1.1
  go_wp2_with fail
  refine (HMY.out _ HSD.out).mono ?_
  rintro e we ⟨rfl, hb⟩
  have HSE := Lib.hid hb
  clear hb c0 c1 c2 c3 HMY HSD
  obtain ⟨c0, c1, c2, c3⟩ := cell4 HSE.out.1.1
  go_wp2_with fail
  refine (HSZ.out _ HSE.out).mono ?_
  rintro e wf ⟨rfl, hb⟩
  have HSF := Lib.hid hb
  clear hb c0 c1 c2 c3 HSZ HSE
  obtain ⟨c0, c1, c2, c3⟩ := cell4 HSF.out.1.1
  go_wp2
  go_ret
  exact ⟨rfl, HSF.out.1.2⟩
set_option maxRecDepth 100000 in
set_option maxHeartbeats 8000000 in
theorem nputs_yes (kind first : Int) (A : Option Addr) (l : List Cl) (n c : Nat) (data : ByteArray) (w : World) (hC : Cls w w.heap.size A l) (hn : n = l.length) (hg : greatB l data = false) (hmay : mayB kind first l data = true) :
    Calls Tryd.prog 4 #[.agg #[.int .u8 kind, .int .i64 first, .slice A n c, .string data]] w fun e w' => e = .returned (.bool true) ∧ Below w.heap.size w w' := by
  obtain ⟨S, hS⟩ : ∃ S, bstr (nodeL kind first l data) = S := ⟨_, rfl⟩
  have hz : sizeZ kind first l data = (S.size : Int) := by rw [(size_pos hmay).1, ← nodeS_size kind first, hS]
  have hm : n ≤ 65535 := by have := (great_no hg).1; omega
  have hm2 : n ≤ 1000000 := by omega
  have HG := Lib.hid hg
  obtain ⟨T, hT⟩ : ∃ T, (putN kind first l data).1 = T := ⟨_, rfl⟩
  obtain ⟨E, hE⟩ : ∃ E, (putN kind first l data).2 = E := ⟨_, rfl⟩
  have HPT := Lib.hid (fun (W : World) (h : LwSt w kind first A l n c data W) => (putN_any kind first A l n c data W h.2 hn hm2).mono (fun e w' he => (⟨by rw [he.1, hT, hE], lwst_step h he.2⟩ : e = .returned (.tuple #[.string T, .int .i64 E]) ∧ LwSt w kind first A l n c data w')))
  have HRP := Lib.hid (fun (W : World) (h : LwSt w kind first A l n c data W) => (rput_any kind first A l n c data W h.2 hn hm).mono (fun e w' he => (⟨by rw [he.1, hT, hE], lwst_step h he.2⟩ : e = .returned (.tuple #[.string T, .int .i64 E]) ∧ LwSt w kind first A l n c data w')))
  have HMY := Lib.hid (fun (W : World) (h : LwSt w kind first A l n c data W) => (rmay_any kind first A l n c data W h.2 hn hm2).mono (fun e w' he => (⟨by rw [he.1, hmay], lwst_step h he.2⟩ : e = .returned (.bool true) ∧ LwSt w kind first A l n c data w')))
  have HSZ := Lib.hid (fun (W : World) (h : LwSt w kind first A l n c data W) => (size_any kind first A l n c data W h.2 hn hm2).mono (fun e w' he => (⟨by rw [he.1, hz], lwst_step h he.2⟩ : e = .returned (.int .i64 ((S.size : Int))) ∧ LwSt w kind first A l n c data w')))
  have HBY := Lib.hid (fun (W : World) (h : LwSt w kind first A l n c data W) => (rbytes_any kind first A l n c data W h.2 hn hm hmay).mono (fun e w' he => (⟨by rw [he.1, hS], lwst_step h he.2⟩ : e = .returned (.string S) ∧ LwSt w kind first A l n c data w')))
  clear hg hm hm2 hT hE hmay hz hS
  have HWK := Lib.hid (fun (W : World) (h : LwSt w kind first A l n c data W) => (works_any W).mono (fun e w' he => (⟨he.1, lwst_step h he.2⟩ : e = .returned (.bool true) ∧ LwSt w kind first A l n c data w')))
  have HGR := Lib.hid (fun (W : World) (h : LwSt w kind first A l n c data W) => (great_any kind first A l n c data W h.2 hn).mono (fun e w' he => (⟨he.1, lwst_step h he.2⟩ : e = .returned (.bool (greatB l data)) ∧ LwSt w kind first A l n c data w')))
  have HST := Lib.hid (lwst_new (kind := kind) (first := first) (n := n) (c := c) (data := data) hC)
  clear hC hn
  go_enter Tryd.func4, Tryd.ntmps4
  obtain ⟨c0, c1, c2, c3⟩ := cell4 HST.out.1.1
  go_wp2_with fail
  refine (HWK.out _ HST.out).mono ?_
  rintro e wa ⟨rfl, hb⟩
  have HSA := Lib.hid hb
  clear hb c0 c1 c2 c3 HWK HST
  obtain ⟨c0, c1, c2, c3⟩ := cell4 HSA.out.1.1
  go_wp2_with fail
  refine (HGR.out _ HSA.out).mono ?_
  rintro e wb ⟨rfl, hb⟩
  have HSB := Lib.hid hb
  clear hb c0 c1 c2 c3 HGR HSA
  obtain ⟨c0, c1, c2, c3⟩ := cell4 HSB.out.1.1
  rw [HG.out]
  go_wp2_with fail
  refine (HPT.out _ HSB.out).mono ?_
  rintro e wc ⟨rfl, hb⟩
  have HSC := Lib.hid hb
  clear hb c0 c1 c2 c3 HPT HSB
  obtain ⟨c0, c1, c2, c3⟩ := cell4 HSC.out.1.1
  go_wp2_with fail
  refine (HRP.out _ HSC.out).mono ?_
  rintro e wd ⟨rfl, hb⟩
  have HSD := Lib.hid hb
  clear hb c0 c1 c2 c3 HRP HSC
  obtain ⟨c0, c1, c2, c3⟩ := cell4 HSD.out.1.1
  go_wp2_with fail
  refine (HMY.out _ HSD.out).mono ?_
  rintro e we ⟨rfl, hb⟩
  have HSE := Lib.hid hb
  clear hb c0 c1 c2 c3 HMY HSD
  obtain ⟨c0, c1, c2, c3⟩ := cell4 HSE.out.1.1
  go_wp2_with fail
  refine (HBY.out _ HSE.out).mono ?_
  rintro e wf ⟨rfl, hb⟩
  have HSF := Lib.hid hb
  clear hb c0 c1 c2 c3 HBY HSE
  obtain ⟨c0, c1, c2, c3⟩ := cell4 HSF.out.1.1
  go_wp2_with fail
  refine (HSZ.out _ HSF.out).mono ?_
  rintro e wg ⟨rfl, hb⟩
  have HSG := Lib.hid hb
  clear hb c0 c1 c2 c3 HSZ HSF
  obtain ⟨c0, c1, c2, c3⟩ := cell4 HSG.out.1.1
  go_wp2
  go_ret
  exact ⟨rfl, HSG.out.1.2⟩
theorem nodePuts_walk (a0 b0 : Int) (A0 : Option Addr) (l0 : List Cl) (n0 k0_ : Nat) (d0 : ByteArray) (wa0 : (Lit.int .u8 a0).wf = true) (wb0 : (Lit.int .i64 b0).wf = true) (hn0 : n0 = l0.length) (hm0 : n0 ≤ maxLen) (hq0 : n0 ≤ k0_) (hx0 : ∀ x ∈ l0, FitC x) (wd0 : d0.size ≤ 140737488351232) (w : World) (I0 : Cls w w.heap.size A0 l0) :
    Calls Tryd.prog 4 #[.agg #[.int .u8 a0, .int .i64 b0, .slice A0 n0 k0_, .string d0]] w fun e w' => e = .returned (.bool true) ∧ Below w.heap.size w w' := by
  cases hg : greatB l0 d0
  case true => exact nputs_great a0 b0 A0 l0 n0 k0_ d0 w I0 hn0 hg
  cases hmay : mayB a0 b0 l0 d0
  case true => exact nputs_yes a0 b0 A0 l0 n0 k0_ d0 w I0 hn0 hg hmay
  case false => exact nputs_no a0 b0 A0 l0 n0 k0_ d0 w I0 hn0 hg hmay
end Go.Proofs.YticpenbebokjdaaDoor
