/- The law NodeRoom: the walk. Conditions: those of each lemma. -/
import Derived.Test.YticpenbebokjdaaDoorNd15
import Derived.Test.YticpenbebokjdaaDoorNd13
import Derived.Test.YticpenbebokjdaaDoorOpenNode
namespace Go.Proofs.YticpenbebokjdaaDoor
open Go.RowKit Go
set_option linter.unusedVariables false
set_option linter.unusedSimpArgs false
/-- the law's box, its cells still there -/
def LwSt (w : World) (kind first : Int) (A : Option Addr) (l : List Cl) (n c : Nat) (data : ByteArray) (W : World) : Prop := Nb w kind first A n c data W ∧ Cls W W.heap.size A l
theorem lwst_step {w W W' : World} {kind first : Int} {A : Option Addr} {l : List Cl} {n c : Nat} {data : ByteArray} (h : LwSt w kind first A l n c data W) (hb : Below W.heap.size W W') : LwSt w kind first A l n c data W' := ⟨nb_below h.1 hb, cls_step h.2 hb⟩
theorem lwst_new {w : World} {kind first : Int} {A : Option Addr} {l : List Cl} {n c : Nat} {data : ByteArray} (h : Cls w w.heap.size A l) : LwSt w kind first A l n c data (w.alloc (.cells #[.int .u8 kind, .int .i64 first, .slice A n c, .string data] 27)) := ⟨nb_new w kind first A n c data, cls_step h one_alloc⟩
theorem put_cases (kind first : Int) (l : List Cl) (data : ByteArray) : (sizeZ kind first l data = 0 ∧ (putN kind first l data).2 = 2) ∨ (512 < sizeZ kind first l data ∧ (putN kind first l data).2 = 8) ∨ (sizeZ kind first l data ≠ 0 ∧ sizeZ kind first l data ≤ 512 ∧ (putN kind first l data).2 = 0) := by
  unfold putN
  by_cases h0 : sizeZ kind first l data = 0
  · rw [if_pos h0]; exact .inl ⟨h0, rfl⟩
  · rw [if_neg h0]
    by_cases h1 : 512 < sizeZ kind first l data
    · rw [if_pos h1]; exact .inr (.inl ⟨h1, rfl⟩)
    · rw [if_neg h1]; exact .inr (.inr ⟨h0, by omega, rfl⟩)
set_option maxRecDepth 100000 in
set_option maxHeartbeats 8000000 in
theorem room_great (kind first : Int) (A : Option Addr) (l : List Cl) (n c : Nat) (data : ByteArray) (w : World) (hC : Cls w w.heap.size A l) (hn : n = l.length) (hm : n ≤ maxLen) (hg : greatB l data = true) :
    Calls Tryd.prog 7 #[.agg #[.int .u8 kind, .int .i64 first, .slice A n c, .string data]] w fun e w' => e = .returned (.bool true) ∧ Below w.heap.size w w' := by
  have HG := Lib.hid hg
  clear hg
  have HWK := Lib.hid (fun (W : World) (h : LwSt w kind first A l n c data W) => (works_any W).mono (fun e w' he => (⟨he.1, lwst_step h he.2⟩ : e = .returned (.bool true) ∧ LwSt w kind first A l n c data w')))
  have HGR := Lib.hid (fun (W : World) (h : LwSt w kind first A l n c data W) => (great_any kind first A l n c data W h.2 hn).mono (fun e w' he => (⟨he.1, lwst_step h he.2⟩ : e = .returned (.bool (greatB l data)) ∧ LwSt w kind first A l n c data w')))
  have HST := Lib.hid (lwst_new (kind := kind) (first := first) (n := n) (c := c) (data := data) hC)
  have HN := Lib.hid hn
  clear hC hn
  go_enter Tryd.func7, Tryd.ntmps7
  obtain ⟨c0, c1, c2, c3⟩ := cell4 HST.out.1.1
  go_wp2_with fail
  refine (HWK.out _ HST.out).mono ?_
  rintro e wa ⟨rfl, ha⟩
  have HSA := Lib.hid ha
  clear ha c0 c1 c2 c3 HWK HST
  obtain ⟨c0, c1, c2, c3⟩ := cell4 HSA.out.1.1
  go_wp2_with fail
  refine (HGR.out _ HSA.out).mono ?_
  rintro e wb ⟨rfl, hb⟩
  have HSB := Lib.hid hb
  clear hb c0 c1 c2 c3 HGR HSA
  obtain ⟨c0, c1, c2, c3⟩ := cell4 HSB.out.1.1
  rw [HG.out]
  go_wp2
  go_ret
  exact ⟨rfl, HSB.out.1.2⟩
set_option maxRecDepth 100000 in
set_option maxHeartbeats 8000000 in
theorem room_1sb (kind first : Int) (A : Option Addr) (l : List Cl) (n c : Nat) (data : ByteArray) (w : World) (hC : Cls w w.heap.size A l) (hn : n = l.length) (hm : n ≤ maxLen) (hk : kind = 1) (hl : (n : Int) ≤ 2) (hg : greatB l data = false) (hz : sizeZ kind first l data = 0) (hE : (putN kind first l data).2 = 2) :
    Calls Tryd.prog 7 #[.agg #[.int .u8 kind, .int .i64 first, .slice A n c, .string data]] w fun e w' => e = .returned (.bool true) ∧ Below w.heap.size w w' := by
  subst hk
  have hm' : greatB l data = false → n ≤ 1000000 := fun h => by have := (great_no h).1; omega
  have HG := Lib.hid hg
  obtain ⟨S, hS⟩ : ∃ S, (putN 1 first l data).1 = S := ⟨_, rfl⟩
  have HPT := Lib.hid (fun (W : World) (h : LwSt w 1 first A l n c data W) => (putN_any 1 first A l n c data W h.2 hn (hm' hg)).mono (fun e w' he => (⟨by rw [he.1, hS, hE], lwst_step h he.2⟩ : e = .returned (.tuple #[.string S, .int .i64 2]) ∧ LwSt w 1 first A l n c data w')))
  have HSZ := Lib.hid (fun (W : World) (h : LwSt w 1 first A l n c data W) => (size_any 1 first A l n c data W h.2 hn (hm' hg)).mono (fun e w' he => (⟨by rw [he.1, hz], lwst_step h he.2⟩ : e = .returned (.int .i64 0) ∧ LwSt w 1 first A l n c data w')))
  have HM := Lib.hid hm
  clear hg hS hz hE hm' hm
  have HWK := Lib.hid (fun (W : World) (h : LwSt w 1 first A l n c data W) => (works_any W).mono (fun e w' he => (⟨he.1, lwst_step h he.2⟩ : e = .returned (.bool true) ∧ LwSt w 1 first A l n c data w')))
  have HGR := Lib.hid (fun (W : World) (h : LwSt w 1 first A l n c data W) => (great_any 1 first A l n c data W h.2 hn).mono (fun e w' he => (⟨he.1, lwst_step h he.2⟩ : e = .returned (.bool (greatB l data)) ∧ LwSt w 1 first A l n c data w')))
  have HST := Lib.hid (lwst_new (kind := 1) (first := first) (n := n) (c := c) (data := data) hC)
  have HN := Lib.hid hn
  clear hC hn
  go_enter Tryd.func7, Tryd.ntmps7
  obtain ⟨c0, c1, c2, c3⟩ := cell4 HST.out.1.1
  go_wp2_with fail
  refine (HWK.out _ HST.out).mono ?_
  rintro e wa ⟨rfl, ha⟩
  have HSA := Lib.hid ha
  clear ha c0 c1 c2 c3 HWK HST
  obtain ⟨c0, c1, c2, c3⟩ := cell4 HSA.out.1.1
  go_wp2_with fail
  refine (HGR.out _ HSA.out).mono ?_
  rintro e wb ⟨rfl, hb⟩
  have HSB := Lib.hid hb
  clear hb c0 c1 c2 c3 HGR HSA
  obtain ⟨c0, c1, c2, c3⟩ := cell4 HSB.out.1.1
  rw [HG.out]
  go_wp2_with fail
  refine (HPT.out _ HSB.out).mono ?_
  rintro e wc ⟨rfl, hc⟩
  have HSC := Lib.hid hc
  clear hc c0 c1 c2 c3 HPT HSB
  obtain ⟨c0, c1, c2, c3⟩ := cell4 HSC.out.1.1
  go_wp2_with fail
  refine (HSZ.out _ HSC.out).mono ?_
  rintro e wd ⟨rfl, hd⟩
  have HSD := Lib.hid hd.1.2
  clear hd c0 c1 c2 c3 HSZ HSC
  go_wp2
  go_ret
  exact ⟨rfl, HSD.out⟩
set_option maxRecDepth 100000 in
set_option maxHeartbeats 8000000 in
theorem room_1sg (kind first : Int) (A : Option Addr) (l : List Cl) (n c : Nat) (data : ByteArray) (w : World) (hC : Cls w w.heap.size A l) (hn : n = l.length) (hm : n ≤ maxLen) (hk : kind = 1) (hl : (n : Int) ≤ 2) (hg : greatB l data = false) (z : Int) (hz : sizeZ kind first l data = z) (hzz : ¬ 512 < z) (hE : (putN kind first l data).2 = 0) :
    Calls Tryd.prog 7 #[.agg #[.int .u8 kind, .int .i64 first, .slice A n c, .string data]] w fun e w' => e = .returned (.bool true) ∧ Below w.heap.size w w' := by
  subst hk
  have hm' : greatB l data = false → n ≤ 1000000 := fun h => by have := (great_no h).1; omega
  have HG := Lib.hid hg
  obtain ⟨S, hS⟩ : ∃ S, (putN 1 first l data).1 = S := ⟨_, rfl⟩
  have HPT := Lib.hid (fun (W : World) (h : LwSt w 1 first A l n c data W) => (putN_any 1 first A l n c data W h.2 hn (hm' hg)).mono (fun e w' he => (⟨by rw [he.1, hS, hE], lwst_step h he.2⟩ : e = .returned (.tuple #[.string S, .int .i64 0]) ∧ LwSt w 1 first A l n c data w')))
  have HSZ := Lib.hid (fun (W : World) (h : LwSt w 1 first A l n c data W) => (size_any 1 first A l n c data W h.2 hn (hm' hg)).mono (fun e w' he => (⟨by rw [he.1, hz], lwst_step h he.2⟩ : e = .returned (.int .i64 z) ∧ LwSt w 1 first A l n c data w')))
  have HM := Lib.hid hm
  clear hg hS hz hE hm' hm
  have hzz' := decide_eq_false hzz
  clear hzz
  have HWK := Lib.hid (fun (W : World) (h : LwSt w 1 first A l n c data W) => (works_any W).mono (fun e w' he => (⟨he.1, lwst_step h he.2⟩ : e = .returned (.bool true) ∧ LwSt w 1 first A l n c data w')))
  have HGR := Lib.hid (fun (W : World) (h : LwSt w 1 first A l n c data W) => (great_any 1 first A l n c data W h.2 hn).mono (fun e w' he => (⟨he.1, lwst_step h he.2⟩ : e = .returned (.bool (greatB l data)) ∧ LwSt w 1 first A l n c data w')))
  have HST := Lib.hid (lwst_new (kind := 1) (first := first) (n := n) (c := c) (data := data) hC)
  have HN := Lib.hid hn
  clear hC hn
  go_enter Tryd.func7, Tryd.ntmps7
  obtain ⟨c0, c1, c2, c3⟩ := cell4 HST.out.1.1
  go_wp2_with fail
  refine (HWK.out _ HST.out).mono ?_
  rintro e wa ⟨rfl, ha⟩
  have HSA := Lib.hid ha
  clear ha c0 c1 c2 c3 HWK HST
  obtain ⟨c0, c1, c2, c3⟩ := cell4 HSA.out.1.1
  go_wp2_with fail
  refine (HGR.out _ HSA.out).mono ?_
  rintro e wb ⟨rfl, hb⟩
  have HSB := Lib.hid hb
  clear hb c0 c1 c2 c3 HGR HSA
  obtain ⟨c0, c1, c2, c3⟩ := cell4 HSB.out.1.1
  rw [HG.out]
  go_wp2_with fail
  refine (HPT.out _ HSB.out).mono ?_
  rintro e wc ⟨rfl, hc⟩
  have HSC := Lib.hid hc
  clear hc c0 c1 c2 c3 HPT HSB
  obtain ⟨c0, c1, c2, c3⟩ := cell4 HSC.out.1.1
  go_wp2
  go_ret
  exact ⟨rfl, HSC.out.1.2⟩
set_option maxRecDepth 100000 in
set_option maxHeartbeats 8000000 in
theorem room_1lb (kind first : Int) (A : Option Addr) (l : List Cl) (n c : Nat) (data : ByteArray) (w : World) (hC : Cls w w.heap.size A l) (hn : n = l.length) (hm : n ≤ maxLen) (hk : kind = 1) (hl : ¬ (n : Int) ≤ 2) (hg : greatB l data = false) (hz : sizeZ kind first l data = 0) (hE : (putN kind first l data).2 = 2) :
    Calls Tryd.prog 7 #[.agg #[.int .u8 kind, .int .i64 first, .slice A n c, .string data]] w fun e w' => e = .returned (.bool true) ∧ Below w.heap.size w w' := by
  subst hk
  have hl' := decide_eq_false hl
  clear hl
  have hm' : greatB l data = false → n ≤ 1000000 := fun h => by have := (great_no h).1; omega
  have HG := Lib.hid hg
  obtain ⟨S, hS⟩ : ∃ S, (putN 1 first l data).1 = S := ⟨_, rfl⟩
  have HPT := Lib.hid (fun (W : World) (h : LwSt w 1 first A l n c data W) => (putN_any 1 first A l n c data W h.2 hn (hm' hg)).mono (fun e w' he => (⟨by rw [he.1, hS, hE], lwst_step h he.2⟩ : e = .returned (.tuple #[.string S, .int .i64 2]) ∧ LwSt w 1 first A l n c data w')))
  have HSZ := Lib.hid (fun (W : World) (h : LwSt w 1 first A l n c data W) => (size_any 1 first A l n c data W h.2 hn (hm' hg)).mono (fun e w' he => (⟨by rw [he.1, hz], lwst_step h he.2⟩ : e = .returned (.int .i64 0) ∧ LwSt w 1 first A l n c data w')))
  have HM := Lib.hid hm
  clear hg hS hz hE hm' hm
  have HWK := Lib.hid (fun (W : World) (h : LwSt w 1 first A l n c data W) => (works_any W).mono (fun e w' he => (⟨he.1, lwst_step h he.2⟩ : e = .returned (.bool true) ∧ LwSt w 1 first A l n c data w')))
  have HGR := Lib.hid (fun (W : World) (h : LwSt w 1 first A l n c data W) => (great_any 1 first A l n c data W h.2 hn).mono (fun e w' he => (⟨he.1, lwst_step h he.2⟩ : e = .returned (.bool (greatB l data)) ∧ LwSt w 1 first A l n c data w')))
  have HST := Lib.hid (lwst_new (kind := 1) (first := first) (n := n) (c := c) (data := data) hC)
  have HN := Lib.hid hn
  clear hC hn
  go_enter Tryd.func7, Tryd.ntmps7
  obtain ⟨c0, c1, c2, c3⟩ := cell4 HST.out.1.1
  go_wp2_with fail
  refine (HWK.out _ HST.out).mono ?_
  rintro e wa ⟨rfl, ha⟩
  have HSA := Lib.hid ha
  clear ha c0 c1 c2 c3 HWK HST
  obtain ⟨c0, c1, c2, c3⟩ := cell4 HSA.out.1.1
  go_wp2_with fail
  refine (HGR.out _ HSA.out).mono ?_
  rintro e wb ⟨rfl, hb⟩
  have HSB := Lib.hid hb
  clear hb c0 c1 c2 c3 HGR HSA
  obtain ⟨c0, c1, c2, c3⟩ := cell4 HSB.out.1.1
  rw [HG.out]
  go_wp2_with fail
  refine (HPT.out _ HSB.out).mono ?_
  rintro e wc ⟨rfl, hc⟩
  have HSC := Lib.hid hc
  clear hc c0 c1 c2 c3 HPT HSB
  obtain ⟨c0, c1, c2, c3⟩ := cell4 HSC.out.1.1
  go_wp2_with fail
  refine (HSZ.out _ HSC.out).mono ?_
  rintro e wd ⟨rfl, hd⟩
  have HSD := Lib.hid hd.1.2
  clear hd c0 c1 c2 c3 HSZ HSC
  go_wp2
  go_ret
  exact ⟨rfl, HSD.out⟩
set_option maxRecDepth 100000 in
set_option maxHeartbeats 8000000 in
theorem room_1lf (kind first : Int) (A : Option Addr) (l : List Cl) (n c : Nat) (data : ByteArray) (w : World) (hC : Cls w w.heap.size A l) (hn : n = l.length) (hm : n ≤ maxLen) (hk : kind = 1) (hl : ¬ (n : Int) ≤ 2) (hg : greatB l data = false) (z : Int) (hz : sizeZ kind first l data = z) (hzz : 512 < z) (hE : (putN kind first l data).2 = 8) :
    Calls Tryd.prog 7 #[.agg #[.int .u8 kind, .int .i64 first, .slice A n c, .string data]] w fun e w' => e = .returned (.bool true) ∧ Below w.heap.size w w' := by
  subst hk
  have hl' := decide_eq_false hl
  clear hl
  have hm' : greatB l data = false → n ≤ 1000000 := fun h => by have := (great_no h).1; omega
  have HG := Lib.hid hg
  obtain ⟨S, hS⟩ : ∃ S, (putN 1 first l data).1 = S := ⟨_, rfl⟩
  have HPT := Lib.hid (fun (W : World) (h : LwSt w 1 first A l n c data W) => (putN_any 1 first A l n c data W h.2 hn (hm' hg)).mono (fun e w' he => (⟨by rw [he.1, hS, hE], lwst_step h he.2⟩ : e = .returned (.tuple #[.string S, .int .i64 8]) ∧ LwSt w 1 first A l n c data w')))
  have HSZ := Lib.hid (fun (W : World) (h : LwSt w 1 first A l n c data W) => (size_any 1 first A l n c data W h.2 hn (hm' hg)).mono (fun e w' he => (⟨by rw [he.1, hz], lwst_step h he.2⟩ : e = .returned (.int .i64 z) ∧ LwSt w 1 first A l n c data w')))
  have HM := Lib.hid hm
  clear hg hS hz hE hm' hm
  have HWK := Lib.hid (fun (W : World) (h : LwSt w 1 first A l n c data W) => (works_any W).mono (fun e w' he => (⟨he.1, lwst_step h he.2⟩ : e = .returned (.bool true) ∧ LwSt w 1 first A l n c data w')))
  have HGR := Lib.hid (fun (W : World) (h : LwSt w 1 first A l n c data W) => (great_any 1 first A l n c data W h.2 hn).mono (fun e w' he => (⟨he.1, lwst_step h he.2⟩ : e = .returned (.bool (greatB l data)) ∧ LwSt w 1 first A l n c data w')))
  have HST := Lib.hid (lwst_new (kind := 1) (first := first) (n := n) (c := c) (data := data) hC)
  have HN := Lib.hid hn
  clear hC hn
  go_enter Tryd.func7, Tryd.ntmps7
  obtain ⟨c0, c1, c2, c3⟩ := cell4 HST.out.1.1
  go_wp2_with fail
  refine (HWK.out _ HST.out).mono ?_
  rintro e wa ⟨rfl, ha⟩
  have HSA := Lib.hid ha
  clear ha c0 c1 c2 c3 HWK HST
  obtain ⟨c0, c1, c2, c3⟩ := cell4 HSA.out.1.1
  go_wp2_with fail
  refine (HGR.out _ HSA.out).mono ?_
  rintro e wb ⟨rfl, hb⟩
  have HSB := Lib.hid hb
  clear hb c0 c1 c2 c3 HGR HSA
  obtain ⟨c0, c1, c2, c3⟩ := cell4 HSB.out.1.1
  rw [HG.out]
  go_wp2_with fail
  refine (HPT.out _ HSB.out).mono ?_
  rintro e wc ⟨rfl, hc⟩
  have HSC := Lib.hid hc
  clear hc c0 c1 c2 c3 HPT HSB
  obtain ⟨c0, c1, c2, c3⟩ := cell4 HSC.out.1.1
  go_wp2_with fail
  refine (HSZ.out _ HSC.out).mono ?_
  rintro e wd ⟨rfl, hd⟩
  have HSD := Lib.hid hd.1.2
  clear hd c0 c1 c2 c3 HSZ HSC
  go_wp2
  go_ret
  exact ⟨rfl, HSD.out⟩
set_option maxRecDepth 100000 in
set_option maxHeartbeats 8000000 in
theorem room_1lg (kind first : Int) (A : Option Addr) (l : List Cl) (n c : Nat) (data : ByteArray) (w : World) (hC : Cls w w.heap.size A l) (hn : n = l.length) (hm : n ≤ maxLen) (hk : kind = 1) (hl : ¬ (n : Int) ≤ 2) (hg : greatB l data = false) (z : Int) (hz : sizeZ kind first l data = z) (hzz : ¬ 512 < z) (hE : (putN kind first l data).2 = 0) :
    Calls Tryd.prog 7 #[.agg #[.int .u8 kind, .int .i64 first, .slice A n c, .string data]] w fun e w' => e = .returned (.bool true) ∧ Below w.heap.size w w' := by
  subst hk
  have hl' := decide_eq_false hl
  clear hl
  have hm' : greatB l data = false → n ≤ 1000000 := fun h => by have := (great_no h).1; omega
  have HG := Lib.hid hg
  obtain ⟨S, hS⟩ : ∃ S, (putN 1 first l data).1 = S := ⟨_, rfl⟩
  have HPT := Lib.hid (fun (W : World) (h : LwSt w 1 first A l n c data W) => (putN_any 1 first A l n c data W h.2 hn (hm' hg)).mono (fun e w' he => (⟨by rw [he.1, hS, hE], lwst_step h he.2⟩ : e = .returned (.tuple #[.string S, .int .i64 0]) ∧ LwSt w 1 first A l n c data w')))
  have HSZ := Lib.hid (fun (W : World) (h : LwSt w 1 first A l n c data W) => (size_any 1 first A l n c data W h.2 hn (hm' hg)).mono (fun e w' he => (⟨by rw [he.1, hz], lwst_step h he.2⟩ : e = .returned (.int .i64 z) ∧ LwSt w 1 first A l n c data w')))
  have HM := Lib.hid hm
  clear hg hS hz hE hm' hm
  have hzz' := decide_eq_false hzz
  clear hzz
  have HWK := Lib.hid (fun (W : World) (h : LwSt w 1 first A l n c data W) => (works_any W).mono (fun e w' he => (⟨he.1, lwst_step h he.2⟩ : e = .returned (.bool true) ∧ LwSt w 1 first A l n c data w')))
  have HGR := Lib.hid (fun (W : World) (h : LwSt w 1 first A l n c data W) => (great_any 1 first A l n c data W h.2 hn).mono (fun e w' he => (⟨he.1, lwst_step h he.2⟩ : e = .returned (.bool (greatB l data)) ∧ LwSt w 1 first A l n c data w')))
  have HST := Lib.hid (lwst_new (kind := 1) (first := first) (n := n) (c := c) (data := data) hC)
  have HN := Lib.hid hn
  clear hC hn
  go_enter Tryd.func7, Tryd.ntmps7
  obtain ⟨c0, c1, c2, c3⟩ := cell4 HST.out.1.1
  go_wp2_with fail
  refine (HWK.out _ HST.out).mono ?_
  rintro e wa ⟨rfl, ha⟩
  have HSA := Lib.hid ha
  clear ha c0 c1 c2 c3 HWK HST
  obtain ⟨c0, c1, c2, c3⟩ := cell4 HSA.out.1.1
  go_wp2_with fail
  refine (HGR.out _ HSA.out).mono ?_
  rintro e wb ⟨rfl, hb⟩
  have HSB := Lib.hid hb
  clear hb c0 c1 c2 c3 HGR HSA
  obtain ⟨c0, c1, c2, c3⟩ := cell4 HSB.out.1.1
  rw [HG.out]
  go_wp2_with fail
  refine (HPT.out _ HSB.out).mono ?_
  rintro e wc ⟨rfl, hc⟩
  have HSC := Lib.hid hc
  clear hc c0 c1 c2 c3 HPT HSB
  obtain ⟨c0, c1, c2, c3⟩ := cell4 HSC.out.1.1
  go_wp2_with fail
  refine (HSZ.out _ HSC.out).mono ?_
  rintro e wd ⟨rfl, hd⟩
  have HSD := Lib.hid hd.1.2
  clear hd c0 c1 c2 c3 HSZ HSC
  go_wp2
  go_ret
  exact ⟨rfl, HSD.out⟩
set_option maxRecDepth 100000 in
set_option maxHeartbeats 8000000 in
theorem room_2sb (kind first : Int) (A : Option Addr) (l : List Cl) (n c : Nat) (data : ByteArray) (w : World) (hC : Cls w w.heap.size A l) (hn : n = l.length) (hm : n ≤ maxLen) (hk : kind = 2) (hl : (n : Int) ≤ 4) (hg : greatB l data = false) (hz : sizeZ kind first l data = 0) (hE : (putN kind first l data).2 = 2) :
    Calls Tryd.prog 7 #[.agg #[.int .u8 kind, .int .i64 first, .slice A n c, .string data]] w fun e w' => e = .returned (.bool true) ∧ Below w.heap.size w w' := by
  subst hk
  have hm' : greatB l data = false → n ≤ 1000000 := fun h => by have := (great_no h).1; omega
  have HG := Lib.hid hg
  obtain ⟨S, hS⟩ : ∃ S, (putN 2 first l data).1 = S := ⟨_, rfl⟩
  have HPT := Lib.hid (fun (W : World) (h : LwSt w 2 first A l n c data W) => (putN_any 2 first A l n c data W h.2 hn (hm' hg)).mono (fun e w' he => (⟨by rw [he.1, hS, hE], lwst_step h he.2⟩ : e = .returned (.tuple #[.string S, .int .i64 2]) ∧ LwSt w 2 first A l n c data w')))
  have HSZ := Lib.hid (fun (W : World) (h : LwSt w 2 first A l n c data W) => (size_any 2 first A l n c data W h.2 hn (hm' hg)).mono (fun e w' he => (⟨by rw [he.1, hz], lwst_step h he.2⟩ : e = .returned (.int .i64 0) ∧ LwSt w 2 first A l n c data w')))
  have HM := Lib.hid hm
  clear hg hS hz hE hm' hm
  have HWK := Lib.hid (fun (W : World) (h : LwSt w 2 first A l n c data W) => (works_any W).mono (fun e w' he => (⟨he.1, lwst_step h he.2⟩ : e = .returned (.bool true) ∧ LwSt w 2 first A l n c data w')))
  have HGR := Lib.hid (fun (W : World) (h : LwSt w 2 first A l n c data W) => (great_any 2 first A l n c data W h.2 hn).mono (fun e w' he => (⟨he.1, lwst_step h he.2⟩ : e = .returned (.bool (greatB l data)) ∧ LwSt w 2 first A l n c data w')))
  have HST := Lib.hid (lwst_new (kind := 2) (first := first) (n := n) (c := c) (data := data) hC)
  have HN := Lib.hid hn
  clear hC hn
  go_enter Tryd.func7, Tryd.ntmps7
  obtain ⟨c0, c1, c2, c3⟩ := cell4 HST.out.1.1
  go_wp2_with fail
  refine (HWK.out _ HST.out).mono ?_
  rintro e wa ⟨rfl, ha⟩
  have HSA := Lib.hid ha
  clear ha c0 c1 c2 c3 HWK HST
  obtain ⟨c0, c1, c2, c3⟩ := cell4 HSA.out.1.1
  go_wp2_with fail
  refine (HGR.out _ HSA.out).mono ?_
  rintro e wb ⟨rfl, hb⟩
  have HSB := Lib.hid hb
  clear hb c0 c1 c2 c3 HGR HSA
  obtain ⟨c0, c1, c2, c3⟩ := cell4 HSB.out.1.1
  rw [HG.out]
  go_wp2_with fail
  refine (HPT.out _ HSB.out).mono ?_
  rintro e wc ⟨rfl, hc⟩
  have HSC := Lib.hid hc
  clear hc c0 c1 c2 c3 HPT HSB
  obtain ⟨c0, c1, c2, c3⟩ := cell4 HSC.out.1.1
  go_wp2_with fail
  refine (HSZ.out _ HSC.out).mono ?_
  rintro e wd ⟨rfl, hd⟩
  have HSD := Lib.hid hd.1.2
  clear hd c0 c1 c2 c3 HSZ HSC
  go_wp2
  go_ret
  exact ⟨rfl, HSD.out⟩
set_option maxRecDepth 100000 in
set_option maxHeartbeats 8000000 in
theorem room_2sg (kind first : Int) (A : Option Addr) (l : List Cl) (n c : Nat) (data : ByteArray) (w : World) (hC : Cls w w.heap.size A l) (hn : n = l.length) (hm : n ≤ maxLen) (hk : kind = 2) (hl : (n : Int) ≤ 4) (hg : greatB l data = false) (z : Int) (hz : sizeZ kind first l data = z) (hzz : ¬ 512 < z) (hE : (putN kind first l data).2 = 0) :
    Calls Tryd.prog 7 #[.agg #[.int .u8 kind, .int .i64 first, .slice A n c, .string data]] w fun e w' => e = .returned (.bool true) ∧ Below w.heap.size w w' := by
  subst hk
  have hm' : greatB l data = false → n ≤ 1000000 := fun h => by have := (great_no h).1; omega
  have HG := Lib.hid hg
  obtain ⟨S, hS⟩ : ∃ S, (putN 2 first l data).1 = S := ⟨_, rfl⟩
  have HPT := Lib.hid (fun (W : World) (h : LwSt w 2 first A l n c data W) => (putN_any 2 first A l n c data W h.2 hn (hm' hg)).mono (fun e w' he => (⟨by rw [he.1, hS, hE], lwst_step h he.2⟩ : e = .returned (.tuple #[.string S, .int .i64 0]) ∧ LwSt w 2 first A l n c data w')))
  have HSZ := Lib.hid (fun (W : World) (h : LwSt w 2 first A l n c data W) => (size_any 2 first A l n c data W h.2 hn (hm' hg)).mono (fun e w' he => (⟨by rw [he.1, hz], lwst_step h he.2⟩ : e = .returned (.int .i64 z) ∧ LwSt w 2 first A l n c data w')))
  have HM := Lib.hid hm
  clear hg hS hz hE hm' hm
  have hzz' := decide_eq_false hzz
  clear hzz
  have HWK := Lib.hid (fun (W : World) (h : LwSt w 2 first A l n c data W) => (works_any W).mono (fun e w' he => (⟨he.1, lwst_step h he.2⟩ : e = .returned (.bool true) ∧ LwSt w 2 first A l n c data w')))
  have HGR := Lib.hid (fun (W : World) (h : LwSt w 2 first A l n c data W) => (great_any 2 first A l n c data W h.2 hn).mono (fun e w' he => (⟨he.1, lwst_step h he.2⟩ : e = .returned (.bool (greatB l data)) ∧ LwSt w 2 first A l n c data w')))
  have HST := Lib.hid (lwst_new (kind := 2) (first := first) (n := n) (c := c) (data := data) hC)
  have HN := Lib.hid hn
  clear hC hn
  go_enter Tryd.func7, Tryd.ntmps7
  obtain ⟨c0, c1, c2, c3⟩ := cell4 HST.out.1.1
  go_wp2_with fail
  refine (HWK.out _ HST.out).mono ?_
  rintro e wa ⟨rfl, ha⟩
  have HSA := Lib.hid ha
  clear ha c0 c1 c2 c3 HWK HST
  obtain ⟨c0, c1, c2, c3⟩ := cell4 HSA.out.1.1
  go_wp2_with fail
  refine (HGR.out _ HSA.out).mono ?_
  rintro e wb ⟨rfl, hb⟩
  have HSB := Lib.hid hb
  clear hb c0 c1 c2 c3 HGR HSA
  obtain ⟨c0, c1, c2, c3⟩ := cell4 HSB.out.1.1
  rw [HG.out]
  go_wp2_with fail
  refine (HPT.out _ HSB.out).mono ?_
  rintro e wc ⟨rfl, hc⟩
  have HSC := Lib.hid hc
  clear hc c0 c1 c2 c3 HPT HSB
  obtain ⟨c0, c1, c2, c3⟩ := cell4 HSC.out.1.1
  go_wp2
  go_ret
  exact ⟨rfl, HSC.out.1.2⟩
set_option maxRecDepth 100000 in
set_option maxHeartbeats 8000000 in
theorem room_2lb (kind first : Int) (A : Option Addr) (l : List Cl) (n c : Nat) (data : ByteArray) (w : World) (hC : Cls w w.heap.size A l) (hn : n = l.length) (hm : n ≤ maxLen) (hk : kind = 2) (hl : ¬ (n : Int) ≤ 4) (hg : greatB l data = false) (hz : sizeZ kind first l data = 0) (hE : (putN kind first l data).2 = 2) :
    Calls Tryd.prog 7 #[.agg #[.int .u8 kind, .int .i64 first, .slice A n c, .string data]] w fun e w' => e = .returned (.bool true) ∧ Below w.heap.size w w' := by
  subst hk
  have hl' := decide_eq_false hl
  clear hl
  have hm' : greatB l data = false → n ≤ 1000000 := fun h => by have := (great_no h).1; omega
  have HG := Lib.hid hg
  obtain ⟨S, hS⟩ : ∃ S, (putN 2 first l data).1 = S := ⟨_, rfl⟩
  have HPT := Lib.hid (fun (W : World) (h : LwSt w 2 first A l n c data W) => (putN_any 2 first A l n c data W h.2 hn (hm' hg)).mono (fun e w' he => (⟨by rw [he.1, hS, hE], lwst_step h he.2⟩ : e = .returned (.tuple #[.string S, .int .i64 2]) ∧ LwSt w 2 first A l n c data w')))
  have HSZ := Lib.hid (fun (W : World) (h : LwSt w 2 first A l n c data W) => (size_any 2 first A l n c data W h.2 hn (hm' hg)).mono (fun e w' he => (⟨by rw [he.1, hz], lwst_step h he.2⟩ : e = .returned (.int .i64 0) ∧ LwSt w 2 first A l n c data w')))
  have HM := Lib.hid hm
  clear hg hS hz hE hm' hm
  have HWK := Lib.hid (fun (W : World) (h : LwSt w 2 first A l n c data W) => (works_any W).mono (fun e w' he => (⟨he.1, lwst_step h he.2⟩ : e = .returned (.bool true) ∧ LwSt w 2 first A l n c data w')))
  have HGR := Lib.hid (fun (W : World) (h : LwSt w 2 first A l n c data W) => (great_any 2 first A l n c data W h.2 hn).mono (fun e w' he => (⟨he.1, lwst_step h he.2⟩ : e = .returned (.bool (greatB l data)) ∧ LwSt w 2 first A l n c data w')))
  have HST := Lib.hid (lwst_new (kind := 2) (first := first) (n := n) (c := c) (data := data) hC)
  have HN := Lib.hid hn
  clear hC hn
  go_enter Tryd.func7, Tryd.ntmps7
  obtain ⟨c0, c1, c2, c3⟩ := cell4 HST.out.1.1
  go_wp2_with fail
  refine (HWK.out _ HST.out).mono ?_
  rintro e wa ⟨rfl, ha⟩
  have HSA := Lib.hid ha
  clear ha c0 c1 c2 c3 HWK HST
  obtain ⟨c0, c1, c2, c3⟩ := cell4 HSA.out.1.1
  go_wp2_with fail
  refine (HGR.out _ HSA.out).mono ?_
  rintro e wb ⟨rfl, hb⟩
  have HSB := Lib.hid hb
  clear hb c0 c1 c2 c3 HGR HSA
  obtain ⟨c0, c1, c2, c3⟩ := cell4 HSB.out.1.1
  rw [HG.out]
  go_wp2_with fail
  refine (HPT.out _ HSB.out).mono ?_
  rintro e wc ⟨rfl, hc⟩
  have HSC := Lib.hid hc
  clear hc c0 c1 c2 c3 HPT HSB
  obtain ⟨c0, c1, c2, c3⟩ := cell4 HSC.out.1.1
  go_wp2_with fail
  refine (HSZ.out _ HSC.out).mono ?_
  rintro e wd ⟨rfl, hd⟩
  have HSD := Lib.hid hd.1.2
  clear hd c0 c1 c2 c3 HSZ HSC
  go_wp2
  go_ret
  exact ⟨rfl, HSD.out⟩
set_option maxRecDepth 100000 in
set_option maxHeartbeats 8000000 in
theorem room_2lf (kind first : Int) (A : Option Addr) (l : List Cl) (n c : Nat) (data : ByteArray) (w : World) (hC : Cls w w.heap.size A l) (hn : n = l.length) (hm : n ≤ maxLen) (hk : kind = 2) (hl : ¬ (n : Int) ≤ 4) (hg : greatB l data = false) (z : Int) (hz : sizeZ kind first l data = z) (hzz : 512 < z) (hE : (putN kind first l data).2 = 8) :
    Calls Tryd.prog 7 #[.agg #[.int .u8 kind, .int .i64 first, .slice A n c, .string data]] w fun e w' => e = .returned (.bool true) ∧ Below w.heap.size w w' := by
  subst hk
  have hl' := decide_eq_false hl
  clear hl
  have hm' : greatB l data = false → n ≤ 1000000 := fun h => by have := (great_no h).1; omega
  have HG := Lib.hid hg
  obtain ⟨S, hS⟩ : ∃ S, (putN 2 first l data).1 = S := ⟨_, rfl⟩
  have HPT := Lib.hid (fun (W : World) (h : LwSt w 2 first A l n c data W) => (putN_any 2 first A l n c data W h.2 hn (hm' hg)).mono (fun e w' he => (⟨by rw [he.1, hS, hE], lwst_step h he.2⟩ : e = .returned (.tuple #[.string S, .int .i64 8]) ∧ LwSt w 2 first A l n c data w')))
  have HSZ := Lib.hid (fun (W : World) (h : LwSt w 2 first A l n c data W) => (size_any 2 first A l n c data W h.2 hn (hm' hg)).mono (fun e w' he => (⟨by rw [he.1, hz], lwst_step h he.2⟩ : e = .returned (.int .i64 z) ∧ LwSt w 2 first A l n c data w')))
  have HM := Lib.hid hm
  clear hg hS hz hE hm' hm
  have HWK := Lib.hid (fun (W : World) (h : LwSt w 2 first A l n c data W) => (works_any W).mono (fun e w' he => (⟨he.1, lwst_step h he.2⟩ : e = .returned (.bool true) ∧ LwSt w 2 first A l n c data w')))
  have HGR := Lib.hid (fun (W : World) (h : LwSt w 2 first A l n c data W) => (great_any 2 first A l n c data W h.2 hn).mono (fun e w' he => (⟨he.1, lwst_step h he.2⟩ : e = .returned (.bool (greatB l data)) ∧ LwSt w 2 first A l n c data w')))
  have HST := Lib.hid (lwst_new (kind := 2) (first := first) (n := n) (c := c) (data := data) hC)
  have HN := Lib.hid hn
  clear hC hn
  go_enter Tryd.func7, Tryd.ntmps7
  obtain ⟨c0, c1, c2, c3⟩ := cell4 HST.out.1.1
  go_wp2_with fail
  refine (HWK.out _ HST.out).mono ?_
  rintro e wa ⟨rfl, ha⟩
  have HSA := Lib.hid ha
  clear ha c0 c1 c2 c3 HWK HST
  obtain ⟨c0, c1, c2, c3⟩ := cell4 HSA.out.1.1
  go_wp2_with fail
  refine (HGR.out _ HSA.out).mono ?_
  rintro e wb ⟨rfl, hb⟩
  have HSB := Lib.hid hb
  clear hb c0 c1 c2 c3 HGR HSA
  obtain ⟨c0, c1, c2, c3⟩ := cell4 HSB.out.1.1
  rw [HG.out]
  go_wp2_with fail
  refine (HPT.out _ HSB.out).mono ?_
  rintro e wc ⟨rfl, hc⟩
  have HSC := Lib.hid hc
  clear hc c0 c1 c2 c3 HPT HSB
  obtain ⟨c0, c1, c2, c3⟩ := cell4 HSC.out.1.1
  go_wp2_with fail
  refine (HSZ.out _ HSC.out).mono ?_
  rintro e wd ⟨rfl, hd⟩
  have HSD := Lib.hid hd.1.2
  clear hd c0 c1 c2 c3 HSZ HSC
  go_wp2
  go_ret
  exact ⟨rfl, HSD.out⟩
set_option maxRecDepth 100000 in
set_option maxHeartbeats 8000000 in
theorem room_2lg (kind first : Int) (A : Option Addr) (l : List Cl) (n c : Nat) (data : ByteArray) (w : World) (hC : Cls w w.heap.size A l) (hn : n = l.length) (hm : n ≤ maxLen) (hk : kind = 2) (hl : ¬ (n : Int) ≤ 4) (hg : greatB l data = false) (z : Int) (hz : sizeZ kind first l data = z) (hzz : ¬ 512 < z) (hE : (putN kind first l data).2 = 0) :
    Calls Tryd.prog 7 #[.agg #[.int .u8 kind, .int .i64 first, .slice A n c, .string data]] w fun e w' => e = .returned (.bool true) ∧ Below w.heap.size w w' := by
  subst hk
  have hl' := decide_eq_false hl
  clear hl
  have hm' : greatB l data = false → n ≤ 1000000 := fun h => by have := (great_no h).1; omega
  have HG := Lib.hid hg
  obtain ⟨S, hS⟩ : ∃ S, (putN 2 first l data).1 = S := ⟨_, rfl⟩
  have HPT := Lib.hid (fun (W : World) (h : LwSt w 2 first A l n c data W) => (putN_any 2 first A l n c data W h.2 hn (hm' hg)).mono (fun e w' he => (⟨by rw [he.1, hS, hE], lwst_step h he.2⟩ : e = .returned (.tuple #[.string S, .int .i64 0]) ∧ LwSt w 2 first A l n c data w')))
  have HSZ := Lib.hid (fun (W : World) (h : LwSt w 2 first A l n c data W) => (size_any 2 first A l n c data W h.2 hn (hm' hg)).mono (fun e w' he => (⟨by rw [he.1, hz], lwst_step h he.2⟩ : e = .returned (.int .i64 z) ∧ LwSt w 2 first A l n c data w')))
  have HM := Lib.hid hm
  clear hg hS hz hE hm' hm
  have hzz' := decide_eq_false hzz
  clear hzz
  have HWK := Lib.hid (fun (W : World) (h : LwSt w 2 first A l n c data W) => (works_any W).mono (fun e w' he => (⟨he.1, lwst_step h he.2⟩ : e = .returned (.bool true) ∧ LwSt w 2 first A l n c data w')))
  have HGR := Lib.hid (fun (W : World) (h : LwSt w 2 first A l n c data W) => (great_any 2 first A l n c data W h.2 hn).mono (fun e w' he => (⟨he.1, lwst_step h he.2⟩ : e = .returned (.bool (greatB l data)) ∧ LwSt w 2 first A l n c data w')))
  have HST := Lib.hid (lwst_new (kind := 2) (first := first) (n := n) (c := c) (data := data) hC)
  have HN := Lib.hid hn
  clear hC hn
  go_enter Tryd.func7, Tryd.ntmps7
  obtain ⟨c0, c1, c2, c3⟩ := cell4 HST.out.1.1
  go_wp2_with fail
  refine (HWK.out _ HST.out).mono ?_
  rintro e wa ⟨rfl, ha⟩
  have HSA := Lib.hid ha
  clear ha c0 c1 c2 c3 HWK HST
  obtain ⟨c0, c1, c2, c3⟩ := cell4 HSA.out.1.1
  go_wp2_with fail
  refine (HGR.out _ HSA.out).mono ?_
  rintro e wb ⟨rfl, hb⟩
  have HSB := Lib.hid hb
  clear hb c0 c1 c2 c3 HGR HSA
  obtain ⟨c0, c1, c2, c3⟩ := cell4 HSB.out.1.1
  rw [HG.out]
  go_wp2_with fail
  refine (HPT.out _ HSB.out).mono ?_
  rintro e wc ⟨rfl, hc⟩
  have HSC := Lib.hid hc
  clear hc c0 c1 c2 c3 HPT HSB
  obtain ⟨c0, c1, c2, c3⟩ := cell4 HSC.out.1.1
  go_wp2_with fail
  refine (HSZ.out _ HSC.out).mono ?_
  rintro e wd ⟨rfl, hd⟩
  have HSD := Lib.hid hd.1.2
  clear hd c0 c1 c2 c3 HSZ HSC
  go_wp2
  go_ret
  exact ⟨rfl, HSD.out⟩
set_option maxRecDepth 100000 in
set_option maxHeartbeats 8000000 in
theorem room_3b (kind first : Int) (A : Option Addr) (l : List Cl) (n c : Nat) (data : ByteArray) (w : World) (hC : Cls w w.heap.size A l) (hn : n = l.length) (hm : n ≤ maxLen) (hk : 2 < kind) (hg : greatB l data = false) (hz : sizeZ kind first l data = 0) (hE : (putN kind first l data).2 = 2) :
    Calls Tryd.prog 7 #[.agg #[.int .u8 kind, .int .i64 first, .slice A n c, .string data]] w fun e w' => e = .returned (.bool true) ∧ Below w.heap.size w w' := by
  have hk1 := beq_no' (show ¬ kind = 1 by omega)
  have hk2 := beq_no' (show ¬ kind = 2 by omega)
  have hm' : greatB l data = false → n ≤ 1000000 := fun h => by have := (great_no h).1; omega
  have HG := Lib.hid hg
  obtain ⟨S, hS⟩ : ∃ S, (putN kind first l data).1 = S := ⟨_, rfl⟩
  have HPT := Lib.hid (fun (W : World) (h : LwSt w kind first A l n c data W) => (putN_any kind first A l n c data W h.2 hn (hm' hg)).mono (fun e w' he => (⟨by rw [he.1, hS, hE], lwst_step h he.2⟩ : e = .returned (.tuple #[.string S, .int .i64 2]) ∧ LwSt w kind first A l n c data w')))
  have HSZ := Lib.hid (fun (W : World) (h : LwSt w kind first A l n c data W) => (size_any kind first A l n c data W h.2 hn (hm' hg)).mono (fun e w' he => (⟨by rw [he.1, hz], lwst_step h he.2⟩ : e = .returned (.int .i64 0) ∧ LwSt w kind first A l n c data w')))
  have HM := Lib.hid hm
  clear hg hS hz hE hm' hm
  have HWK := Lib.hid (fun (W : World) (h : LwSt w kind first A l n c data W) => (works_any W).mono (fun e w' he => (⟨he.1, lwst_step h he.2⟩ : e = .returned (.bool true) ∧ LwSt w kind first A l n c data w')))
  have HGR := Lib.hid (fun (W : World) (h : LwSt w kind first A l n c data W) => (great_any kind first A l n c data W h.2 hn).mono (fun e w' he => (⟨he.1, lwst_step h he.2⟩ : e = .returned (.bool (greatB l data)) ∧ LwSt w kind first A l n c data w')))
  have HST := Lib.hid (lwst_new (kind := kind) (first := first) (n := n) (c := c) (data := data) hC)
  have HN := Lib.hid hn
  clear hC hn
  go_enter Tryd.func7, Tryd.ntmps7
  obtain ⟨c0, c1, c2, c3⟩ := cell4 HST.out.1.1
  go_wp2_with fail
  refine (HWK.out _ HST.out).mono ?_
  rintro e wa ⟨rfl, ha⟩
  have HSA := Lib.hid ha
  clear ha c0 c1 c2 c3 HWK HST
  obtain ⟨c0, c1, c2, c3⟩ := cell4 HSA.out.1.1
  go_wp2_with fail
  refine (HGR.out _ HSA.out).mono ?_
  rintro e wb ⟨rfl, hb⟩
  have HSB := Lib.hid hb
  clear hb c0 c1 c2 c3 HGR HSA
  obtain ⟨c0, c1, c2, c3⟩ := cell4 HSB.out.1.1
  rw [HG.out]
  go_wp2_with fail
  refine (HPT.out _ HSB.out).mono ?_
  rintro e wc ⟨rfl, hc⟩
  have HSC := Lib.hid hc
  clear hc c0 c1 c2 c3 HPT HSB
  obtain ⟨c0, c1, c2, c3⟩ := cell4 HSC.out.1.1
  go_wp2_with fail
  refine (HSZ.out _ HSC.out).mono ?_
  rintro e wd ⟨rfl, hd⟩
  have HSD := Lib.hid hd.1.2
  clear hd c0 c1 c2 c3 HSZ HSC
  go_wp2
  go_ret
  exact ⟨rfl, HSD.out⟩
set_option maxRecDepth 100000 in
set_option maxHeartbeats 8000000 in
theorem room_3g (kind first : Int) (A : Option Addr) (l : List Cl) (n c : Nat) (data : ByteArray) (w : World) (hC : Cls w w.heap.size A l) (hn : n = l.length) (hm : n ≤ maxLen) (hk : 2 < kind) (hg : greatB l data = false) (z : Int) (hz : sizeZ kind first l data = z) (hzz : ¬ 512 < z) (hE : (putN kind first l data).2 = 0) :
    Calls Tryd.prog 7 #[.agg #[.int .u8 kind, .int .i64 first, .slice A n c, .string data]] w fun e w' => e = .returned (.bool true) ∧ Below w.heap.size w w' := by
  have hk1 := beq_no' (show ¬ kind = 1 by omega)
  have hk2 := beq_no' (show ¬ kind = 2 by omega)
  have hm' : greatB l data = false → n ≤ 1000000 := fun h => by have := (great_no h).1; omega
  have HG := Lib.hid hg
  obtain ⟨S, hS⟩ : ∃ S, (putN kind first l data).1 = S := ⟨_, rfl⟩
  have HPT := Lib.hid (fun (W : World) (h : LwSt w kind first A l n c data W) => (putN_any kind first A l n c data W h.2 hn (hm' hg)).mono (fun e w' he => (⟨by rw [he.1, hS, hE], lwst_step h he.2⟩ : e = .returned (.tuple #[.string S, .int .i64 0]) ∧ LwSt w kind first A l n c data w')))
  have HSZ := Lib.hid (fun (W : World) (h : LwSt w kind first A l n c data W) => (size_any kind first A l n c data W h.2 hn (hm' hg)).mono (fun e w' he => (⟨by rw [he.1, hz], lwst_step h he.2⟩ : e = .returned (.int .i64 z) ∧ LwSt w kind first A l n c data w')))
  have HM := Lib.hid hm
  clear hg hS hz hE hm' hm
  have hzz' := decide_eq_false hzz
  clear hzz
  have HWK := Lib.hid (fun (W : World) (h : LwSt w kind first A l n c data W) => (works_any W).mono (fun e w' he => (⟨he.1, lwst_step h he.2⟩ : e = .returned (.bool true) ∧ LwSt w kind first A l n c data w')))
  have HGR := Lib.hid (fun (W : World) (h : LwSt w kind first A l n c data W) => (great_any kind first A l n c data W h.2 hn).mono (fun e w' he => (⟨he.1, lwst_step h he.2⟩ : e = .returned (.bool (greatB l data)) ∧ LwSt w kind first A l n c data w')))
  have HST := Lib.hid (lwst_new (kind := kind) (first := first) (n := n) (c := c) (data := data) hC)
  have HN := Lib.hid hn
  clear hC hn
  go_enter Tryd.func7, Tryd.ntmps7
  obtain ⟨c0, c1, c2, c3⟩ := cell4 HST.out.1.1
  go_wp2_with fail
  refine (HWK.out _ HST.out).mono ?_
  rintro e wa ⟨rfl, ha⟩
  have HSA := Lib.hid ha
  clear ha c0 c1 c2 c3 HWK HST
  obtain ⟨c0, c1, c2, c3⟩ := cell4 HSA.out.1.1
  go_wp2_with fail
  refine (HGR.out _ HSA.out).mono ?_
  rintro e wb ⟨rfl, hb⟩
  have HSB := Lib.hid hb
  clear hb c0 c1 c2 c3 HGR HSA
  obtain ⟨c0, c1, c2, c3⟩ := cell4 HSB.out.1.1
  rw [HG.out]
  go_wp2_with fail
  refine (HPT.out _ HSB.out).mono ?_
  rintro e wc ⟨rfl, hc⟩
  have HSC := Lib.hid hc
  clear hc c0 c1 c2 c3 HPT HSB
  obtain ⟨c0, c1, c2, c3⟩ := cell4 HSC.out.1.1
  go_wp2
  go_ret
  exact ⟨rfl, HSC.out.1.2⟩
set_option maxRecDepth 100000 in
set_option maxHeartbeats 8000000 in
theorem room_0b (kind first : Int) (A : Option Addr) (l : List Cl) (n c : Nat) (data : ByteArray) (w : World) (hC : Cls w w.heap.size A l) (hn : n = l.length) (hm : n ≤ maxLen) (hk : kind = 0) (hg : greatB l data = false) (hz : sizeZ kind first l data = 0) (hE : (putN kind first l data).2 = 2) :
    Calls Tryd.prog 7 #[.agg #[.int .u8 kind, .int .i64 first, .slice A n c, .string data]] w fun e w' => e = .returned (.bool true) ∧ Below w.heap.size w w' := by
  subst hk
  have hm' : greatB l data = false → n ≤ 1000000 := fun h => by have := (great_no h).1; omega
  have HG := Lib.hid hg
  obtain ⟨S, hS⟩ : ∃ S, (putN 0 first l data).1 = S := ⟨_, rfl⟩
  have HPT := Lib.hid (fun (W : World) (h : LwSt w 0 first A l n c data W) => (putN_any 0 first A l n c data W h.2 hn (hm' hg)).mono (fun e w' he => (⟨by rw [he.1, hS, hE], lwst_step h he.2⟩ : e = .returned (.tuple #[.string S, .int .i64 2]) ∧ LwSt w 0 first A l n c data w')))
  have HSZ := Lib.hid (fun (W : World) (h : LwSt w 0 first A l n c data W) => (size_any 0 first A l n c data W h.2 hn (hm' hg)).mono (fun e w' he => (⟨by rw [he.1, hz], lwst_step h he.2⟩ : e = .returned (.int .i64 0) ∧ LwSt w 0 first A l n c data w')))
  have HM := Lib.hid hm
  clear hg hS hz hE hm' hm
  have HWK := Lib.hid (fun (W : World) (h : LwSt w 0 first A l n c data W) => (works_any W).mono (fun e w' he => (⟨he.1, lwst_step h he.2⟩ : e = .returned (.bool true) ∧ LwSt w 0 first A l n c data w')))
  have HGR := Lib.hid (fun (W : World) (h : LwSt w 0 first A l n c data W) => (great_any 0 first A l n c data W h.2 hn).mono (fun e w' he => (⟨he.1, lwst_step h he.2⟩ : e = .returned (.bool (greatB l data)) ∧ LwSt w 0 first A l n c data w')))
  have HST := Lib.hid (lwst_new (kind := 0) (first := first) (n := n) (c := c) (data := data) hC)
  have HN := Lib.hid hn
  clear hC hn
  go_enter Tryd.func7, Tryd.ntmps7
  obtain ⟨c0, c1, c2, c3⟩ := cell4 HST.out.1.1
  go_wp2_with fail
  refine (HWK.out _ HST.out).mono ?_
  rintro e wa ⟨rfl, ha⟩
  have HSA := Lib.hid ha
  clear ha c0 c1 c2 c3 HWK HST
  obtain ⟨c0, c1, c2, c3⟩ := cell4 HSA.out.1.1
  go_wp2_with fail
  refine (HGR.out _ HSA.out).mono ?_
  rintro e wb ⟨rfl, hb⟩
  have HSB := Lib.hid hb
  clear hb c0 c1 c2 c3 HGR HSA
  obtain ⟨c0, c1, c2, c3⟩ := cell4 HSB.out.1.1
  rw [HG.out]
  go_wp2_with fail
  refine (HPT.out _ HSB.out).mono ?_
  rintro e wc ⟨rfl, hc⟩
  have HSC := Lib.hid hc
  clear hc c0 c1 c2 c3 HPT HSB
  obtain ⟨c0, c1, c2, c3⟩ := cell4 HSC.out.1.1
  go_wp2_with fail
  refine (HSZ.out _ HSC.out).mono ?_
  rintro e wd ⟨rfl, hd⟩
  have HSD := Lib.hid hd.1.2
  clear hd c0 c1 c2 c3 HSZ HSC
  go_wp2
  go_ret
  exact ⟨rfl, HSD.out⟩
set_option maxRecDepth 100000 in
set_option maxHeartbeats 8000000 in
theorem room_0f (kind first : Int) (A : Option Addr) (l : List Cl) (n c : Nat) (data : ByteArray) (w : World) (hC : Cls w w.heap.size A l) (hn : n = l.length) (hm : n ≤ maxLen) (hk : kind = 0) (hg : greatB l data = false) (z : Int) (hz : sizeZ kind first l data = z) (hzz : 512 < z) (hE : (putN kind first l data).2 = 8) :
    Calls Tryd.prog 7 #[.agg #[.int .u8 kind, .int .i64 first, .slice A n c, .string data]] w fun e w' => e = .returned (.bool true) ∧ Below w.heap.size w w' := by
  subst hk
  have hm' : greatB l data = false → n ≤ 1000000 := fun h => by have := (great_no h).1; omega
  have HG := Lib.hid hg
  obtain ⟨S, hS⟩ : ∃ S, (putN 0 first l data).1 = S := ⟨_, rfl⟩
  have HPT := Lib.hid (fun (W : World) (h : LwSt w 0 first A l n c data W) => (putN_any 0 first A l n c data W h.2 hn (hm' hg)).mono (fun e w' he => (⟨by rw [he.1, hS, hE], lwst_step h he.2⟩ : e = .returned (.tuple #[.string S, .int .i64 8]) ∧ LwSt w 0 first A l n c data w')))
  have HSZ := Lib.hid (fun (W : World) (h : LwSt w 0 first A l n c data W) => (size_any 0 first A l n c data W h.2 hn (hm' hg)).mono (fun e w' he => (⟨by rw [he.1, hz], lwst_step h he.2⟩ : e = .returned (.int .i64 z) ∧ LwSt w 0 first A l n c data w')))
  have HM := Lib.hid hm
  clear hg hS hz hE hm' hm
  have HWK := Lib.hid (fun (W : World) (h : LwSt w 0 first A l n c data W) => (works_any W).mono (fun e w' he => (⟨he.1, lwst_step h he.2⟩ : e = .returned (.bool true) ∧ LwSt w 0 first A l n c data w')))
  have HGR := Lib.hid (fun (W : World) (h : LwSt w 0 first A l n c data W) => (great_any 0 first A l n c data W h.2 hn).mono (fun e w' he => (⟨he.1, lwst_step h he.2⟩ : e = .returned (.bool (greatB l data)) ∧ LwSt w 0 first A l n c data w')))
  have HST := Lib.hid (lwst_new (kind := 0) (first := first) (n := n) (c := c) (data := data) hC)
  have HN := Lib.hid hn
  clear hC hn
  go_enter Tryd.func7, Tryd.ntmps7
  obtain ⟨c0, c1, c2, c3⟩ := cell4 HST.out.1.1
  go_wp2_with fail
  refine (HWK.out _ HST.out).mono ?_
  rintro e wa ⟨rfl, ha⟩
  have HSA := Lib.hid ha
  clear ha c0 c1 c2 c3 HWK HST
  obtain ⟨c0, c1, c2, c3⟩ := cell4 HSA.out.1.1
  go_wp2_with fail
  refine (HGR.out _ HSA.out).mono ?_
  rintro e wb ⟨rfl, hb⟩
  have HSB := Lib.hid hb
  clear hb c0 c1 c2 c3 HGR HSA
  obtain ⟨c0, c1, c2, c3⟩ := cell4 HSB.out.1.1
  rw [HG.out]
  go_wp2_with fail
  refine (HPT.out _ HSB.out).mono ?_
  rintro e wc ⟨rfl, hc⟩
  have HSC := Lib.hid hc
  clear hc c0 c1 c2 c3 HPT HSB
  obtain ⟨c0, c1, c2, c3⟩ := cell4 HSC.out.1.1
  go_wp2_with fail
  refine (HSZ.out _ HSC.out).mono ?_
  rintro e wd ⟨rfl, hd⟩
  have HSD := Lib.hid hd.1.2
  clear hd c0 c1 c2 c3 HSZ HSC
  go_wp2
  go_ret
  exact ⟨rfl, HSD.out⟩
set_option maxRecDepth 100000 in
set_option maxHeartbeats 8000000 in
theorem room_0g (kind first : Int) (A : Option Addr) (l : List Cl) (n c : Nat) (data : ByteArray) (w : World) (hC : Cls w w.heap.size A l) (hn : n = l.length) (hm : n ≤ maxLen) (hk : kind = 0) (hg : greatB l data = false) (z : Int) (hz : sizeZ kind first l data = z) (hzz : ¬ 512 < z) (hE : (putN kind first l data).2 = 0) :
    Calls Tryd.prog 7 #[.agg #[.int .u8 kind, .int .i64 first, .slice A n c, .string data]] w fun e w' => e = .returned (.bool true) ∧ Below w.heap.size w w' := by
  subst hk
  have hm' : greatB l data = false → n ≤ 1000000 := fun h => by have := (great_no h).1; omega
  have HG := Lib.hid hg
  obtain ⟨S, hS⟩ : ∃ S, (putN 0 first l data).1 = S := ⟨_, rfl⟩
  have HPT := Lib.hid (fun (W : World) (h : LwSt w 0 first A l n c data W) => (putN_any 0 first A l n c data W h.2 hn (hm' hg)).mono (fun e w' he => (⟨by rw [he.1, hS, hE], lwst_step h he.2⟩ : e = .returned (.tuple #[.string S, .int .i64 0]) ∧ LwSt w 0 first A l n c data w')))
  have HSZ := Lib.hid (fun (W : World) (h : LwSt w 0 first A l n c data W) => (size_any 0 first A l n c data W h.2 hn (hm' hg)).mono (fun e w' he => (⟨by rw [he.1, hz], lwst_step h he.2⟩ : e = .returned (.int .i64 z) ∧ LwSt w 0 first A l n c data w')))
  have HM := Lib.hid hm
  clear hg hS hz hE hm' hm
  have hzz' := decide_eq_false hzz
  clear hzz
  have HWK := Lib.hid (fun (W : World) (h : LwSt w 0 first A l n c data W) => (works_any W).mono (fun e w' he => (⟨he.1, lwst_step h he.2⟩ : e = .returned (.bool true) ∧ LwSt w 0 first A l n c data w')))
  have HGR := Lib.hid (fun (W : World) (h : LwSt w 0 first A l n c data W) => (great_any 0 first A l n c data W h.2 hn).mono (fun e w' he => (⟨he.1, lwst_step h he.2⟩ : e = .returned (.bool (greatB l data)) ∧ LwSt w 0 first A l n c data w')))
  have HST := Lib.hid (lwst_new (kind := 0) (first := first) (n := n) (c := c) (data := data) hC)
  have HN := Lib.hid hn
  clear hC hn
  go_enter Tryd.func7, Tryd.ntmps7
  obtain ⟨c0, c1, c2, c3⟩ := cell4 HST.out.1.1
  go_wp2_with fail
  refine (HWK.out _ HST.out).mono ?_
  rintro e wa ⟨rfl, ha⟩
  have HSA := Lib.hid ha
  clear ha c0 c1 c2 c3 HWK HST
  obtain ⟨c0, c1, c2, c3⟩ := cell4 HSA.out.1.1
  go_wp2_with fail
  refine (HGR.out _ HSA.out).mono ?_
  rintro e wb ⟨rfl, hb⟩
  have HSB := Lib.hid hb
  clear hb c0 c1 c2 c3 HGR HSA
  obtain ⟨c0, c1, c2, c3⟩ := cell4 HSB.out.1.1
  rw [HG.out]
  go_wp2_with fail
  refine (HPT.out _ HSB.out).mono ?_
  rintro e wc ⟨rfl, hc⟩
  have HSC := Lib.hid hc
  clear hc c0 c1 c2 c3 HPT HSB
  obtain ⟨c0, c1, c2, c3⟩ := cell4 HSC.out.1.1
  go_wp2_with fail
  refine (HSZ.out _ HSC.out).mono ?_
  rintro e wd ⟨rfl, hd⟩
  have HSD := Lib.hid hd.1.2
  clear hd c0 c1 c2 c3 HSZ HSC
  go_wp2
  go_ret
  exact ⟨rfl, HSD.out⟩
theorem room_any (kind first : Int) (A : Option Addr) (l : List Cl) (n c : Nat) (data : ByteArray) (w : World) (hC : Cls w w.heap.size A l) (hn : n = l.length) (hm : n ≤ maxLen) (hk : 0 ≤ kind) :
    Calls Tryd.prog 7 #[.agg #[.int .u8 kind, .int .i64 first, .slice A n c, .string data]] w fun e w' => e = .returned (.bool true) ∧ Below w.heap.size w w' := by
  cases hg : greatB l data
  case true => exact room_great kind first A l n c data w hC hn hm hg
  have hp := put_cases kind first l data
  have hr := room_ok (kind := kind) (first := first) (l := l) (data := data)
  by_cases h1 : kind = 1
  · by_cases hl : (n : Int) ≤ 2
    · have := hr (.inl ⟨h1, by omega⟩)
      rcases hp with ⟨hz, hE⟩ | ⟨hz, hE⟩ | ⟨hz0, hz, hE⟩
      · exact room_1sb kind first A l n c data w hC hn hm h1 hl hg hz hE
      · omega
      · exact room_1sg kind first A l n c data w hC hn hm h1 hl hg _ rfl (by omega) hE
    · rcases hp with ⟨hz, hE⟩ | ⟨hz, hE⟩ | ⟨hz0, hz, hE⟩
      · exact room_1lb kind first A l n c data w hC hn hm h1 hl hg hz hE
      · exact room_1lf kind first A l n c data w hC hn hm h1 hl hg _ rfl hz hE
      · exact room_1lg kind first A l n c data w hC hn hm h1 hl hg _ rfl (by omega) hE
  by_cases h2 : kind = 2
  · by_cases hl : (n : Int) ≤ 4
    · have := hr (.inr (.inl ⟨h2, by omega⟩))
      rcases hp with ⟨hz, hE⟩ | ⟨hz, hE⟩ | ⟨hz0, hz, hE⟩
      · exact room_2sb kind first A l n c data w hC hn hm h2 hl hg hz hE
      · omega
      · exact room_2sg kind first A l n c data w hC hn hm h2 hl hg _ rfl (by omega) hE
    · rcases hp with ⟨hz, hE⟩ | ⟨hz, hE⟩ | ⟨hz0, hz, hE⟩
      · exact room_2lb kind first A l n c data w hC hn hm h2 hl hg hz hE
      · exact room_2lf kind first A l n c data w hC hn hm h2 hl hg _ rfl hz hE
      · exact room_2lg kind first A l n c data w hC hn hm h2 hl hg _ rfl (by omega) hE
  by_cases h3 : 2 < kind
  · have := hr (.inr (.inr h3))
    rcases hp with ⟨hz, hE⟩ | ⟨hz, hE⟩ | ⟨hz0, hz, hE⟩
    · exact room_3b kind first A l n c data w hC hn hm h3 hg hz hE
    · omega
    · exact room_3g kind first A l n c data w hC hn hm h3 hg _ rfl (by omega) hE
  have h0 : kind = 0 := by omega
  rcases hp with ⟨hz, hE⟩ | ⟨hz, hE⟩ | ⟨hz0, hz, hE⟩
  · exact room_0b kind first A l n c data w hC hn hm h0 hg hz hE
  · exact room_0f kind first A l n c data w hC hn hm h0 hg _ rfl hz hE
  · exact room_0g kind first A l n c data w hC hn hm h0 hg _ rfl (by omega) hE
theorem nodeRoom_walk (a0 b0 : Int) (A0 : Option Addr) (l0 : List Cl) (n0 k0_ : Nat) (d0 : ByteArray) (wa0 : (Lit.int .u8 a0).wf = true) (wb0 : (Lit.int .i64 b0).wf = true) (hn0 : n0 = l0.length) (hm0 : n0 ≤ maxLen) (hq0 : n0 ≤ k0_) (hx0 : ∀ x ∈ l0, FitC x) (wd0 : d0.size ≤ 140737488351232) (w : World) (I0 : Cls w w.heap.size A0 l0) :
    Calls Tryd.prog 7 #[.agg #[.int .u8 a0, .int .i64 b0, .slice A0 n0 k0_, .string d0]] w fun e w' => e = .returned (.bool true) ∧ Below w.heap.size w w' := by
  have h2 : IntKind.u8.min = 0 := rfl
  exact room_any a0 b0 A0 l0 n0 k0_ d0 w I0 hn0 hm0 (by simp [Lit.wf, h2] at wa0; omega)
end Go.Proofs.YticpenbebokjdaaDoor
