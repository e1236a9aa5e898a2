/- The law NodeBack: the walk. Conditions: those of each lemma. -/
import Derived.Test.YticpenbebokjdaaDoorLawNodeRoom
namespace Go.Proofs.YticpenbebokjdaaDoor
open Go.RowKit Go
set_option linter.unusedVariables false
set_option linter.unusedSimpArgs false
theorem put_back {kind first : Int} {l : List Cl} {data : ByteArray} (h0 : sizeZ kind first l data ≠ 0) (h1 : sizeZ kind first l data ≤ 512) : takeZ (putN kind first l data).1 = (kind, first, l, data, 0) ∧ (putN kind first l data).1.size = 512 ∧ (putN kind first l data).2 = 0 := by
  have hm := size_may h0
  obtain ⟨hs, hh⟩ := size_pos hm
  have e : putN kind first l data = (bstr (nodeL kind first l data ++ List.replicate (512 - (sizeZ kind first l data).toNat) 0), 0) := by
    unfold putN
    rw [if_neg h0, if_neg (by omega)]
  obtain ⟨g1, g2, g3, g4, g5⟩ := take_put (m := 512 - (sizeZ kind first l data).toNat) hm (by omega)
  rw [e]
  refine ⟨?_, ?_, rfl⟩
  · unfold takeZ
    rw [if_pos g1, g2, g3, g4, g5]
  · simp only
    rw [bstr_size, List.length_append, nodeL_length, List.length_replicate]
    omega
theorem take_bad {s : ByteArray} (h : tkOk s = false) : takeZ s = (0, 0, [], ⟨#[]⟩, 7) := by unfold takeZ; rw [h]; rfl
theorem take_ok {s : ByteArray} (h : tkOk s = true) : takeZ s = ((tkK s : Int), (tkF s : Int), tkL s, tkD s, 0) := by unfold takeZ; rw [if_pos h]
theorem tk_len (s : ByteArray) : (tkL s).length ≤ 1000000 := by
  have := (tk_lt s).1
  unfold tkL tkC
  split
  · split
    · have := rdC_len (rd := rdLeaf) (tkN s) (tkS s); omega
    · have := rdC_len (rd := rdInner) (tkN s) (tkS s); omega
  · simp
/-- Take, its answer given -/
theorem take_is {s : ByteArray} {K F : Int} {l : List Cl} {D : ByteArray} {E : Int} (hs : s.size ≤ 100000) (h : takeZ s = (K, F, l, D, E)) (W : World) : Calls Tryd.prog 11 #[.string s] W fun e w' => ∃ A n c, e = .returned (.tuple #[.agg #[.int .u8 K, .int .i64 F, .slice A n c, .string D], .int .i64 E]) ∧ Cls w' w'.heap.size A l ∧ n = l.length ∧ Below W.heap.size W w' := by
  refine (take_any s W hs).mono ?_
  rintro e w' h2
  unfold TkP at h2
  rw [h] at h2
  exact h2
/-- a page's box at G beside the law's -/
def Lb2 (w : World) (kind first : Int) (A : Option Addr) (l : List Cl) (n c : Nat) (data : ByteArray) (G : Nat) (K F : Int) (A2 : Option Addr) (l2 : List Cl) (n2 c2 : Nat) (D : ByteArray) (W : World) : Prop := LwSt w kind first A l n c data W ∧ Blk W G 27 #[.int .u8 K, .int .i64 F, .slice A2 n2 c2, .string D] ∧ Cls W W.heap.size A2 l2
theorem lb2_step {w W W' : World} {kind first : Int} {A : Option Addr} {l : List Cl} {n c : Nat} {data : ByteArray} {G : Nat} {K F : Int} {A2 : Option Addr} {l2 : List Cl} {n2 c2 : Nat} {D : ByteArray} (h : Lb2 w kind first A l n c data G K F A2 l2 n2 c2 D W) (hb : Below W.heap.size W W') : Lb2 w kind first A l n c data G K F A2 l2 n2 c2 D W' := ⟨lwst_step h.1 hb, blk_step h.2.1 hb, cls_step h.2.2 hb⟩
theorem lb2_new {w W : World} {kind first : Int} {A : Option Addr} {l : List Cl} {n c : Nat} {data : ByteArray} {K F : Int} {A2 : Option Addr} {l2 : List Cl} {n2 c2 : Nat} {D : ByteArray} (h : LwSt w kind first A l n c data W) (hC : Cls W W.heap.size A2 l2) : Lb2 w kind first A l n c data W.heap.size K F A2 l2 n2 c2 D (W.alloc (.cells #[.int .u8 K, .int .i64 F, .slice A2 n2 c2, .string D] 27)) := ⟨lwst_step h one_alloc, Blk.new _ _ _, cls_step hC one_alloc⟩
set_option maxRecDepth 100000 in
set_option maxHeartbeats 8000000 in
theorem nback_great (kind first : Int) (A : Option Addr) (l : List Cl) (n c : Nat) (data s : ByteArray) (w : World) (hC : Cls w w.heap.size A l) (hn : n = l.length) (hg : greatB l data = true) :
    Calls Tryd.prog 6 #[.agg #[.int .u8 kind, .int .i64 first, .slice A n c, .string data], .string s] w fun e w' => e = .returned (.bool true) ∧ Below w.heap.size w w' := by
  have HG := Lib.hid hg
  clear hg
  have HWK := Lib.hid (fun (W : World) (h : LwSt w kind first A l n c data W) => (works_any W).mono (fun e w' he => (⟨he.1, lwst_step h he.2⟩ : e = .returned (.bool true) ∧ LwSt w kind first A l n c data w')))
  have HGR := Lib.hid (fun (W : World) (h : LwSt w kind first A l n c data W) => (great_any kind first A l n c data W h.2 hn).mono (fun e w' he => (⟨he.1, lwst_step h he.2⟩ : e = .returned (.bool (greatB l data)) ∧ LwSt w kind first A l n c data w')))
  have HST := Lib.hid (lwst_new (kind := kind) (first := first) (n := n) (c := c) (data := data) hC)
  have HN := Lib.hid hn
  clear hC hn
  go_enter Tryd.func6, Tryd.ntmps6
  obtain ⟨c0, c1, c2, c3⟩ := cell4 HST.out.1.1
  go_wp2_with fail
  refine (HWK.out _ HST.out).mono ?_
  rintro e wa ⟨rfl, ha⟩
  have HSA := Lib.hid ha
  clear ha c0 c1 c2 c3 HWK HST
  obtain ⟨c0, c1, c2, c3⟩ := cell4 HSA.out.1.1
  go_wp2_with fail
  refine (HGR.out _ HSA.out).mono ?_
  rintro e wb ⟨rfl, hb⟩
  have HSB := Lib.hid hb
  clear hb c0 c1 c2 c3 HGR HSA
  obtain ⟨c0, c1, c2, c3⟩ := cell4 HSB.out.1.1
  rw [HG.out]
  go_wp2
  go_ret
  exact ⟨rfl, HSB.out.1.2⟩
set_option maxRecDepth 100000 in
set_option maxHeartbeats 8000000 in
theorem nback_long (kind first : Int) (A : Option Addr) (l : List Cl) (n c : Nat) (data s : ByteArray) (w : World) (hC : Cls w w.heap.size A l) (hn : n = l.length) (hg : greatB l data = false) (hl : 4096 < (s.size : Int)) :
    Calls Tryd.prog 6 #[.agg #[.int .u8 kind, .int .i64 first, .slice A n c, .string data], .string s] w fun e w' => e = .returned (.bool true) ∧ Below w.heap.size w w' := by
  have HG := Lib.hid hg
  clear hg
  have HWK := Lib.hid (fun (W : World) (h : LwSt w kind first A l n c data W) => (works_any W).mono (fun e w' he => (⟨he.1, lwst_step h he.2⟩ : e = .returned (.bool true) ∧ LwSt w kind first A l n c data w')))
  have HGR := Lib.hid (fun (W : World) (h : LwSt w kind first A l n c data W) => (great_any kind first A l n c data W h.2 hn).mono (fun e w' he => (⟨he.1, lwst_step h he.2⟩ : e = .returned (.bool (greatB l data)) ∧ LwSt w kind first A l n c data w')))
  have HST := Lib.hid (lwst_new (kind := kind) (first := first) (n := n) (c := c) (data := data) hC)
  have HN := Lib.hid hn
  clear hC hn
  go_enter Tryd.func6, Tryd.ntmps6
  obtain ⟨c0, c1, c2, c3⟩ := cell4 HST.out.1.1
  go_wp2_with fail
  refine (HWK.out _ HST.out).mono ?_
  rintro e wa ⟨rfl, ha⟩
  have HSA := Lib.hid ha
  clear ha c0 c1 c2 c3 HWK HST
  obtain ⟨c0, c1, c2, c3⟩ := cell4 HSA.out.1.1
  go_wp2_with fail
  refine (HGR.out _ HSA.out).mono ?_
  rintro e wb ⟨rfl, hb⟩
  have HSB := Lib.hid hb
  clear hb c0 c1 c2 c3 HGR HSA
  obtain ⟨c0, c1, c2, c3⟩ := cell4 HSB.out.1.1
  rw [HG.out]
  go_wp2
  go_ret
  exact ⟨rfl, HSB.out.1.2⟩
set_option maxRecDepth 100000 in
set_option maxHeartbeats 8000000 in
theorem nback_xb (kind first : Int) (A : Option Addr) (l : List Cl) (n c : Nat) (data s : ByteArray) (w : World) (hC : Cls w w.heap.size A l) (hn : n = l.length) (hg : greatB l data = false) (hsI : (s.size : Int) ≤ 4096) (hz0 : sizeZ kind first l data ≠ 0) (hz1 : sizeZ kind first l data ≤ 512) (hk : tkOk s = false) :
    Calls Tryd.prog 6 #[.agg #[.int .u8 kind, .int .i64 first, .slice A n c, .string data], .string s] w fun e w' => e = .returned (.bool true) ∧ Below w.heap.size w w' := by
  have hm : n ≤ 1000000 := by have := (great_no hg).1; omega
  obtain ⟨hT, hTs, hE⟩ := put_back hz0 hz1
  obtain ⟨T, hTT⟩ : ∃ T, (putN kind first l data).1 = T := ⟨_, rfl⟩
  rw [hTT] at hT hTs
  have HT1 := Lib.hid (take_is (s := T) (by omega) hT)
  have hTI : (T.size : Int) = 512 := by omega
  have HPT := Lib.hid (fun (W : World) (h : LwSt w kind first A l n c data W) => (putN_any kind first A l n c data W h.2 hn hm).mono (fun e w' he => (⟨by rw [he.1, hTT, hE], lwst_step h he.2⟩ : e = .returned (.tuple #[.string T, .int .i64 0]) ∧ LwSt w kind first A l n c data w')))
  have HT2 := Lib.hid (take_is (s := s) (by omega) (take_bad hk))
  have HG := Lib.hid hg
  have HM := Lib.hid hm
  clear hg hm hTT hE hk hz0 hz1 hT hTs
  have HWK := Lib.hid (fun (W : World) (h : LwSt w kind first A l n c data W) => (works_any W).mono (fun e w' he => (⟨he.1, lwst_step h he.2⟩ : e = .returned (.bool true) ∧ LwSt w kind first A l n c data w')))
  have HGR := Lib.hid (fun (W : World) (h : LwSt w kind first A l n c data W) => (great_any kind first A l n c data W h.2 hn).mono (fun e w' he => (⟨he.1, lwst_step h he.2⟩ : e = .returned (.bool (greatB l data)) ∧ LwSt w kind first A l n c data w')))
  have HST := Lib.hid (lwst_new (kind := kind) (first := first) (n := n) (c := c) (data := data) hC)
  have HN := Lib.hid hn
  clear hC hn
  go_enter Tryd.func6, Tryd.ntmps6
  obtain ⟨c0, c1, c2, c3⟩ := cell4 HST.out.1.1
  go_wp2_with fail
  refine (HWK.out _ HST.out).mono ?_
  rintro e wa ⟨rfl, ha⟩
  have HSA := Lib.hid ha
  clear ha c0 c1 c2 c3 HWK HST
  obtain ⟨c0, c1, c2, c3⟩ := cell4 HSA.out.1.1
  go_wp2_with fail
  refine (HGR.out _ HSA.out).mono ?_
  rintro e wb ⟨rfl, hb⟩
  have HSB := Lib.hid hb
  clear hb c0 c1 c2 c3 HGR HSA
  obtain ⟨c0, c1, c2, c3⟩ := cell4 HSB.out.1.1
  rw [HG.out]
  go_wp2_with fail
  refine (HPT.out _ HSB.out).mono ?_
  rintro e wc ⟨rfl, hc⟩
  have HSC := Lib.hid hc
  clear hc c0 c1 c2 c3 HPT HSB
  obtain ⟨c0, c1, c2, c3⟩ := cell4 HSC.out.1.1
  go_wp2_with fail
  refine (HT1.out _).mono ?_
  rintro e wd ⟨A2, n2, cc2, rfl, hC2, hn2, hbd⟩
  have HN2 : Hid (n2 = n) := Lib.hid (hn2.trans HN.out.symm)
  obtain rfl := HN2.out
  have HLB := Lib.hid (lb2_new (K := kind) (F := first) (n2 := n2) (c2 := cc2) (D := data) (lwst_step HSC.out hbd) hC2)
  clear hC2 hn2 hbd c0 c1 c2 c3 HT1 HSC HN2
  obtain ⟨c0, c1, c2, c3⟩ := cell4 HLB.out.1.1.1
  obtain ⟨d0, d1, d2, d3⟩ := cell4 HLB.out.2.1
  go_wp2_with fail
  refine (same_one kind first l A2 n2 cc2 A c data _ HLB.out.2.2 HLB.out.1.2 HN.out HM.out).mono ?_
  rintro e we ⟨rfl, hbe⟩
  have HSC := Lib.hid (lb2_step HLB.out hbe).1
  clear hbe c0 c1 c2 c3 d0 d1 d2 d3 HLB
  obtain ⟨c0, c1, c2, c3⟩ := cell4 HSC.out.1.1
  go_wp2_with fail
  refine (HT2.out _).mono ?_
  rintro e wf ⟨A3, n3, cc3, rfl, hC3, hn3, hbf⟩
  obtain rfl : n3 = 0 := hn3
  have HLB3 := Lib.hid (lb2_new (K := 0) (F := 0) (n2 := 0) (c2 := cc3) (D := ⟨#[]⟩) (lwst_step HSC.out hbf) hC3)
  clear hC3 hbf c0 c1 c2 c3 HT2 HSC
  obtain ⟨d0, d1, d2, d3⟩ := cell4 HLB3.out.2.1
  go_wp2_with fail
  refine (same_one 0 0 [] A3 0 cc3 none 0 ⟨#[]⟩ _ HLB3.out.2.2 (.inl rfl) rfl (by omega)).mono ?_
  rintro e wg ⟨rfl, hbg⟩
  have HSG := Lib.hid (lb2_step HLB3.out hbg).1.1.2
  clear hbg d0 d1 d2 d3 HLB3
  go_wp2
  go_ret
  exact ⟨rfl, HSG.out⟩
set_option maxRecDepth 100000 in
set_option maxHeartbeats 8000000 in
theorem nback_xo (kind first : Int) (A : Option Addr) (l : List Cl) (n c : Nat) (data s : ByteArray) (w : World) (hC : Cls w w.heap.size A l) (hn : n = l.length) (hg : greatB l data = false) (hsI : (s.size : Int) ≤ 4096) (hz0 : sizeZ kind first l data ≠ 0) (hz1 : sizeZ kind first l data ≤ 512) (hk : tkOk s = true) :
    Calls Tryd.prog 6 #[.agg #[.int .u8 kind, .int .i64 first, .slice A n c, .string data], .string s] w fun e w' => e = .returned (.bool true) ∧ Below w.heap.size w w' := by
  have hm : n ≤ 1000000 := by have := (great_no hg).1; omega
  obtain ⟨hT, hTs, hE⟩ := put_back hz0 hz1
  obtain ⟨T, hTT⟩ : ∃ T, (putN kind first l data).1 = T := ⟨_, rfl⟩
  rw [hTT] at hT hTs
  have HT1 := Lib.hid (take_is (s := T) (by omega) hT)
  have hTI : (T.size : Int) = 512 := by omega
  have HPT := Lib.hid (fun (W : World) (h : LwSt w kind first A l n c data W) => (putN_any kind first A l n c data W h.2 hn hm).mono (fun e w' he => (⟨by rw [he.1, hTT, hE], lwst_step h he.2⟩ : e = .returned (.tuple #[.string T, .int .i64 0]) ∧ LwSt w kind first A l n c data w')))
  have hps := put_take hk
  have htk := take_ok hk
  obtain ⟨K, hK⟩ : ∃ K : Int, (tkK s : Int) = K := ⟨_, rfl⟩
  obtain ⟨F, hF⟩ : ∃ F : Int, (tkF s : Int) = F := ⟨_, rfl⟩
  obtain ⟨D, hD⟩ : ∃ D, tkD s = D := ⟨_, rfl⟩
  rw [hK, hF, hD] at hps htk
  have HPS := Lib.hid hps
  have HT2 := Lib.hid (take_is (s := s) (by omega) htk)
  have HLN := Lib.hid (tk_len s)
  clear hps htk hK hF hD
  have HG := Lib.hid hg
  have HM := Lib.hid hm
  clear hg hm hTT hE hk hz0 hz1 hT hTs
  have HWK := Lib.hid (fun (W : World) (h : LwSt w kind first A l n c data W) => (works_any W).mono (fun e w' he => (⟨he.1, lwst_step h he.2⟩ : e = .returned (.bool true) ∧ LwSt w kind first A l n c data w')))
  have HGR := Lib.hid (fun (W : World) (h : LwSt w kind first A l n c data W) => (great_any kind first A l n c data W h.2 hn).mono (fun e w' he => (⟨he.1, lwst_step h he.2⟩ : e = .returned (.bool (greatB l data)) ∧ LwSt w kind first A l n c data w')))
  have HST := Lib.hid (lwst_new (kind := kind) (first := first) (n := n) (c := c) (data := data) hC)
  have HN := Lib.hid hn
  clear hC hn
  go_enter Tryd.func6, Tryd.ntmps6
  obtain ⟨c0, c1, c2, c3⟩ := cell4 HST.out.1.1
  go_wp2_with fail
  refine (HWK.out _ HST.out).mono ?_
  rintro e wa ⟨rfl, ha⟩
  have HSA := Lib.hid ha
  clear ha c0 c1 c2 c3 HWK HST
  obtain ⟨c0, c1, c2, c3⟩ := cell4 HSA.out.1.1
  go_wp2_with fail
  refine (HGR.out _ HSA.out).mono ?_
  rintro e wb ⟨rfl, hb⟩
  have HSB := Lib.hid hb
  clear hb c0 c1 c2 c3 HGR HSA
  obtain ⟨c0, c1, c2, c3⟩ := cell4 HSB.out.1.1
  rw [HG.out]
  go_wp2_with fail
  refine (HPT.out _ HSB.out).mono ?_
  rintro e wc ⟨rfl, hc⟩
  have HSC := Lib.hid hc
  clear hc c0 c1 c2 c3 HPT HSB
  obtain ⟨c0, c1, c2, c3⟩ := cell4 HSC.out.1.1
  go_wp2_with fail
  refine (HT1.out _).mono ?_
  rintro e wd ⟨A2, n2, cc2, rfl, hC2, hn2, hbd⟩
  have HN2 : Hid (n2 = n) := Lib.hid (hn2.trans HN.out.symm)
  obtain rfl := HN2.out
  have HLB := Lib.hid (lb2_new (K := kind) (F := first) (n2 := n2) (c2 := cc2) (D := data) (lwst_step HSC.out hbd) hC2)
  clear hC2 hn2 hbd c0 c1 c2 c3 HT1 HSC HN2
  obtain ⟨c0, c1, c2, c3⟩ := cell4 HLB.out.1.1.1
  obtain ⟨d0, d1, d2, d3⟩ := cell4 HLB.out.2.1
  go_wp2_with fail
  refine (same_one kind first l A2 n2 cc2 A c data _ HLB.out.2.2 HLB.out.1.2 HN.out HM.out).mono ?_
  rintro e we ⟨rfl, hbe⟩
  have HSC := Lib.hid (lb2_step HLB.out hbe).1
  clear hbe c0 c1 c2 c3 d0 d1 d2 d3 HLB
  obtain ⟨c0, c1, c2, c3⟩ := cell4 HSC.out.1.1
  go_wp2_with fail
  refine (HT2.out _).mono ?_
  rintro e wf ⟨A3, n3, cc3, rfl, hC3, hn3, hbf⟩
  have HN3 := Lib.hid hn3
  have HLB3 := Lib.hid (lb2_new (K := K) (F := F) (n2 := n3) (c2 := cc3) (D := D) (lwst_step HSC.out hbf) hC3)
  clear hC3 hn3 hbf c0 c1 c2 c3 HT2 HSC
  obtain ⟨d0, d1, d2, d3⟩ := cell4 HLB3.out.2.1
  go_wp2_with fail
  have hp := putN_any K F A3 (tkL s) n3 cc3 D _ HLB3.out.2.2 HN3.out (by rw [HN3.out]; exact HLN.out)
  rw [HPS.out] at hp
  refine hp.mono ?_
  rintro e wg ⟨rfl, hbg⟩
  have HSG := Lib.hid (lb2_step HLB3.out hbg).1.1.2
  clear hp hbg d0 d1 d2 d3 HLB3
  go_wp2
  go_ret
  exact ⟨rfl, HSG.out⟩
set_option maxRecDepth 100000 in
set_option maxHeartbeats 8000000 in
theorem nback_yb (kind first : Int) (A : Option Addr) (l : List Cl) (n c : Nat) (data s : ByteArray) (w : World) (hC : Cls w w.heap.size A l) (hn : n = l.length) (hg : greatB l data = false) (hsI : (s.size : Int) ≤ 4096) (E : Int) (hE : (putN kind first l data).2 = E) (hne : E ≠ 0) (hk : tkOk s = false) :
    Calls Tryd.prog 6 #[.agg #[.int .u8 kind, .int .i64 first, .slice A n c, .string data], .string s] w fun e w' => e = .returned (.bool true) ∧ Below w.heap.size w w' := by
  have hm : n ≤ 1000000 := by have := (great_no hg).1; omega
  obtain ⟨T, hTT⟩ : ∃ T, (putN kind first l data).1 = T := ⟨_, rfl⟩
  have hne' := beq_no' hne
  have HPT := Lib.hid (fun (W : World) (h : LwSt w kind first A l n c data W) => (putN_any kind first A l n c data W h.2 hn hm).mono (fun e w' he => (⟨by rw [he.1, hTT, hE], lwst_step h he.2⟩ : e = .returned (.tuple #[.string T, .int .i64 E]) ∧ LwSt w kind first A l n c data w')))
  have HT2 := Lib.hid (take_is (s := s) (by omega) (take_bad hk))
  have HG := Lib.hid hg
  have HM := Lib.hid hm
  clear hg hm hTT hE hk hne
  have HWK := Lib.hid (fun (W : World) (h : LwSt w kind first A l n c data W) => (works_any W).mono (fun e w' he => (⟨he.1, lwst_step h he.2⟩ : e = .returned (.bool true) ∧ LwSt w kind first A l n c data w')))
  have HGR := Lib.hid (fun (W : World) (h : LwSt w kind first A l n c data W) => (great_any kind first A l n c data W h.2 hn).mono (fun e w' he => (⟨he.1, lwst_step h he.2⟩ : e = .returned (.bool (greatB l data)) ∧ LwSt w kind first A l n c data w')))
  have HST := Lib.hid (lwst_new (kind := kind) (first := first) (n := n) (c := c) (data := data) hC)
  have HN := Lib.hid hn
  clear hC hn
  go_enter Tryd.func6, Tryd.ntmps6
  obtain ⟨c0, c1, c2, c3⟩ := cell4 HST.out.1.1
  go_wp2_with fail
  refine (HWK.out _ HST.out).mono ?_
  rintro e wa ⟨rfl, ha⟩
  have HSA := Lib.hid ha
  clear ha c0 c1 c2 c3 HWK HST
  obtain ⟨c0, c1, c2, c3⟩ := cell4 HSA.out.1.1
  go_wp2_with fail
  refine (HGR.out _ HSA.out).mono ?_
  rintro e wb ⟨rfl, hb⟩
  have HSB := Lib.hid hb
  clear hb c0 c1 c2 c3 HGR HSA
  obtain ⟨c0, c1, c2, c3⟩ := cell4 HSB.out.1.1
  rw [HG.out]
  go_wp2_with fail
  refine (HPT.out _ HSB.out).mono ?_
  rintro e wc ⟨rfl, hc⟩
  have HSC := Lib.hid hc
  clear hc c0 c1 c2 c3 HPT HSB
  obtain ⟨c0, c1, c2, c3⟩ := cell4 HSC.out.1.1
  go_wp2_with fail
  refine (HT2.out _).mono ?_
  rintro e wf ⟨A3, n3, cc3, rfl, hC3, hn3, hbf⟩
  obtain rfl : n3 = 0 := hn3
  have HLB3 := Lib.hid (lb2_new (K := 0) (F := 0) (n2 := 0) (c2 := cc3) (D := ⟨#[]⟩) (lwst_step HSC.out hbf) hC3)
  clear hC3 hbf c0 c1 c2 c3 HT2 HSC
  obtain ⟨d0, d1, d2, d3⟩ := cell4 HLB3.out.2.1
  go_wp2_with fail
  refine (same_one 0 0 [] A3 0 cc3 none 0 ⟨#[]⟩ _ HLB3.out.2.2 (.inl rfl) rfl (by omega)).mono ?_
  rintro e wg ⟨rfl, hbg⟩
  have HSG := Lib.hid (lb2_step HLB3.out hbg).1.1.2
  clear hbg d0 d1 d2 d3 HLB3
  go_wp2
  go_ret
  exact ⟨rfl, HSG.out⟩
set_option maxRecDepth 100000 in
set_option maxHeartbeats 8000000 in
theorem nback_yo (kind first : Int) (A : Option Addr) (l : List Cl) (n c : Nat) (data s : ByteArray) (w : World) (hC : Cls w w.heap.size A l) (hn : n = l.length) (hg : greatB l data = false) (hsI : (s.size : Int) ≤ 4096) (E : Int) (hE : (putN kind first l data).2 = E) (hne : E ≠ 0) (hk : tkOk s = true) :
    Calls Tryd.prog 6 #[.agg #[.int .u8 kind, .int .i64 first, .slice A n c, .string data], .string s] w fun e w' => e = .returned (.bool true) ∧ Below w.heap.size w w' := by
  have hm : n ≤ 1000000 := by have := (great_no hg).1; omega
  obtain ⟨T, hTT⟩ : ∃ T, (putN kind first l data).1 = T := ⟨_, rfl⟩
  have hne' := beq_no' hne
  have HPT := Lib.hid (fun (W : World) (h : LwSt w kind first A l n c data W) => (putN_any kind first A l n c data W h.2 hn hm).mono (fun e w' he => (⟨by rw [he.1, hTT, hE], lwst_step h he.2⟩ : e = .returned (.tuple #[.string T, .int .i64 E]) ∧ LwSt w kind first A l n c data w')))
  have hps := put_take hk
  have htk := take_ok hk
  obtain ⟨K, hK⟩ : ∃ K : Int, (tkK s : Int) = K := ⟨_, rfl⟩
  obtain ⟨F, hF⟩ : ∃ F : Int, (tkF s : Int) = F := ⟨_, rfl⟩
  obtain ⟨D, hD⟩ : ∃ D, tkD s = D := ⟨_, rfl⟩
  rw [hK, hF, hD] at hps htk
  have HPS := Lib.hid hps
  have HT2 := Lib.hid (take_is (s := s) (by omega) htk)
  have HLN := Lib.hid (tk_len s)
  clear hps htk hK hF hD
  have HG := Lib.hid hg
  have HM := Lib.hid hm
  clear hg hm hTT hE hk hne
  have HWK := Lib.hid (fun (W : World) (h : LwSt w kind first A l n c data W) => (works_any W).mono (fun e w' he => (⟨he.1, lwst_step h he.2⟩ : e = .returned (.bool true) ∧ LwSt w kind first A l n c data w')))
  have HGR := Lib.hid (fun (W : World) (h : LwSt w kind first A l n c data W) => (great_any kind first A l n c data W h.2 hn).mono (fun e w' he => (⟨he.1, lwst_step h he.2⟩ : e = .returned (.bool (greatB l data)) ∧ LwSt w kind first A l n c data w')))
  have HST := Lib.hid (lwst_new (kind := kind) (first := first) (n := n) (c := c) (data := data) hC)
  have HN := Lib.hid hn
  clear hC hn
  go_enter Tryd.func6, Tryd.ntmps6
  obtain ⟨c0, c1, c2, c3⟩ := cell4 HST.out.1.1
  go_wp2_with fail
  refine (HWK.out _ HST.out).mono ?_
  rintro e wa ⟨rfl, ha⟩
  have HSA := Lib.hid ha
  clear ha c0 c1 c2 c3 HWK HST
  obtain ⟨c0, c1, c2, c3⟩ := cell4 HSA.out.1.1
  go_wp2_with fail
  refine (HGR.out _ HSA.out).mono ?_
  rintro e wb ⟨rfl, hb⟩
  have HSB := Lib.hid hb
  clear hb c0 c1 c2 c3 HGR HSA
  obtain ⟨c0, c1, c2, c3⟩ := cell4 HSB.out.1.1
  rw [HG.out]
  go_wp2_with fail
  refine (HPT.out _ HSB.out).mono ?_
  rintro e wc ⟨rfl, hc⟩
  have HSC := Lib.hid hc
  clear hc c0 c1 c2 c3 HPT HSB
  obtain ⟨c0, c1, c2, c3⟩ := cell4 HSC.out.1.1
  go_wp2_with fail
  refine (HT2.out _).mono ?_
  rintro e wf ⟨A3, n3, cc3, rfl, hC3, hn3, hbf⟩
  have HN3 := Lib.hid hn3
  have HLB3 := Lib.hid (lb2_new (K := K) (F := F) (n2 := n3) (c2 := cc3) (D := D) (lwst_step HSC.out hbf) hC3)
  clear hC3 hn3 hbf c0 c1 c2 c3 HT2 HSC
  obtain ⟨d0, d1, d2, d3⟩ := cell4 HLB3.out.2.1
  go_wp2_with fail
  have hp := putN_any K F A3 (tkL s) n3 cc3 D _ HLB3.out.2.2 HN3.out (by rw [HN3.out]; exact HLN.out)
  rw [HPS.out] at hp
  refine hp.mono ?_
  rintro e wg ⟨rfl, hbg⟩
  have HSG := Lib.hid (lb2_step HLB3.out hbg).1.1.2
  clear hp hbg d0 d1 d2 d3 HLB3
  go_wp2
  go_ret
  exact ⟨rfl, HSG.out⟩
theorem nodeBack_walk (a0 b0 : Int) (A0 : Option Addr) (l0 : List Cl) (n0 k0_ : Nat) (d0 a1 : ByteArray) (wa0 : (Lit.int .u8 a0).wf = true) (wb0 : (Lit.int .i64 b0).wf = true) (hn0 : n0 = l0.length) (hm0 : n0 ≤ maxLen) (hq0 : n0 ≤ k0_) (hx0 : ∀ x ∈ l0, FitC x) (wd0 : d0.size ≤ 140737488351232) (w1 : a1.size ≤ 140737488351232) (w : World) (I0 : Cls w w.heap.size A0 l0) :
    Calls Tryd.prog 6 #[.agg #[.int .u8 a0, .int .i64 b0, .slice A0 n0 k0_, .string d0], .string a1] w fun e w' => e = .returned (.bool true) ∧ Below w.heap.size w w' := by
  cases hg : greatB l0 d0
  case true => exact nback_great a0 b0 A0 l0 n0 k0_ d0 a1 w I0 hn0 hg
  by_cases hl : 4096 < (a1.size : Int)
  · exact nback_long a0 b0 A0 l0 n0 k0_ d0 a1 w I0 hn0 hg hl
  have hsI : (a1.size : Int) ≤ 4096 := by omega
  have hb : ∀ b : Bool, b = false ∨ b = true := fun b => by cases b; exact .inl rfl; exact .inr rfl
  rcases put_cases a0 b0 l0 d0 with ⟨hz, hE⟩ | ⟨hz, hE⟩ | ⟨hz0, hz1, hE⟩
  · rcases hb (tkOk a1) with hk | hk
    · exact nback_yb a0 b0 A0 l0 n0 k0_ d0 a1 w I0 hn0 hg hsI 2 hE (by omega) hk
    · exact nback_yo a0 b0 A0 l0 n0 k0_ d0 a1 w I0 hn0 hg hsI 2 hE (by omega) hk
  · rcases hb (tkOk a1) with hk | hk
    · exact nback_yb a0 b0 A0 l0 n0 k0_ d0 a1 w I0 hn0 hg hsI 8 hE (by omega) hk
    · exact nback_yo a0 b0 A0 l0 n0 k0_ d0 a1 w I0 hn0 hg hsI 8 hE (by omega) hk
  · rcases hb (tkOk a1) with hk | hk
    · exact nback_xb a0 b0 A0 l0 n0 k0_ d0 a1 w I0 hn0 hg hsI hz0 hz1 hk
    · exact nback_xo a0 b0 A0 l0 n0 k0_ d0 a1 w I0 hn0 hg hsI hz0 hz1 hk
end Go.Proofs.YticpenbebokjdaaDoor
