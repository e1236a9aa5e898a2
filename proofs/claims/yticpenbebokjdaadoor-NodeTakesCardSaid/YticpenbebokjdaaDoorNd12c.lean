/- node.Take, pages of kind 3. Conditions: those of each lemma. -/
import Derived.Test.YticpenbebokjdaaDoorNd11
namespace Go.Proofs.YticpenbebokjdaaDoor
open Go.RowKit Go
set_option linter.unusedVariables false
set_option linter.unusedSimpArgs false
set_option maxRecDepth 100000 in
set_option maxHeartbeats 8000000 in
theorem take_3a (s : ByteArray) (w : World) (hs : s.size ≤ 100000) (hq : tkK s = 3) (hw : (tkE s).2 = false) :
    Calls Tryd.prog 11 #[.string s] w fun e w' => TkP w s e w' := by
  have HQ := Lib.hid hq
  clear hq
  have HW := Lib.hid hw
  clear hw
  have HS := Lib.hid hs
  have hsI : (s.size : Int) ≤ 100000 := by omega
  go_enter Tryd.func11, Tryd.ntmps11
  go_wp2_with fail
  obtain ⟨hrk, hbl⟩ := take_rk s ((s.size : Int) == 512) w
  refine (number_v (s := (s, (s.size : Int) == 512)) 1 _ (by rfl) hrk hs (by omega)).mono ?_
  rintro e wa ⟨rfl, ha, hba⟩
  have hk : valL (bts (stp (s, (s.size : Int) == 512) 1).1) < 256 := stp_val _ 1 (by omega)
  have ha' : Rk w.heap.size (w.heap.size + 1) (tk0 s).2.1 (tk0 s).2.2 [(w.heap.size, 27, NZ)] wa := ha
  have HBa := Lib.hid (hbl.trans hba)
  have HS1 : Hid ((tk0 s).2.1.size ≤ s.size) := Lib.hid (stp_size (s, (s.size : Int) == 512) 1)
  clear hrk hbl hba ha hs
  rw [show valL (bts (stp (s, (s.size : Int) == 512) 1).1) = tkK s from rfl] at hk ⊢
  have hkI : (tkK s : Int) < 256 := by omega
  have HBW := Lib.hid HBa.out.size
  have HA := Lib.hid (rk_alloc ha' (NC (tkK s) 0 (.slice none 0 0) ⟨#[]⟩) 27)
  have HBb := Lib.hid (HBa.out.alloc HBa.out.size (.cells (NC (tkK s) 0 (.slice none 0 0) ⟨#[]⟩) 27))
  have HG := Lib.hid (rk_new ha')
  have hg0 := HG.out _ (.head _)
  have hg1 := Nat.ne_of_lt ha'.1.lt
  have HLT : Hid (w.heap.size < wa.heap.size) := Lib.hid (by have := ha'.1.lt; omega)
  clear ha'
  go_wp2_with fail
  refine (number_v (s := (tk0 s).2) 2 _ (by rfl) HA.out (by have := HS.out; have := HS1.out; omega) (by omega)).mono ?_
  rintro e wb ⟨rfl, hb, hbb⟩
  have hn : valL (bts (stp (tk0 s).2 2).1) < 65536 := stp_val _ 2 (by omega)
  rw [show valL (bts (stp (tk0 s).2 2).1) = tkN s from rfl] at hn ⊢
  have HN := Lib.hid hn
  have HS2 : Hid ((tk1 s).2.1.size ≤ (tk0 s).2.1.size) := Lib.hid (stp_size (tk0 s).2 2)
  have hb' : Rk w.heap.size (w.heap.size + 1) (tk1 s).2.1 (tk1 s).2.2 [(wa.heap.size, 27, NC (tkK s) 0 (.slice none 0 0) ⟨#[]⟩), (w.heap.size, 27, NZ)] wb := hb
  have HA1 := Lib.hid hb'
  have HB1 := Lib.hid (HBb.out.trans hbb)
  clear hb hb' hbb HA HBb hn
  obtain ⟨G, hG⟩ : ∃ G, wa.heap.size = G := ⟨_, rfl⟩
  rw [hG] at HA1 HLT hg0 hg1 ⊢
  clear HG HBa HBW hG
  rw [HQ.out] at HA1 ⊢
  clear hk hkI
  obtain ⟨c0, c1, c2, c3⟩ := cell4 (rk_get HA1.out (.head _))
  obtain ⟨f0, f1, f2, f3⟩ := froz4 (rk_get HA1.out (.head _))
  go_wp2_with fail
  refine (number_v (s := (tk1 s).2) 4 _ (by rfl) HA1.out (by have := HS.out; have := HS1.out; have := HS2.out; omega) (by omega)).mono ?_
  rintro e wf ⟨rfl, hf, hbf⟩
  have hK1 : tkK s ≠ 1 := by have := HQ.out; omega
  have hFv : valL (bts (stp (tk1 s).2 4).1) = tkF s := by unfold tkF; rw [if_neg hK1]; rfl
  have hSv : (stp (tk1 s).2 4).2 = tkS s := by unfold tkS; rw [if_neg hK1]; rfl
  rw [hFv]
  rw [hSv] at hf
  obtain ⟨F, hF⟩ : ∃ F : Int, (tkF s : Int) = F := ⟨_, rfl⟩
  rw [hF]
  have hf2 := rk_setc hf (by intro x hx; rw [List.mem_singleton.1 hx]; show w.heap.size ≠ G; have := HLT.out; omega) 1 (.int .i64 F)
  have HA2 : Hid (Rk w.heap.size (w.heap.size + 1) (tkS s).1 (tkS s).2 [(G, 27, NC 3 F (.slice none 0 0) ⟨#[]⟩), (w.heap.size, 27, NZ)] (wf.setCell ⟨G, 1, none⟩ (.int .i64 F))) := Lib.hid hf2
  have HB2 := Lib.hid ((HB1.out.trans hbf).setCell (p := ⟨G, 1, none⟩) (Nat.le_of_lt HLT.out) (.int .i64 F))
  have HFX : Hid ((tkF s : Int) = F) := Lib.hid hF
  have HSS : Hid ((tkS s).1.size ≤ 100000) := Lib.hid (by have := HS.out; have := tkS_size s; omega)
  clear c0 c1 c2 c3 f0 f1 f2 f3
  obtain ⟨c0, c1, c2, c3⟩ := cell4 (rk_get hf (.head _))
  obtain ⟨f0, f1, f2, f3⟩ := froz4 (rk_get hf (.head _))
  obtain ⟨r0, r1, q0, q1⟩ := rk_rd hf
  clear hf hf2 hbf hFv hSv hF HA1 HB1 hK1
  go_wp2_with fail
  refine (text_v (s := tkS s) (tkN s) _ (by rfl) HA2.out HSS.out).mono ?_
  rintro e wc ⟨rfl, hc, hbc⟩
  have hK : tkK s = 3 := HQ.out
  have hE : tkE s = (stp (tkS s) (tkN s)).2 := by unfold tkE; rw [if_neg (by omega), if_pos hK]
  have hL : tkL s = [] := by unfold tkL; rw [if_neg (by omega)]
  have hD' : tkD s = (stp (tkS s) (tkN s)).1 := by unfold tkD; rw [if_pos hK]
  have hF := HFX.out
  rw [← hD']
  rw [← hE] at hc
  obtain ⟨D, hD⟩ : ∃ D, tkD s = D := ⟨_, rfl⟩
  rw [hD]
  have HLL : Hid (([] : List Cl).length ≤ 1000000) := Lib.hid (by simp)
  have ho : wc.ownsRow wc.heap.size 30 4 (.slice none 0 0) ([] : List Cl).length (clCs []) := World.ownsRow_nil _ _ _ _
  have ho' : ∃ base, G < base ∧ wc.ownsRow base 30 4 (.slice none 0 0) ([] : List Cl).length (clCs []) := ⟨_, (rk_get hc (.head _)).lt, ho⟩
  have hst : TkSt w G 3 F (.slice none 0 0) D (tkE s).1 (tkE s).2 [] (wc.setCell ⟨G, 3, none⟩ (.string D)) := by
    have hcs := rk_setc hc (by intro x hx; rw [List.mem_singleton.1 hx]; show w.heap.size ≠ G; have := HLT.out; omega) 3 (.string D)
    exact ⟨hcs, tkst_far (w := w) ho' ⟨G, 3, none⟩ (Nat.le_refl _) _, (HB2.out.trans hbc).setCell (Nat.le_of_lt HLT.out) _, HLT.out⟩
  have hv := trivial
  have HST := Lib.hid hst
  clear c0 c1 c2 c3 f0 f1 f2 f3 r0 r1 q0 q1 hD'
  obtain ⟨c0, c1, c2, c3⟩ := cell4 (rk_get hc (.head _))
  obtain ⟨f0, f1, f2, f3⟩ := froz4 (rk_get hc (.head _))
  obtain ⟨z0, z1, z2, z3⟩ := cell4 (rk_get hc (.tail _ (.head _)))
  obtain ⟨y0, y1, y2, y3⟩ := froz4 (rk_get hc (.tail _ (.head _)))
  obtain ⟨r0, r1, q0, q1⟩ := rk_rd hc
  have HE1 : Hid ((tkE s).1.size ≤ 100000) := Lib.hid (by have := HS.out; have := tkE_size s; omega)
  clear ho ho' hst hbc hc hv
  have HKX : Hid ((tkK s : Int) = 3) := Lib.hid (by rw [hK]; rfl)
  have HF := Lib.hid hF
  have HL := Lib.hid hL
  have HD := Lib.hid hD
  clear hF hL hD hK hE HA2 HB2
  rw [HW.out] at r1
  have HOK : Hid (tkOk s = false) := Lib.hid (by unfold tkOk; rw [HW.out]; rfl)
  go_wp2
  obtain ⟨e1, e2, e3⟩ := tk_end HST.out (.int .u8 0) (.int .i64 0) (.slice none 0 0) (.string ⟨#[]⟩)
  obtain ⟨d0, d1, d2, d3⟩ := cell4 e1
  exact bodyPost_ret (v := .tuple #[.agg #[.int .u8 0, .int .i64 0, .slice none 0 0, .string ⟨#[]⟩], .int .i64 7]) (by simp [results, Tryd.results11, go_sem, d0, d1, d2, d3]) rfl (tk_bad e3 HOK.out)
set_option maxRecDepth 100000 in
set_option maxHeartbeats 8000000 in
theorem take_3b (s : ByteArray) (w : World) (hs : s.size ≤ 100000) (hq : tkK s = 3) (hw : (tkE s).2 = true ∧ zer (tkE s).1 = false) :
    Calls Tryd.prog 11 #[.string s] w fun e w' => TkP w s e w' := by
  have HQ := Lib.hid hq
  clear hq
  have HW := Lib.hid hw
  clear hw
  have HS := Lib.hid hs
  have hsI : (s.size : Int) ≤ 100000 := by omega
  go_enter Tryd.func11, Tryd.ntmps11
  go_wp2_with fail
  obtain ⟨hrk, hbl⟩ := take_rk s ((s.size : Int) == 512) w
  refine (number_v (s := (s, (s.size : Int) == 512)) 1 _ (by rfl) hrk hs (by omega)).mono ?_
  rintro e wa ⟨rfl, ha, hba⟩
  have hk : valL (bts (stp (s, (s.size : Int) == 512) 1).1) < 256 := stp_val _ 1 (by omega)
  have ha' : Rk w.heap.size (w.heap.size + 1) (tk0 s).2.1 (tk0 s).2.2 [(w.heap.size, 27, NZ)] wa := ha
  have HBa := Lib.hid (hbl.trans hba)
  have HS1 : Hid ((tk0 s).2.1.size ≤ s.size) := Lib.hid (stp_size (s, (s.size : Int) == 512) 1)
  clear hrk hbl hba ha hs
  rw [show valL (bts (stp (s, (s.size : Int) == 512) 1).1) = tkK s from rfl] at hk ⊢
  have hkI : (tkK s : Int) < 256 := by omega
  have HBW := Lib.hid HBa.out.size
  have HA := Lib.hid (rk_alloc ha' (NC (tkK s) 0 (.slice none 0 0) ⟨#[]⟩) 27)
  have HBb := Lib.hid (HBa.out.alloc HBa.out.size (.cells (NC (tkK s) 0 (.slice none 0 0) ⟨#[]⟩) 27))
  have HG := Lib.hid (rk_new ha')
  have hg0 := HG.out _ (.head _)
  have hg1 := Nat.ne_of_lt ha'.1.lt
  have HLT : Hid (w.heap.size < wa.heap.size) := Lib.hid (by have := ha'.1.lt; omega)
  clear ha'
  go_wp2_with fail
  refine (number_v (s := (tk0 s).2) 2 _ (by rfl) HA.out (by have := HS.out; have := HS1.out; omega) (by omega)).mono ?_
  rintro e wb ⟨rfl, hb, hbb⟩
  have hn : valL (bts (stp (tk0 s).2 2).1) < 65536 := stp_val _ 2 (by omega)
  rw [show valL (bts (stp (tk0 s).2 2).1) = tkN s from rfl] at hn ⊢
  have HN := Lib.hid hn
  have HS2 : Hid ((tk1 s).2.1.size ≤ (tk0 s).2.1.size) := Lib.hid (stp_size (tk0 s).2 2)
  have hb' : Rk w.heap.size (w.heap.size + 1) (tk1 s).2.1 (tk1 s).2.2 [(wa.heap.size, 27, NC (tkK s) 0 (.slice none 0 0) ⟨#[]⟩), (w.heap.size, 27, NZ)] wb := hb
  have HA1 := Lib.hid hb'
  have HB1 := Lib.hid (HBb.out.trans hbb)
  clear hb hb' hbb HA HBb hn
  obtain ⟨G, hG⟩ : ∃ G, wa.heap.size = G := ⟨_, rfl⟩
  rw [hG] at HA1 HLT hg0 hg1 ⊢
  clear HG HBa HBW hG
  rw [HQ.out] at HA1 ⊢
  clear hk hkI
  obtain ⟨c0, c1, c2, c3⟩ := cell4 (rk_get HA1.out (.head _))
  obtain ⟨f0, f1, f2, f3⟩ := froz4 (rk_get HA1.out (.head _))
  go_wp2_with fail
  refine (number_v (s := (tk1 s).2) 4 _ (by rfl) HA1.out (by have := HS.out; have := HS1.out; have := HS2.out; omega) (by omega)).mono ?_
  rintro e wf ⟨rfl, hf, hbf⟩
  have hK1 : tkK s ≠ 1 := by have := HQ.out; omega
  have hFv : valL (bts (stp (tk1 s).2 4).1) = tkF s := by unfold tkF; rw [if_neg hK1]; rfl
  have hSv : (stp (tk1 s).2 4).2 = tkS s := by unfold tkS; rw [if_neg hK1]; rfl
  rw [hFv]
  rw [hSv] at hf
  obtain ⟨F, hF⟩ : ∃ F : Int, (tkF s : Int) = F := ⟨_, rfl⟩
  rw [hF]
  have hf2 := rk_setc hf (by intro x hx; rw [List.mem_singleton.1 hx]; show w.heap.size ≠ G; have := HLT.out; omega) 1 (.int .i64 F)
  have HA2 : Hid (Rk w.heap.size (w.heap.size + 1) (tkS s).1 (tkS s).2 [(G, 27, NC 3 F (.slice none 0 0) ⟨#[]⟩), (w.heap.size, 27, NZ)] (wf.setCell ⟨G, 1, none⟩ (.int .i64 F))) := Lib.hid hf2
  have HB2 := Lib.hid ((HB1.out.trans hbf).setCell (p := ⟨G, 1, none⟩) (Nat.le_of_lt HLT.out) (.int .i64 F))
  have HFX : Hid ((tkF s : Int) = F) := Lib.hid hF
  have HSS : Hid ((tkS s).1.size ≤ 100000) := Lib.hid (by have := HS.out; have := tkS_size s; omega)
  clear c0 c1 c2 c3 f0 f1 f2 f3
  obtain ⟨c0, c1, c2, c3⟩ := cell4 (rk_get hf (.head _))
  obtain ⟨f0, f1, f2, f3⟩ := froz4 (rk_get hf (.head _))
  obtain ⟨r0, r1, q0, q1⟩ := rk_rd hf
  clear hf hf2 hbf hFv hSv hF HA1 HB1 hK1
  go_wp2_with fail
  refine (text_v (s := tkS s) (tkN s) _ (by rfl) HA2.out HSS.out).mono ?_
  rintro e wc ⟨rfl, hc, hbc⟩
  have hK : tkK s = 3 := HQ.out
  have hE : tkE s = (stp (tkS s) (tkN s)).2 := by unfold tkE; rw [if_neg (by omega), if_pos hK]
  have hL : tkL s = [] := by unfold tkL; rw [if_neg (by omega)]
  have hD' : tkD s = (stp (tkS s) (tkN s)).1 := by unfold tkD; rw [if_pos hK]
  have hF := HFX.out
  rw [← hD']
  rw [← hE] at hc
  obtain ⟨D, hD⟩ : ∃ D, tkD s = D := ⟨_, rfl⟩
  rw [hD]
  have HLL : Hid (([] : List Cl).length ≤ 1000000) := Lib.hid (by simp)
  have ho : wc.ownsRow wc.heap.size 30 4 (.slice none 0 0) ([] : List Cl).length (clCs []) := World.ownsRow_nil _ _ _ _
  have ho' : ∃ base, G < base ∧ wc.ownsRow base 30 4 (.slice none 0 0) ([] : List Cl).length (clCs []) := ⟨_, (rk_get hc (.head _)).lt, ho⟩
  have hst : TkSt w G 3 F (.slice none 0 0) D (tkE s).1 (tkE s).2 [] (wc.setCell ⟨G, 3, none⟩ (.string D)) := by
    have hcs := rk_setc hc (by intro x hx; rw [List.mem_singleton.1 hx]; show w.heap.size ≠ G; have := HLT.out; omega) 3 (.string D)
    exact ⟨hcs, tkst_far (w := w) ho' ⟨G, 3, none⟩ (Nat.le_refl _) _, (HB2.out.trans hbc).setCell (Nat.le_of_lt HLT.out) _, HLT.out⟩
  have hv := trivial
  have HST := Lib.hid hst
  clear c0 c1 c2 c3 f0 f1 f2 f3 r0 r1 q0 q1 hD'
  obtain ⟨c0, c1, c2, c3⟩ := cell4 (rk_get hc (.head _))
  obtain ⟨f0, f1, f2, f3⟩ := froz4 (rk_get hc (.head _))
  obtain ⟨z0, z1, z2, z3⟩ := cell4 (rk_get hc (.tail _ (.head _)))
  obtain ⟨y0, y1, y2, y3⟩ := froz4 (rk_get hc (.tail _ (.head _)))
  obtain ⟨r0, r1, q0, q1⟩ := rk_rd hc
  have HE1 : Hid ((tkE s).1.size ≤ 100000) := Lib.hid (by have := HS.out; have := tkE_size s; omega)
  clear ho ho' hst hbc hc hv
  have HKX : Hid ((tkK s : Int) = 3) := Lib.hid (by rw [hK]; rfl)
  have HF := Lib.hid hF
  have HL := Lib.hid hL
  have HD := Lib.hid hD
  clear hF hL hD hK hE HA2 HB2
  rw [HW.out.1] at r1
  have HOK : Hid (tkOk s = false) := Lib.hid (by unfold tkOk; rw [HW.out.2, Bool.and_false]; rfl)
  go_wp2_with fail
  refine (tk_trim HST.out HE1.out).mono ?_
  rintro e w5 ⟨rfl, h5⟩
  have HST5 := Lib.hid h5
  clear h5
  clear c0 c1 c2 c3 f0 f1 f2 f3 z0 z1 z2 z3 y0 y1 y2 y3 r0 r1 q0 q1
  obtain ⟨c0, c1, c2, c3⟩ := cell4 (rk_get HST5.out.1 (.head _))
  obtain ⟨f0, f1, f2, f3⟩ := froz4 (rk_get HST5.out.1 (.head _))
  obtain ⟨z0, z1, z2, z3⟩ := cell4 (rk_get HST5.out.1 (.tail _ (.head _)))
  obtain ⟨y0, y1, y2, y3⟩ := froz4 (rk_get HST5.out.1 (.tail _ (.head _)))
  obtain ⟨r0, r1, q0, q1⟩ := rk_rd HST5.out.1
  rw [HW.out.1] at r1
  have ht := trim_no HW.out.2
  go_wp2
  obtain ⟨e1, e2, e3⟩ := tk_end HST5.out (.int .u8 0) (.int .i64 0) (.slice none 0 0) (.string ⟨#[]⟩)
  obtain ⟨d0, d1, d2, d3⟩ := cell4 e1
  exact bodyPost_ret (v := .tuple #[.agg #[.int .u8 0, .int .i64 0, .slice none 0 0, .string ⟨#[]⟩], .int .i64 7]) (by simp [results, Tryd.results11, go_sem, d0, d1, d2, d3]) rfl (tk_bad e3 HOK.out)
set_option maxRecDepth 100000 in
set_option maxHeartbeats 8000000 in
theorem take_3c (s : ByteArray) (w : World) (hs : s.size ≤ 100000) (hq : tkK s = 3) (hw : (tkE s).2 = true ∧ zer (tkE s).1 = true ∧ mayB (tkK s) (tkF s) (tkL s) (tkD s) = false) :
    Calls Tryd.prog 11 #[.string s] w fun e w' => TkP w s e w' := by
  have HQ := Lib.hid hq
  clear hq
  have HW := Lib.hid hw
  clear hw
  have HS := Lib.hid hs
  have hsI : (s.size : Int) ≤ 100000 := by omega
  go_enter Tryd.func11, Tryd.ntmps11
  go_wp2_with fail
  obtain ⟨hrk, hbl⟩ := take_rk s ((s.size : Int) == 512) w
  refine (number_v (s := (s, (s.size : Int) == 512)) 1 _ (by rfl) hrk hs (by omega)).mono ?_
  rintro e wa ⟨rfl, ha, hba⟩
  have hk : valL (bts (stp (s, (s.size : Int) == 512) 1).1) < 256 := stp_val _ 1 (by omega)
  have ha' : Rk w.heap.size (w.heap.size + 1) (tk0 s).2.1 (tk0 s).2.2 [(w.heap.size, 27, NZ)] wa := ha
  have HBa := Lib.hid (hbl.trans hba)
  have HS1 : Hid ((tk0 s).2.1.size ≤ s.size) := Lib.hid (stp_size (s, (s.size : Int) == 512) 1)
  clear hrk hbl hba ha hs
  rw [show valL (bts (stp (s, (s.size : Int) == 512) 1).1) = tkK s from rfl] at hk ⊢
  have hkI : (tkK s : Int) < 256 := by omega
  have HBW := Lib.hid HBa.out.size
  have HA := Lib.hid (rk_alloc ha' (NC (tkK s) 0 (.slice none 0 0) ⟨#[]⟩) 27)
  have HBb := Lib.hid (HBa.out.alloc HBa.out.size (.cells (NC (tkK s) 0 (.slice none 0 0) ⟨#[]⟩) 27))
  have HG := Lib.hid (rk_new ha')
  have hg0 := HG.out _ (.head _)
  have hg1 := Nat.ne_of_lt ha'.1.lt
  have HLT : Hid (w.heap.size < wa.heap.size) := Lib.hid (by have := ha'.1.lt; omega)
  clear ha'
  go_wp2_with fail
  refine (number_v (s := (tk0 s).2) 2 _ (by rfl) HA.out (by have := HS.out; have := HS1.out; omega) (by omega)).mono ?_
  rintro e wb ⟨rfl, hb, hbb⟩
  have hn : valL (bts (stp (tk0 s).2 2).1) < 65536 := stp_val _ 2 (by omega)
  rw [show valL (bts (stp (tk0 s).2 2).1) = tkN s from rfl] at hn ⊢
  have HN := Lib.hid hn
  have HS2 : Hid ((tk1 s).2.1.size ≤ (tk0 s).2.1.size) := Lib.hid (stp_size (tk0 s).2 2)
  have hb' : Rk w.heap.size (w.heap.size + 1) (tk1 s).2.1 (tk1 s).2.2 [(wa.heap.size, 27, NC (tkK s) 0 (.slice none 0 0) ⟨#[]⟩), (w.heap.size, 27, NZ)] wb := hb
  have HA1 := Lib.hid hb'
  have HB1 := Lib.hid (HBb.out.trans hbb)
  clear hb hb' hbb HA HBb hn
  obtain ⟨G, hG⟩ : ∃ G, wa.heap.size = G := ⟨_, rfl⟩
  rw [hG] at HA1 HLT hg0 hg1 ⊢
  clear HG HBa HBW hG
  rw [HQ.out] at HA1 ⊢
  clear hk hkI
  obtain ⟨c0, c1, c2, c3⟩ := cell4 (rk_get HA1.out (.head _))
  obtain ⟨f0, f1, f2, f3⟩ := froz4 (rk_get HA1.out (.head _))
  go_wp2_with fail
  refine (number_v (s := (tk1 s).2) 4 _ (by rfl) HA1.out (by have := HS.out; have := HS1.out; have := HS2.out; omega) (by omega)).mono ?_
  rintro e wf ⟨rfl, hf, hbf⟩
  have hK1 : tkK s ≠ 1 := by have := HQ.out; omega
  have hFv : valL (bts (stp (tk1 s).2 4).1) = tkF s := by unfold tkF; rw [if_neg hK1]; rfl
  have hSv : (stp (tk1 s).2 4).2 = tkS s := by unfold tkS; rw [if_neg hK1]; rfl
  rw [hFv]
  rw [hSv] at hf
  obtain ⟨F, hF⟩ : ∃ F : Int, (tkF s : Int) = F := ⟨_, rfl⟩
  rw [hF]
  have hf2 := rk_setc hf (by intro x hx; rw [List.mem_singleton.1 hx]; show w.heap.size ≠ G; have := HLT.out; omega) 1 (.int .i64 F)
  have HA2 : Hid (Rk w.heap.size (w.heap.size + 1) (tkS s).1 (tkS s).2 [(G, 27, NC 3 F (.slice none 0 0) ⟨#[]⟩), (w.heap.size, 27, NZ)] (wf.setCell ⟨G, 1, none⟩ (.int .i64 F))) := Lib.hid hf2
  have HB2 := Lib.hid ((HB1.out.trans hbf).setCell (p := ⟨G, 1, none⟩) (Nat.le_of_lt HLT.out) (.int .i64 F))
  have HFX : Hid ((tkF s : Int) = F) := Lib.hid hF
  have HSS : Hid ((tkS s).1.size ≤ 100000) := Lib.hid (by have := HS.out; have := tkS_size s; omega)
  clear c0 c1 c2 c3 f0 f1 f2 f3
  obtain ⟨c0, c1, c2, c3⟩ := cell4 (rk_get hf (.head _))
  obtain ⟨f0, f1, f2, f3⟩ := froz4 (rk_get hf (.head _))
  obtain ⟨r0, r1, q0, q1⟩ := rk_rd hf
  clear hf hf2 hbf hFv hSv hF HA1 HB1 hK1
  go_wp2_with fail
  refine (text_v (s := tkS s) (tkN s) _ (by rfl) HA2.out HSS.out).mono ?_
  rintro e wc ⟨rfl, hc, hbc⟩
  have hK : tkK s = 3 := HQ.out
  have hE : tkE s = (stp (tkS s) (tkN s)).2 := by unfold tkE; rw [if_neg (by omega), if_pos hK]
  have hL : tkL s = [] := by unfold tkL; rw [if_neg (by omega)]
  have hD' : tkD s = (stp (tkS s) (tkN s)).1 := by unfold tkD; rw [if_pos hK]
  have hF := HFX.out
  rw [← hD']
  rw [← hE] at hc
  obtain ⟨D, hD⟩ : ∃ D, tkD s = D := ⟨_, rfl⟩
  rw [hD]
  have HLL : Hid (([] : List Cl).length ≤ 1000000) := Lib.hid (by simp)
  have ho : wc.ownsRow wc.heap.size 30 4 (.slice none 0 0) ([] : List Cl).length (clCs []) := World.ownsRow_nil _ _ _ _
  have ho' : ∃ base, G < base ∧ wc.ownsRow base 30 4 (.slice none 0 0) ([] : List Cl).length (clCs []) := ⟨_, (rk_get hc (.head _)).lt, ho⟩
  have hst : TkSt w G 3 F (.slice none 0 0) D (tkE s).1 (tkE s).2 [] (wc.setCell ⟨G, 3, none⟩ (.string D)) := by
    have hcs := rk_setc hc (by intro x hx; rw [List.mem_singleton.1 hx]; show w.heap.size ≠ G; have := HLT.out; omega) 3 (.string D)
    exact ⟨hcs, tkst_far (w := w) ho' ⟨G, 3, none⟩ (Nat.le_refl _) _, (HB2.out.trans hbc).setCell (Nat.le_of_lt HLT.out) _, HLT.out⟩
  have hv := trivial
  have HST := Lib.hid hst
  clear c0 c1 c2 c3 f0 f1 f2 f3 r0 r1 q0 q1 hD'
  obtain ⟨c0, c1, c2, c3⟩ := cell4 (rk_get hc (.head _))
  obtain ⟨f0, f1, f2, f3⟩ := froz4 (rk_get hc (.head _))
  obtain ⟨z0, z1, z2, z3⟩ := cell4 (rk_get hc (.tail _ (.head _)))
  obtain ⟨y0, y1, y2, y3⟩ := froz4 (rk_get hc (.tail _ (.head _)))
  obtain ⟨r0, r1, q0, q1⟩ := rk_rd hc
  have HE1 : Hid ((tkE s).1.size ≤ 100000) := Lib.hid (by have := HS.out; have := tkE_size s; omega)
  clear ho ho' hst hbc hc hv
  have HKX : Hid ((tkK s : Int) = 3) := Lib.hid (by rw [hK]; rfl)
  have HF := Lib.hid hF
  have HL := Lib.hid hL
  have HD := Lib.hid hD
  clear hF hL hD hK hE HA2 HB2
  rw [HW.out.1] at r1
  have HOK : Hid (tkOk s = false) := Lib.hid (by unfold tkOk; rw [HW.out.2.2, Bool.and_false])
  go_wp2_with fail
  refine (tk_trim HST.out HE1.out).mono ?_
  rintro e w5 ⟨rfl, h5⟩
  have HST5 := Lib.hid h5
  clear h5
  clear c0 c1 c2 c3 f0 f1 f2 f3 z0 z1 z2 z3 y0 y1 y2 y3 r0 r1 q0 q1
  obtain ⟨c0, c1, c2, c3⟩ := cell4 (rk_get HST5.out.1 (.head _))
  obtain ⟨f0, f1, f2, f3⟩ := froz4 (rk_get HST5.out.1 (.head _))
  obtain ⟨z0, z1, z2, z3⟩ := cell4 (rk_get HST5.out.1 (.tail _ (.head _)))
  obtain ⟨y0, y1, y2, y3⟩ := froz4 (rk_get HST5.out.1 (.tail _ (.head _)))
  obtain ⟨r0, r1, q0, q1⟩ := rk_rd HST5.out.1
  rw [trim_yes HW.out.2.1]
  go_wp2_with fail
  refine (tk_may HST5.out HLL.out).mono ?_
  rintro e w6 ⟨rfl, h6⟩
  have HST6 := Lib.hid h6
  clear h6
  clear c0 c1 c2 c3 f0 f1 f2 f3 z0 z1 z2 z3 y0 y1 y2 y3 r0 r1 q0 q1
  obtain ⟨c0, c1, c2, c3⟩ := cell4 (rk_get HST6.out.1 (.head _))
  obtain ⟨f0, f1, f2, f3⟩ := froz4 (rk_get HST6.out.1 (.head _))
  obtain ⟨z0, z1, z2, z3⟩ := cell4 (rk_get HST6.out.1 (.tail _ (.head _)))
  obtain ⟨y0, y1, y2, y3⟩ := froz4 (rk_get HST6.out.1 (.tail _ (.head _)))
  obtain ⟨r0, r1, q0, q1⟩ := rk_rd HST6.out.1
  rw [show mayB 3 F [] D = mayB (tkK s) (tkF s) (tkL s) (tkD s) by rw [HKX.out, HF.out, HD.out]; rw [HL.out], HW.out.2.2]
  go_wp2
  obtain ⟨e1, e2, e3⟩ := tk_end HST6.out (.int .u8 0) (.int .i64 0) (.slice none 0 0) (.string ⟨#[]⟩)
  obtain ⟨d0, d1, d2, d3⟩ := cell4 e1
  exact bodyPost_ret (v := .tuple #[.agg #[.int .u8 0, .int .i64 0, .slice none 0 0, .string ⟨#[]⟩], .int .i64 7]) (by simp [results, Tryd.results11, go_sem, d0, d1, d2, d3]) rfl (tk_bad e3 HOK.out)
set_option maxRecDepth 100000 in
set_option maxHeartbeats 8000000 in
theorem take_3d (s : ByteArray) (w : World) (hs : s.size ≤ 100000) (hq : tkK s = 3) (hw : (tkE s).2 = true ∧ zer (tkE s).1 = true ∧ mayB (tkK s) (tkF s) (tkL s) (tkD s) = true) :
    Calls Tryd.prog 11 #[.string s] w fun e w' => TkP w s e w' := by
  have HQ := Lib.hid hq
  clear hq
  have HW := Lib.hid hw
  clear hw
  have HS := Lib.hid hs
  have hsI : (s.size : Int) ≤ 100000 := by omega
  go_enter Tryd.func11, Tryd.ntmps11
  go_wp2_with fail
  obtain ⟨hrk, hbl⟩ := take_rk s ((s.size : Int) == 512) w
  refine (number_v (s := (s, (s.size : Int) == 512)) 1 _ (by rfl) hrk hs (by omega)).mono ?_
  rintro e wa ⟨rfl, ha, hba⟩
  have hk : valL (bts (stp (s, (s.size : Int) == 512) 1).1) < 256 := stp_val _ 1 (by omega)
  have ha' : Rk w.heap.size (w.heap.size + 1) (tk0 s).2.1 (tk0 s).2.2 [(w.heap.size, 27, NZ)] wa := ha
  have HBa := Lib.hid (hbl.trans hba)
  have HS1 : Hid ((tk0 s).2.1.size ≤ s.size) := Lib.hid (stp_size (s, (s.size : Int) == 512) 1)
  clear hrk hbl hba ha hs
  rw [show valL (bts (stp (s, (s.size : Int) == 512) 1).1) = tkK s from rfl] at hk ⊢
  have hkI : (tkK s : Int) < 256 := by omega
  have HBW := Lib.hid HBa.out.size
  have HA := Lib.hid (rk_alloc ha' (NC (tkK s) 0 (.slice none 0 0) ⟨#[]⟩) 27)
  have HBb := Lib.hid (HBa.out.alloc HBa.out.size (.cells (NC (tkK s) 0 (.slice none 0 0) ⟨#[]⟩) 27))
  have HG := Lib.hid (rk_new ha')
  have hg0 := HG.out _ (.head _)
  have hg1 := Nat.ne_of_lt ha'.1.lt
  have HLT : Hid (w.heap.size < wa.heap.size) := Lib.hid (by have := ha'.1.lt; omega)
  clear ha'
  go_wp2_with fail
  refine (number_v (s := (tk0 s).2) 2 _ (by rfl) HA.out (by have := HS.out; have := HS1.out; omega) (by omega)).mono ?_
  rintro e wb ⟨rfl, hb, hbb⟩
  have hn : valL (bts (stp (tk0 s).2 2).1) < 65536 := stp_val _ 2 (by omega)
  rw [show valL (bts (stp (tk0 s).2 2).1) = tkN s from rfl] at hn ⊢
  have HN := Lib.hid hn
  have HS2 : Hid ((tk1 s).2.1.size ≤ (tk0 s).2.1.size) := Lib.hid (stp_size (tk0 s).2 2)
  have hb' : Rk w.heap.size (w.heap.size + 1) (tk1 s).2.1 (tk1 s).2.2 [(wa.heap.size, 27, NC (tkK s) 0 (.slice none 0 0) ⟨#[]⟩), (w.heap.size, 27, NZ)] wb := hb
  have HA1 := Lib.hid hb'
  have HB1 := Lib.hid (HBb.out.trans hbb)
  clear hb hb' hbb HA HBb hn
  obtain ⟨G, hG⟩ : ∃ G, wa.heap.size = G := ⟨_, rfl⟩
  rw [hG] at HA1 HLT hg0 hg1 ⊢
  clear HG HBa HBW hG
  rw [HQ.out] at HA1 ⊢
  clear hk hkI
  obtain ⟨c0, c1, c2, c3⟩ := cell4 (rk_get HA1.out (.head _))
  obtain ⟨f0, f1, f2, f3⟩ := froz4 (rk_get HA1.out (.head _))
  go_wp2_with fail
  refine (number_v (s := (tk1 s).2) 4 _ (by rfl) HA1.out (by have := HS.out; have := HS1.out; have := HS2.out; omega) (by omega)).mono ?_
  rintro e wf ⟨rfl, hf, hbf⟩
  have hK1 : tkK s ≠ 1 := by have := HQ.out; omega
  have hFv : valL (bts (stp (tk1 s).2 4).1) = tkF s := by unfold tkF; rw [if_neg hK1]; rfl
  have hSv : (stp (tk1 s).2 4).2 = tkS s := by unfold tkS; rw [if_neg hK1]; rfl
  rw [hFv]
  rw [hSv] at hf
  obtain ⟨F, hF⟩ : ∃ F : Int, (tkF s : Int) = F := ⟨_, rfl⟩
  rw [hF]
  have hf2 := rk_setc hf (by intro x hx; rw [List.mem_singleton.1 hx]; show w.heap.size ≠ G; have := HLT.out; omega) 1 (.int .i64 F)
  have HA2 : Hid (Rk w.heap.size (w.heap.size + 1) (tkS s).1 (tkS s).2 [(G, 27, NC 3 F (.slice none 0 0) ⟨#[]⟩), (w.heap.size, 27, NZ)] (wf.setCell ⟨G, 1, none⟩ (.int .i64 F))) := Lib.hid hf2
  have HB2 := Lib.hid ((HB1.out.trans hbf).setCell (p := ⟨G, 1, none⟩) (Nat.le_of_lt HLT.out) (.int .i64 F))
  have HFX : Hid ((tkF s : Int) = F) := Lib.hid hF
  have HSS : Hid ((tkS s).1.size ≤ 100000) := Lib.hid (by have := HS.out; have := tkS_size s; omega)
  clear c0 c1 c2 c3 f0 f1 f2 f3
  obtain ⟨c0, c1, c2, c3⟩ := cell4 (rk_get hf (.head _))
  obtain ⟨f0, f1, f2, f3⟩ := froz4 (rk_get hf (.head _))
  obtain ⟨r0, r1, q0, q1⟩ := rk_rd hf
  clear hf hf2 hbf hFv hSv hF HA1 HB1 hK1
  go_wp2_with fail
  refine (text_v (s := tkS s) (tkN s) _ (by rfl) HA2.out HSS.out).mono ?_
  rintro e wc ⟨rfl, hc, hbc⟩
  have hK : tkK s = 3 := HQ.out
  have hE : tkE s = (stp (tkS s) (tkN s)).2 := by unfold tkE; rw [if_neg (by omega), if_pos hK]
  have hL : tkL s = [] := by unfold tkL; rw [if_neg (by omega)]
  have hD' : tkD s = (stp (tkS s) (tkN s)).1 := by unfold tkD; rw [if_pos hK]
  have hF := HFX.out
  rw [← hD']
  rw [← hE] at hc
  obtain ⟨D, hD⟩ : ∃ D, tkD s = D := ⟨_, rfl⟩
  rw [hD]
  have HLL : Hid (([] : List Cl).length ≤ 1000000) := Lib.hid (by simp)
  have ho : wc.ownsRow wc.heap.size 30 4 (.slice none 0 0) ([] : List Cl).length (clCs []) := World.ownsRow_nil _ _ _ _
  have ho' : ∃ base, G < base ∧ wc.ownsRow base 30 4 (.slice none 0 0) ([] : List Cl).length (clCs []) := ⟨_, (rk_get hc (.head _)).lt, ho⟩
  have hst : TkSt w G 3 F (.slice none 0 0) D (tkE s).1 (tkE s).2 [] (wc.setCell ⟨G, 3, none⟩ (.string D)) := by
    have hcs := rk_setc hc (by intro x hx; rw [List.mem_singleton.1 hx]; show w.heap.size ≠ G; have := HLT.out; omega) 3 (.string D)
    exact ⟨hcs, tkst_far (w := w) ho' ⟨G, 3, none⟩ (Nat.le_refl _) _, (HB2.out.trans hbc).setCell (Nat.le_of_lt HLT.out) _, HLT.out⟩
  have hv := trivial
  have HST := Lib.hid hst
  clear c0 c1 c2 c3 f0 f1 f2 f3 r0 r1 q0 q1 hD'
  obtain ⟨c0, c1, c2, c3⟩ := cell4 (rk_get hc (.head _))
  obtain ⟨f0, f1, f2, f3⟩ := froz4 (rk_get hc (.head _))
  obtain ⟨z0, z1, z2, z3⟩ := cell4 (rk_get hc (.tail _ (.head _)))
  obtain ⟨y0, y1, y2, y3⟩ := froz4 (rk_get hc (.tail _ (.head _)))
  obtain ⟨r0, r1, q0, q1⟩ := rk_rd hc
  have HE1 : Hid ((tkE s).1.size ≤ 100000) := Lib.hid (by have := HS.out; have := tkE_size s; omega)
  clear ho ho' hst hbc hc hv
  have HKX : Hid ((tkK s : Int) = 3) := Lib.hid (by rw [hK]; rfl)
  have HF := Lib.hid hF
  have HL := Lib.hid hL
  have HD := Lib.hid hD
  clear hF hL hD hK hE HA2 HB2
  rw [HW.out.1] at r1
  have HOK : Hid (tkOk s = true) := Lib.hid (by unfold tkOk; rw [HW.out.1, HW.out.2.1, HW.out.2.2]; rfl)
  go_wp2_with fail
  refine (tk_trim HST.out HE1.out).mono ?_
  rintro e w5 ⟨rfl, h5⟩
  have HST5 := Lib.hid h5
  clear h5
  clear c0 c1 c2 c3 f0 f1 f2 f3 z0 z1 z2 z3 y0 y1 y2 y3 r0 r1 q0 q1
  obtain ⟨c0, c1, c2, c3⟩ := cell4 (rk_get HST5.out.1 (.head _))
  obtain ⟨f0, f1, f2, f3⟩ := froz4 (rk_get HST5.out.1 (.head _))
  obtain ⟨z0, z1, z2, z3⟩ := cell4 (rk_get HST5.out.1 (.tail _ (.head _)))
  obtain ⟨y0, y1, y2, y3⟩ := froz4 (rk_get HST5.out.1 (.tail _ (.head _)))
  obtain ⟨r0, r1, q0, q1⟩ := rk_rd HST5.out.1
  rw [trim_yes HW.out.2.1]
  go_wp2_with fail
  refine (tk_may HST5.out HLL.out).mono ?_
  rintro e w6 ⟨rfl, h6⟩
  have HST6 := Lib.hid h6
  clear h6
  clear c0 c1 c2 c3 f0 f1 f2 f3 z0 z1 z2 z3 y0 y1 y2 y3 r0 r1 q0 q1
  obtain ⟨c0, c1, c2, c3⟩ := cell4 (rk_get HST6.out.1 (.head _))
  obtain ⟨f0, f1, f2, f3⟩ := froz4 (rk_get HST6.out.1 (.head _))
  obtain ⟨z0, z1, z2, z3⟩ := cell4 (rk_get HST6.out.1 (.tail _ (.head _)))
  obtain ⟨y0, y1, y2, y3⟩ := froz4 (rk_get HST6.out.1 (.tail _ (.head _)))
  obtain ⟨r0, r1, q0, q1⟩ := rk_rd HST6.out.1
  rw [show mayB 3 F [] D = mayB (tkK s) (tkF s) (tkL s) (tkD s) by rw [HKX.out, HF.out, HD.out]; rw [HL.out], HW.out.2.2]
  go_wp2
  obtain ⟨e1, e2, e3⟩ := tk_end HST6.out (.int .u8 3) (.int .i64 F) (Value.slice none 0 0) (.string D)
  obtain ⟨d0, d1, d2, d3⟩ := cell4 e1
  exact bodyPost_ret (v := .tuple #[.agg #[.int .u8 3, .int .i64 F, Value.slice none 0 0, .string D], .int .i64 0]) (by simp [results, Tryd.results11, go_sem, d0, d1, d2, d3]) rfl (tk_good e3 e2 HOK.out HKX.out HF.out (by first | rfl | exact HL.out) HD.out)
end Go.Proofs.YticpenbebokjdaaDoor
