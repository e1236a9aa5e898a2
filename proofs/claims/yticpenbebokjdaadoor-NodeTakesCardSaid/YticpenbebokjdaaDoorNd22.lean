/- ref10.Take. Conditions: those of each lemma. -/
import Derived.Test.YticpenbebokjdaaDoorNd21
namespace Go.Proofs.YticpenbebokjdaaDoor
open Go.RowKit Go
set_option linter.unusedVariables false
set_option linter.unusedSimpArgs false
set_option maxRecDepth 100000 in
set_option maxHeartbeats 8000000 in
theorem rtake_1 (s : ByteArray) (w : World) (hs : s.size ≤ 4096) (hk : rtK s = 1) :
    Calls Tryd.prog 19 #[.string s] w fun e w' => RtP w s e w' := by
  have HV1 := Lib.hid (value_v (s := s) 0 1 0 1 rfl rfl hs (by omega) (by omega))
  have HV2 := Lib.hid (value_v (s := s) 1 2 1 2 rfl rfl hs (by omega) (by omega))
  have HV3 := Lib.hid (value_v (s := s) 3 4 3 4 rfl rfl hs (by omega) (by omega))
  rw [show valR s 0 1 = rtK s from rfl] at HV1
  rw [show valR s 1 2 = rtN s from rfl] at HV2
  have hK256 : rtK s < 256 := valR_lt s 0 1
  have hN : rtN s < 65536 := valR_lt s 1 2
  have HNN := Lib.hid hN
  have HQ := Lib.hid hk
  have HRK : Hid ((rtK s : Int) = 1) := Lib.hid (by rw [hk]; rfl)
  have HRF : Hid ((rtF s : Int) = 0) := Lib.hid (by unfold rtF; rw [if_pos hk]; rfl)
  have HRD : Hid (rtD s = ⟨#[]⟩) := Lib.hid (by unfold rtD; rw [if_neg (by omega)])
  have HRL0 : Hid (rtL s = [] ++ rcellsR 1 s (rtN s - 0) 3) := Lib.hid (by unfold rtL rtP; rw [if_pos (by omega), hk, if_pos rfl]; rfl)
  rw [hk] at HV1
  clear hk
  have HS := Lib.hid hs
  have hsI : (s.size : Int) ≤ 4096 := by omega
  clear hs hK256 hN
  go_enter Tryd.func19, Tryd.ntmps19
  go_wp2_with fail
  refine (HV1.out _).mono ?_
  rintro e wa ⟨rfl, rfl⟩
  have HST := Lib.hid (rt_new w 1 0 ⟨#[]⟩)
  obtain ⟨c0, c1, c2, c3⟩ := cell4 HST.out.1
  obtain ⟨f0, f1, f2, f3⟩ := froz4 HST.out.1
  obtain ⟨z0, z1, z2, z3⟩ := cell4 HST.out.2.1
  obtain ⟨y0, y1, y2, y3⟩ := froz4 HST.out.2.1
  go_wp2_with fail
  refine (HV2.out _).mono ?_
  rintro e wa ⟨rfl, rfl⟩
  go_wp2
  go_loopw [6, 7] (fun a i wr => ∃ (j p : Nat) (l : List Cl) (v : Value), j ≤ rtN s ∧ i = .int .i64 j ∧ a = .int .i64 p ∧ rtL s = l ++ rcellsR 1 s (rtN s - j) p ∧ l.length = j ∧ p ≤ 6000 ∧ RtSt w (w.heap.size + 1) 1 0 v ⟨#[]⟩ l wr) (fun _ i _ => rtN s - (intOf i).toNat)
  case atStart => exact ⟨0, 3, [], .slice none 0 0, by omega, rfl, rfl, HRL0.out, rfl, by omega, rt_new w 1 0 ⟨#[]⟩⟩
  case round =>
    clear HST
    clear c0 c1 c2 c3 f0 f1 f2 f3 z0 z1 z2 z3 y0 y1 y2 y3
    obtain ⟨j, p, l, v, hj, rfl, rfl, hl, hlj, hp, hst⟩ := hrel
    have HST := Lib.hid hst
    have hpI : (p : Int) ≤ 6000 := by omega
    have hnI : (rtN s : Int) ≤ 65535 := by have := HNN.out; omega
    by_cases hgo : j < rtN s ∧ p < s.size
    · obtain ⟨hjn, hps⟩ := hgo
      obtain ⟨m, hm⟩ : ∃ m, rtN s - j = m + 1 := ⟨rtN s - j - 1, by omega⟩
      have hl2 : rtL s = (l ++ [(rcellR 1 s p).1]) ++ rcellsR 1 s (rtN s - (j + 1)) (rcellR 1 s p).2 := by
        rw [hl, hm, show rtN s - (j + 1) = m by omega]
        simp [rcellsR, hps]
      have HL2 := Lib.hid hl2
      have hjI : (j : Int) < rtN s := by omega
      have hpsI : (p : Int) < s.size := by omega
      have HVK := Lib.hid (value_v (s := s) p 1 p 1 rfl rfl HS.out (by omega) (by omega))
      have hk0 := valR_lt s p 1
      have hkp := partR_size s (p + 1) (valR s p 1)
      obtain ⟨base, hb1, hb2, hown⟩ := hst.2.2.1
      obtain ⟨A, cc, rfl, _⟩ := cls_of_own hown
      subst hlj
      have HR3 := Lib.hid (show Rt3 w (w.heap.size + 1) 1 0 (Value.slice A l.length cc) ⟨#[]⟩ base wr from ⟨hst.1, hst.2.1, hst.2.2.2.1, hst.2.2.2.2, hb1, hb2⟩)
      have HO0 := Lib.hid hown
      obtain ⟨c0, c1, c2, c3⟩ := cell4 hst.1
      obtain ⟨f0, f1, f2, f3⟩ := froz4 hst.1
      obtain ⟨z0, z1, z2, z3⟩ := cell4 hst.2.1
      obtain ⟨y0, y1, y2, y3⟩ := froz4 hst.2.1
      have ha0 : ∀ o, (wr.alloc o).cell? ⟨(w.heap.size + 1), 0, none⟩ = some (.int .u8 1) := fun o => (blk_step hst.1 one_alloc).cell 0
      have ha2 : ∀ o, (wr.alloc o).cell? ⟨(w.heap.size + 1), 2, none⟩ = some (Value.slice A l.length cc) := fun o => (blk_step hst.1 one_alloc).cell 2
      have HPK := Lib.hid (part_v (s := s) (p + 1) (valR s p 1) ((p : Int) + 1) (valR s p 1 : Int) rfl rfl HS.out (by omega) (by omega))
      rw [show partR s (p + 1) (valR s p 1) = rkey s p from rfl] at HPK
      have hp1 : rp1 s p = p + 1 + valR s p 1 := rfl
      have hk0I : (valR s p 1 : Int) ≤ 255 := by omega
      obtain ⟨Z, hZ⟩ : ∃ Z, valR s (rp1 s p) 2 = Z := ⟨_, rfl⟩
      have hZ0 := valR_lt s (rp1 s p) 2
      have HVZ := Lib.hid (value_v (s := s) (rp1 s p) 2 ((p : Int) + 1 + (valR s p 1 : Int)) 2 (by unfold rp1; omega) rfl HS.out (by omega) (by omega))
      have HPL := Lib.hid (part_v (s := s) (rp1 s p + 2) (min Z 100) ((p : Int) + 1 + (valR s p 1 : Int) + 2) (min (Z : Int) 100) (by unfold rp1; omega) (by omega) HS.out (by omega) (by omega))
      rw [show partR s (rp1 s p + 2) (min Z 100) = rloc s p by unfold rloc; rw [hZ]] at HPL
      have hlo : (rloc s p).size ≤ 100 := by unfold rloc; rw [hZ]; exact Nat.le_trans (partR_size _ _ _) (Nat.min_le_right _ _)
      have hp2 : rp2 s p = rp1 s p + 2 + (rloc s p).size := rfl
      have HVP := Lib.hid (value_v (s := s) (rp2 s p) 4 ((p : Int) + 1 + (valR s p 1 : Int) + 2 + ((rloc s p).size : Int)) 4 (by unfold rp2 rp1; omega) rfl HS.out (by omega) (by omega))
      have HRCS : Hid (Z ≤ 100 → rtL s = l ++ [⟨rkey s p, Z, rloc s p, 0⟩] ++ rcellsR 1 s (rtN s - (l.length + 1)) (rp2 s p)) := Lib.hid (fun h => by rw [hl2]; unfold rcellR; rw [if_pos rfl, hZ, if_neg (by omega)])
      have HRCL : Hid (100 < Z → rtL s = l ++ [⟨rkey s p, Z, rloc s p, (valR s (rp2 s p) 4 : Int)⟩] ++ rcellsR 1 s (rtN s - (l.length + 1)) (rp2 s p + 4)) := Lib.hid (fun h => by rw [hl2]; unfold rcellR; rw [if_pos rfl, hZ, if_pos h])
      rw [hZ] at HVZ hZ0
      have hZI : (Z : Int) ≤ 65535 := by omega
      have hloI : ((rloc s p).size : Int) ≤ 100 := by omega
      obtain ⟨LO, hLO⟩ : ∃ LO, rloc s p = LO := ⟨_, rfl⟩
      obtain ⟨P2, hP2⟩ : ∃ P2, rp2 s p = P2 := ⟨_, rfl⟩
      obtain ⟨PG, hPG⟩ : ∃ PG, valR s P2 4 = PG := ⟨_, rfl⟩
      rw [hLO] at HPL hlo hp2 HVP HRCS HRCL hloI
      rw [hP2] at hp2 HVP HRCS HRCL
      rw [hPG] at HVP HRCL
      obtain ⟨k0, hk0e⟩ : ∃ k0, valR s p 1 = k0 := ⟨_, rfl⟩
      obtain ⟨KY, hKY⟩ : ∃ KY, rkey s p = KY := ⟨_, rfl⟩
      rw [hk0e] at HVK HPK hk0I hp1 HVZ HPL HVP
      rw [hKY] at HPK HRCS HRCL
      rw [hp1] at hp2
      have hP2I : (P2 : Int) = p + 1 + k0 + 2 + (LO.size : Int) := by omega
      have HP2I := Lib.hid hP2I
      clear hP2I
      have hgo' := trivial
      clear hst hl2 hl hm hgo' hown hk0 hkp hk0e hKY hp1 hp2 hlo hZ0 hLO hP2 hPG hZ
      go_wp2_with fail
      refine (HVK.out _).mono ?_
      rintro e wv ⟨rfl, rfl⟩
      go_wp2_with fail
      refine (HPK.out _).mono ?_
      rintro e wv ⟨rfl, rfl⟩
      go_wp2_with fail
      refine (HVZ.out _).mono ?_
      rintro e wv ⟨rfl, rfl⟩
      by_cases hz : 100 < (Z : Int)
      · have hmin : min (Z : Int) 100 = 100 := by omega
        rw [hmin] at HPL
        have HNEXT := Lib.hid (HRCL.out (by omega))
        clear HRCS HRCL
        go_wp2_with fail
        refine (HPL.out _).mono ?_
        rintro e wv ⟨rfl, rfl⟩
        go_wp2_with fail
        refine (HVP.out _).mono ?_
        rintro e wv ⟨rfl, rfl⟩
        have HO := Lib.hid (own_step (own_step HO0.out (one_alloc (o := .cells #[.string KY, .int .i64 (Z : Int), .string LO, .int .i64 (PG : Int)] 30))) (one_alloc (o := .cells #[.string KY, .int .i64 (Z : Int), .string LO, .int .i64 (PG : Int)] 30)))
        have HR4 := Lib.hid (rt3_step (rt3_step HR3.out (one_alloc (o := .cells #[.string KY, .int .i64 (Z : Int), .string LO, .int .i64 (PG : Int)] 30))) (one_alloc (o := .cells #[.string KY, .int .i64 (Z : Int), .string LO, .int .i64 (PG : Int)] 30)))
        have HBS := Lib.hid HR4.out.2.2.2.2.2
        obtain ⟨q0, q1, q2, q3⟩ := cell4 (rt3_step HR3.out (one_alloc (o := .cells #[.string KY, .int .i64 (Z : Int), .string LO, .int .i64 (PG : Int)] 30))).1
        have hrd := reads4h wr (.cells #[.string KY, .int .i64 (Z : Int), .string LO, .int .i64 (PG : Int)] 30) ⟨KY, (Z : Int), LO, (PG : Int)⟩
        obtain ⟨iv, hv1, hv2, hv3, hv4⟩ := info_parts (show (Tryd.prog.info? 30).map (fun i => (i.zero, i.size, i.bytes)) = some (some (.agg #[.string ⟨#[]⟩, .int .i64 0, .string ⟨#[]⟩, .int .i64 0]), 4, 48) by kernel_rfl)
        go_wp2_with (at_builtin; refine wpList_append_any _ rfl (.tmp 97) (.tmp 99) 25 rfl base 30 iv _ 4 48 Tryd.underlying25 hv1 hv2 hv3 hv4 rfl (by omega) _ l.length (clCs l) rfl HO.out (wr.heap.size + 1 + 1) (some ⟨wr.heap.size + 1, 0, none⟩) 1 1 [.string KY, .int .i64 (Z : Int), .string LO, .int .i64 (PG : Int)] rfl hrd (by intro u hu; simp at hu; rcases hu with rfl | rfl | rfl | rfl <;> rfl) (by simp only [maxLen]; omega) (by omega) HBS.out ?_; intro v1 w4 hown1 hg1 hat1; (obtain ⟨A1, c1, rfl⟩ := own_slice hown1); (have HR5 := Lib.hid (rt3_grown HR4.out hg1 (fun z hz => (HO.out.lt z hz).1))); (have HO5 := Lib.hid hown1); (have g2 := HR5.out.1.cell 2); (have gf2 := HR5.out.1.frozen 2); clear hown1 hg1 hat1 hrd)
        have HDONE := Lib.hid (rt3_done (l := l ++ [⟨KY, (Z : Int), LO, (PG : Int)⟩]) HR5.out (by rw [clCs_snoc, List.length_append]; exact HO5.out))
        go_wp2
        go_roundw
        case rel => exact ⟨l.length + 1, P2 + 4, l ++ [⟨KY, (Z : Int), LO, (PG : Int)⟩], _, by omega, by go_num, by first | exact congrArg (Value.int .i64) (by have := HP2I.out; omega), HNEXT.out, by rw [List.length_append]; rfl, by have := HP2I.out; omega, HDONE.out⟩
        case measure => simp only [intOf]; omega
      · have hmin : min (Z : Int) 100 = Z := by omega
        rw [hmin] at HPL
        have hz2 : decide (100 < (Z : Int)) = false := decide_eq_false hz
        have HNEXT := Lib.hid (HRCS.out (by omega))
        clear HRCS HRCL hz
        go_wp2_with fail
        refine (HPL.out _).mono ?_
        rintro e wv ⟨rfl, rfl⟩
        have HO := Lib.hid (own_step (own_step HO0.out (one_alloc (o := .cells #[.string KY, .int .i64 (Z : Int), .string LO, .int .i64 0] 30))) (one_alloc (o := .cells #[.string KY, .int .i64 (Z : Int), .string LO, .int .i64 0] 30)))
        have HR4 := Lib.hid (rt3_step (rt3_step HR3.out (one_alloc (o := .cells #[.string KY, .int .i64 (Z : Int), .string LO, .int .i64 0] 30))) (one_alloc (o := .cells #[.string KY, .int .i64 (Z : Int), .string LO, .int .i64 0] 30)))
        have HBS := Lib.hid HR4.out.2.2.2.2.2
        obtain ⟨q0, q1, q2, q3⟩ := cell4 (rt3_step HR3.out (one_alloc (o := .cells #[.string KY, .int .i64 (Z : Int), .string LO, .int .i64 0] 30))).1
        have hrd := reads4h wr (.cells #[.string KY, .int .i64 (Z : Int), .string LO, .int .i64 0] 30) ⟨KY, (Z : Int), LO, 0⟩
        obtain ⟨iv, hv1, hv2, hv3, hv4⟩ := info_parts (show (Tryd.prog.info? 30).map (fun i => (i.zero, i.size, i.bytes)) = some (some (.agg #[.string ⟨#[]⟩, .int .i64 0, .string ⟨#[]⟩, .int .i64 0]), 4, 48) by kernel_rfl)
        go_wp2_with (at_builtin; refine wpList_append_any _ rfl (.tmp 97) (.tmp 99) 25 rfl base 30 iv _ 4 48 Tryd.underlying25 hv1 hv2 hv3 hv4 rfl (by omega) _ l.length (clCs l) rfl HO.out (wr.heap.size + 1 + 1) (some ⟨wr.heap.size + 1, 0, none⟩) 1 1 [.string KY, .int .i64 (Z : Int), .string LO, .int .i64 0] rfl hrd (by intro u hu; simp at hu; rcases hu with rfl | rfl | rfl | rfl <;> rfl) (by simp only [maxLen]; omega) (by omega) HBS.out ?_; intro v1 w4 hown1 hg1 hat1; (obtain ⟨A1, c1, rfl⟩ := own_slice hown1); (have HR5 := Lib.hid (rt3_grown HR4.out hg1 (fun z hz => (HO.out.lt z hz).1))); (have HO5 := Lib.hid hown1); (have g2 := HR5.out.1.cell 2); (have gf2 := HR5.out.1.frozen 2); clear hown1 hg1 hat1 hrd)
        have HDONE := Lib.hid (rt3_done (l := l ++ [⟨KY, (Z : Int), LO, 0⟩]) HR5.out (by rw [clCs_snoc, List.length_append]; exact HO5.out))
        go_wp2
        go_roundw
        case rel => exact ⟨l.length + 1, P2, l ++ [⟨KY, (Z : Int), LO, 0⟩], _, by omega, by go_num, by first | exact congrArg (Value.int .i64) (by have := HP2I.out; omega), HNEXT.out, by rw [List.length_append]; rfl, by have := HP2I.out; omega, HDONE.out⟩
        case measure => simp only [intOf]; omega
    · have hl3 : rtL s = l := by
        rw [hl]
        by_cases hjn : j < rtN s
        · have hps : ¬ p < s.size := fun h => hgo ⟨hjn, h⟩
          obtain ⟨m, hm⟩ : ∃ m, rtN s - j = m + 1 := ⟨rtN s - j - 1, by omega⟩
          rw [hm, rcellsR, if_neg hps, List.append_nil]
        · rw [show rtN s - j = 0 by omega, rcellsR, List.append_nil]
      have HRL := Lib.hid hl3
      obtain ⟨base, hb1, hb2, hown⟩ := hst.2.2.1
      obtain ⟨A, cc, rfl, _⟩ := cls_of_own hown
      clear hl hlj hst hb1 hb2 hown base
      by_cases hjn : j < rtN s
      · have hps : ¬ p < s.size := fun h => hgo ⟨hjn, h⟩
        have hd : decide (p < s.size) = false := decide_eq_false hps
        have hjI : (j : Int) < rtN s := by omega
        clear hgo hl3 hps
        obtain ⟨T, E, hTE⟩ : ∃ T E, putN 1 0 l ⟨#[]⟩ = (T, E) := ⟨_, _, rfl⟩
        have HPU := Lib.hid hTE
        clear hTE
        have HLNG : Hid ((l : List Cl).length ≤ 65535) := Lib.hid (by have := rtL_len s; rw [HRL.out] at this; exact this)
        obtain ⟨c0, c1, c2, c3⟩ := cell4 HST.out.1
        obtain ⟨f0, f1, f2, f3⟩ := froz4 HST.out.1
        obtain ⟨z0, z1, z2, z3⟩ := cell4 HST.out.2.1
        obtain ⟨y0, y1, y2, y3⟩ := froz4 HST.out.2.1
        go_wp2_with fail
        refine (rt_put HST.out HLNG.out HPU.out).mono ?_
        rintro e wp ⟨rfl, hsp⟩
        have HSP := Lib.hid hsp
        clear hsp HST
        clear c0 c1 c2 c3 f0 f1 f2 f3 z0 z1 z2 z3 y0 y1 y2 y3
        obtain ⟨c0, c1, c2, c3⟩ := cell4 HSP.out.1
        obtain ⟨f0, f1, f2, f3⟩ := froz4 HSP.out.1
        obtain ⟨z0, z1, z2, z3⟩ := cell4 HSP.out.2.1
        obtain ⟨y0, y1, y2, y3⟩ := froz4 HSP.out.2.1
        by_cases hE : E = 0
        · subst hE
          by_cases hT : T = s
          · subst hT
            go_wp2
            obtain ⟨e1, e2, e3⟩ := rt_end HSP.out (.int .u8 1) (.int .i64 0) (Value.slice A l.length cc) (.string ⟨#[]⟩)
            obtain ⟨d0, d1, d2, d3⟩ := cell4 e1
            exact bodyPost_ret (v := .tuple #[.agg #[.int .u8 1, .int .i64 0, Value.slice A l.length cc, .string ⟨#[]⟩], .int .i64 0]) (by simp [results, Tryd.results19, go_sem, d0, d1, d2, d3]) rfl (rt_good e3 e2 (by rw [HRK.out, HRF.out, HRL.out, HRD.out]; exact HPU.out) HRK.out HRF.out HRL.out HRD.out)
          · have hTn := toList_ne (S := T) (T := s) (fun h => hT h.symm)
            have HTT := Lib.hid hT
            clear hT
            go_wp2
            obtain ⟨e1, e2, e3⟩ := rt_end HSP.out (.int .u8 0) (.int .i64 0) (.slice none 0 0) (.string ⟨#[]⟩)
            obtain ⟨d0, d1, d2, d3⟩ := cell4 e1
            exact bodyPost_ret (v := .tuple #[.agg #[.int .u8 0, .int .i64 0, .slice none 0 0, .string ⟨#[]⟩], .int .i64 7]) (by simp [results, Tryd.results19, go_sem, d0, d1, d2, d3]) rfl (rt_bad e3 (by have h := HPU.out; intro hc; rw [HRK.out, HRF.out, HRL.out, HRD.out, h] at hc; exact HTT.out (congrArg Prod.fst hc)))
        · have hEn := beq_no' hE
          have HEE := Lib.hid hE
          clear hE
          go_wp2
          obtain ⟨e1, e2, e3⟩ := rt_end HSP.out (.int .u8 0) (.int .i64 0) (.slice none 0 0) (.string ⟨#[]⟩)
          obtain ⟨d0, d1, d2, d3⟩ := cell4 e1
          exact bodyPost_ret (v := .tuple #[.agg #[.int .u8 0, .int .i64 0, .slice none 0 0, .string ⟨#[]⟩], .int .i64 7]) (by simp [results, Tryd.results19, go_sem, d0, d1, d2, d3]) rfl (rt_bad e3 (by have h := HPU.out; intro hc; rw [HRK.out, HRF.out, HRL.out, HRD.out, h] at hc; exact HEE.out (congrArg Prod.snd hc)))
      · have hd : decide (j < rtN s) = false := decide_eq_false hjn
        clear hgo hl3 hjn
        obtain ⟨T, E, hTE⟩ : ∃ T E, putN 1 0 l ⟨#[]⟩ = (T, E) := ⟨_, _, rfl⟩
        have HPU := Lib.hid hTE
        clear hTE
        have HLNG : Hid ((l : List Cl).length ≤ 65535) := Lib.hid (by have := rtL_len s; rw [HRL.out] at this; exact this)
        obtain ⟨c0, c1, c2, c3⟩ := cell4 HST.out.1
        obtain ⟨f0, f1, f2, f3⟩ := froz4 HST.out.1
        obtain ⟨z0, z1, z2, z3⟩ := cell4 HST.out.2.1
        obtain ⟨y0, y1, y2, y3⟩ := froz4 HST.out.2.1
        go_wp2_with fail
        refine (rt_put HST.out HLNG.out HPU.out).mono ?_
        rintro e wp ⟨rfl, hsp⟩
        have HSP := Lib.hid hsp
        clear hsp HST
        clear c0 c1 c2 c3 f0 f1 f2 f3 z0 z1 z2 z3 y0 y1 y2 y3
        obtain ⟨c0, c1, c2, c3⟩ := cell4 HSP.out.1
        obtain ⟨f0, f1, f2, f3⟩ := froz4 HSP.out.1
        obtain ⟨z0, z1, z2, z3⟩ := cell4 HSP.out.2.1
        obtain ⟨y0, y1, y2, y3⟩ := froz4 HSP.out.2.1
        by_cases hE : E = 0
        · subst hE
          by_cases hT : T = s
          · subst hT
            go_wp2
            obtain ⟨e1, e2, e3⟩ := rt_end HSP.out (.int .u8 1) (.int .i64 0) (Value.slice A l.length cc) (.string ⟨#[]⟩)
            obtain ⟨d0, d1, d2, d3⟩ := cell4 e1
            exact bodyPost_ret (v := .tuple #[.agg #[.int .u8 1, .int .i64 0, Value.slice A l.length cc, .string ⟨#[]⟩], .int .i64 0]) (by simp [results, Tryd.results19, go_sem, d0, d1, d2, d3]) rfl (rt_good e3 e2 (by rw [HRK.out, HRF.out, HRL.out, HRD.out]; exact HPU.out) HRK.out HRF.out HRL.out HRD.out)
          · have hTn := toList_ne (S := T) (T := s) (fun h => hT h.symm)
            have HTT := Lib.hid hT
            clear hT
            go_wp2
            obtain ⟨e1, e2, e3⟩ := rt_end HSP.out (.int .u8 0) (.int .i64 0) (.slice none 0 0) (.string ⟨#[]⟩)
            obtain ⟨d0, d1, d2, d3⟩ := cell4 e1
            exact bodyPost_ret (v := .tuple #[.agg #[.int .u8 0, .int .i64 0, .slice none 0 0, .string ⟨#[]⟩], .int .i64 7]) (by simp [results, Tryd.results19, go_sem, d0, d1, d2, d3]) rfl (rt_bad e3 (by have h := HPU.out; intro hc; rw [HRK.out, HRF.out, HRL.out, HRD.out, h] at hc; exact HTT.out (congrArg Prod.fst hc)))
        · have hEn := beq_no' hE
          have HEE := Lib.hid hE
          clear hE
          go_wp2
          obtain ⟨e1, e2, e3⟩ := rt_end HSP.out (.int .u8 0) (.int .i64 0) (.slice none 0 0) (.string ⟨#[]⟩)
          obtain ⟨d0, d1, d2, d3⟩ := cell4 e1
          exact bodyPost_ret (v := .tuple #[.agg #[.int .u8 0, .int .i64 0, .slice none 0 0, .string ⟨#[]⟩], .int .i64 7]) (by simp [results, Tryd.results19, go_sem, d0, d1, d2, d3]) rfl (rt_bad e3 (by have h := HPU.out; intro hc; rw [HRK.out, HRF.out, HRL.out, HRD.out, h] at hc; exact HEE.out (congrArg Prod.snd hc)))
set_option maxRecDepth 100000 in
set_option maxHeartbeats 8000000 in
theorem rtake_2 (s : ByteArray) (w : World) (hs : s.size ≤ 4096) (hk : rtK s = 2) :
    Calls Tryd.prog 19 #[.string s] w fun e w' => RtP w s e w' := by
  have HV1 := Lib.hid (value_v (s := s) 0 1 0 1 rfl rfl hs (by omega) (by omega))
  have HV2 := Lib.hid (value_v (s := s) 1 2 1 2 rfl rfl hs (by omega) (by omega))
  have HV3 := Lib.hid (value_v (s := s) 3 4 3 4 rfl rfl hs (by omega) (by omega))
  rw [show valR s 0 1 = rtK s from rfl] at HV1
  rw [show valR s 1 2 = rtN s from rfl] at HV2
  have hK256 : rtK s < 256 := valR_lt s 0 1
  have hN : rtN s < 65536 := valR_lt s 1 2
  have HNN := Lib.hid hN
  have HQ := Lib.hid hk
  have HRK : Hid ((rtK s : Int) = 2) := Lib.hid (by rw [hk]; rfl)
  obtain ⟨FV, hFV⟩ : ∃ FV : Int, (valR s 3 4 : Int) = FV := ⟨_, rfl⟩
  rw [hFV] at HV3
  have HRF : Hid ((rtF s : Int) = FV) := Lib.hid (by unfold rtF; rw [if_neg (by omega)]; exact hFV)
  have HRD : Hid (rtD s = ⟨#[]⟩) := Lib.hid (by unfold rtD; rw [if_neg (by omega)])
  have HRL0 : Hid (rtL s = [] ++ rcellsR 2 s (rtN s - 0) 7) := Lib.hid (by unfold rtL rtP; rw [if_pos (by omega), hk, if_neg (by decide)]; rfl)
  rw [hk] at HV1
  clear hk hFV
  have HS := Lib.hid hs
  have hsI : (s.size : Int) ≤ 4096 := by omega
  clear hs hK256 hN
  go_enter Tryd.func19, Tryd.ntmps19
  go_wp2_with fail
  refine (HV1.out _).mono ?_
  rintro e wa ⟨rfl, rfl⟩
  have HST := Lib.hid (rt_new w 2 0 ⟨#[]⟩)
  obtain ⟨c0, c1, c2, c3⟩ := cell4 HST.out.1
  obtain ⟨f0, f1, f2, f3⟩ := froz4 HST.out.1
  obtain ⟨z0, z1, z2, z3⟩ := cell4 HST.out.2.1
  obtain ⟨y0, y1, y2, y3⟩ := froz4 HST.out.2.1
  go_wp2_with fail
  refine (HV2.out _).mono ?_
  rintro e wa ⟨rfl, rfl⟩
  go_wp2_with fail
  refine (HV3.out _).mono ?_
  rintro e wa ⟨rfl, rfl⟩
  have HST2 := Lib.hid (rt_set1 HST.out FV)
  clear HST
  have HST := HST2
  clear HST2
  clear c0 c1 c2 c3 f0 f1 f2 f3 z0 z1 z2 z3 y0 y1 y2 y3
  obtain ⟨c0, c1, c2, c3⟩ := cell4 HST.out.1
  obtain ⟨f0, f1, f2, f3⟩ := froz4 HST.out.1
  obtain ⟨z0, z1, z2, z3⟩ := cell4 HST.out.2.1
  obtain ⟨y0, y1, y2, y3⟩ := froz4 HST.out.2.1
  go_wp2
  go_loopw [6, 7] (fun a i wr => ∃ (j p : Nat) (l : List Cl) (v : Value), j ≤ rtN s ∧ i = .int .i64 j ∧ a = .int .i64 p ∧ rtL s = l ++ rcellsR 2 s (rtN s - j) p ∧ l.length = j ∧ p ≤ 6000 ∧ RtSt w (w.heap.size + 1) 2 FV v ⟨#[]⟩ l wr) (fun _ i _ => rtN s - (intOf i).toNat)
  case atStart => exact ⟨0, 7, [], .slice none 0 0, by omega, rfl, rfl, HRL0.out, rfl, by omega, rt_new w 2 FV ⟨#[]⟩⟩
  case round =>
    clear HST
    clear c0 c1 c2 c3 f0 f1 f2 f3 z0 z1 z2 z3 y0 y1 y2 y3
    obtain ⟨j, p, l, v, hj, rfl, rfl, hl, hlj, hp, hst⟩ := hrel
    have HST := Lib.hid hst
    have hpI : (p : Int) ≤ 6000 := by omega
    have hnI : (rtN s : Int) ≤ 65535 := by have := HNN.out; omega
    by_cases hgo : j < rtN s ∧ p < s.size
    · obtain ⟨hjn, hps⟩ := hgo
      obtain ⟨m, hm⟩ : ∃ m, rtN s - j = m + 1 := ⟨rtN s - j - 1, by omega⟩
      have hl2 : rtL s = (l ++ [(rcellR 2 s p).1]) ++ rcellsR 2 s (rtN s - (j + 1)) (rcellR 2 s p).2 := by
        rw [hl, hm, show rtN s - (j + 1) = m by omega]
        simp [rcellsR, hps]
      have HL2 := Lib.hid hl2
      have hjI : (j : Int) < rtN s := by omega
      have hpsI : (p : Int) < s.size := by omega
      have HVK := Lib.hid (value_v (s := s) p 1 p 1 rfl rfl HS.out (by omega) (by omega))
      have hk0 := valR_lt s p 1
      have hkp := partR_size s (p + 1) (valR s p 1)
      obtain ⟨base, hb1, hb2, hown⟩ := hst.2.2.1
      obtain ⟨A, cc, rfl, _⟩ := cls_of_own hown
      subst hlj
      have HR3 := Lib.hid (show Rt3 w (w.heap.size + 1) 2 FV (Value.slice A l.length cc) ⟨#[]⟩ base wr from ⟨hst.1, hst.2.1, hst.2.2.2.1, hst.2.2.2.2, hb1, hb2⟩)
      have HO0 := Lib.hid hown
      obtain ⟨c0, c1, c2, c3⟩ := cell4 hst.1
      obtain ⟨f0, f1, f2, f3⟩ := froz4 hst.1
      obtain ⟨z0, z1, z2, z3⟩ := cell4 hst.2.1
      obtain ⟨y0, y1, y2, y3⟩ := froz4 hst.2.1
      have ha0 : ∀ o, (wr.alloc o).cell? ⟨(w.heap.size + 1), 0, none⟩ = some (.int .u8 2) := fun o => (blk_step hst.1 one_alloc).cell 0
      have ha2 : ∀ o, (wr.alloc o).cell? ⟨(w.heap.size + 1), 2, none⟩ = some (Value.slice A l.length cc) := fun o => (blk_step hst.1 one_alloc).cell 2
      have HPK := Lib.hid (part_v (s := s) (p + 1) (valR s p 1) ((p : Int) + 1) (valR s p 1 : Int) rfl rfl HS.out (by omega) (by omega))
      rw [show partR s (p + 1) (valR s p 1) = rkey s p from rfl] at HPK
      have hp1 : rp1 s p = p + 1 + valR s p 1 := rfl
      have hk0I : (valR s p 1 : Int) ≤ 255 := by omega
      have HVP := Lib.hid (value_v (s := s) (rp1 s p) 4 ((p : Int) + 1 + (valR s p 1 : Int)) 4 (by unfold rp1; omega) rfl HS.out (by omega) (by omega))
      have HNEXT : Hid (rtL s = l ++ [⟨rkey s p, 0, ⟨#[]⟩, (valR s (rp1 s p) 4 : Int)⟩] ++ rcellsR 2 s (rtN s - (l.length + 1)) (rp1 s p + 4)) := Lib.hid (by rw [hl2]; unfold rcellR; rw [if_neg (by decide), if_pos rfl])
      obtain ⟨P1, hP1⟩ : ∃ P1, rp1 s p = P1 := ⟨_, rfl⟩
      rw [hP1] at hp1 HVP HNEXT
      obtain ⟨PG, hPG⟩ : ∃ PG, valR s P1 4 = PG := ⟨_, rfl⟩
      rw [hPG] at HVP HNEXT
      obtain ⟨k0, hk0e⟩ : ∃ k0, valR s p 1 = k0 := ⟨_, rfl⟩
      obtain ⟨KY, hKY⟩ : ∃ KY, rkey s p = KY := ⟨_, rfl⟩
      rw [hk0e] at HVK HPK hk0I hp1 HVP
      rw [hKY] at HPK HNEXT
      have HP2I : Hid ((P1 : Int) = p + 1 + k0) := Lib.hid (by omega)
      have hgo' := trivial
      clear hst hl2 hl hm hgo' hown hk0 hkp hk0e hKY hp1 hPG hP1
      go_wp2_with fail
      refine (HVK.out _).mono ?_
      rintro e wv ⟨rfl, rfl⟩
      go_wp2_with fail
      refine (HPK.out _).mono ?_
      rintro e wv ⟨rfl, rfl⟩
      go_wp2_with fail
      refine (HVP.out _).mono ?_
      rintro e wv ⟨rfl, rfl⟩
      have HO := Lib.hid (own_step (own_step HO0.out (one_alloc (o := .cells #[.string KY, .int .i64 0, .string ⟨#[]⟩, .int .i64 (PG : Int)] 30))) (one_alloc (o := .cells #[.string KY, .int .i64 0, .string ⟨#[]⟩, .int .i64 (PG : Int)] 30)))
      have HR4 := Lib.hid (rt3_step (rt3_step HR3.out (one_alloc (o := .cells #[.string KY, .int .i64 0, .string ⟨#[]⟩, .int .i64 (PG : Int)] 30))) (one_alloc (o := .cells #[.string KY, .int .i64 0, .string ⟨#[]⟩, .int .i64 (PG : Int)] 30)))
      have HBS := Lib.hid HR4.out.2.2.2.2.2
      obtain ⟨q0, q1, q2, q3⟩ := cell4 (rt3_step HR3.out (one_alloc (o := .cells #[.string KY, .int .i64 0, .string ⟨#[]⟩, .int .i64 (PG : Int)] 30))).1
      have hrd := reads4h wr (.cells #[.string KY, .int .i64 0, .string ⟨#[]⟩, .int .i64 (PG : Int)] 30) ⟨KY, 0, ⟨#[]⟩, (PG : Int)⟩
      obtain ⟨iv, hv1, hv2, hv3, hv4⟩ := info_parts (show (Tryd.prog.info? 30).map (fun i => (i.zero, i.size, i.bytes)) = some (some (.agg #[.string ⟨#[]⟩, .int .i64 0, .string ⟨#[]⟩, .int .i64 0]), 4, 48) by kernel_rfl)
      go_wp2_with (at_builtin; refine wpList_append_any _ rfl (.tmp 97) (.tmp 99) 25 rfl base 30 iv _ 4 48 Tryd.underlying25 hv1 hv2 hv3 hv4 rfl (by omega) _ l.length (clCs l) rfl HO.out (wr.heap.size + 1 + 1) (some ⟨wr.heap.size + 1, 0, none⟩) 1 1 [.string KY, .int .i64 0, .string ⟨#[]⟩, .int .i64 (PG : Int)] rfl hrd (by intro u hu; simp at hu; rcases hu with rfl | rfl | rfl | rfl <;> rfl) (by simp only [maxLen]; omega) (by omega) HBS.out ?_; intro v1 w4 hown1 hg1 hat1; (obtain ⟨A1, c1, rfl⟩ := own_slice hown1); (have HR5 := Lib.hid (rt3_grown HR4.out hg1 (fun z hz => (HO.out.lt z hz).1))); (have HO5 := Lib.hid hown1); (have g2 := HR5.out.1.cell 2); (have gf2 := HR5.out.1.frozen 2); clear hown1 hg1 hat1 hrd)
      have HDONE := Lib.hid (rt3_done (l := l ++ [⟨KY, 0, ⟨#[]⟩, (PG : Int)⟩]) HR5.out (by rw [clCs_snoc, List.length_append]; exact HO5.out))
      go_wp2
      go_roundw
      case rel => exact ⟨l.length + 1, P1 + 4, l ++ [⟨KY, 0, ⟨#[]⟩, (PG : Int)⟩], _, by omega, by go_num, by first | exact congrArg (Value.int .i64) (by have := HP2I.out; omega), HNEXT.out, by rw [List.length_append]; rfl, by have := HP2I.out; omega, HDONE.out⟩
      case measure => simp only [intOf]; omega
    · have hl3 : rtL s = l := by
        rw [hl]
        by_cases hjn : j < rtN s
        · have hps : ¬ p < s.size := fun h => hgo ⟨hjn, h⟩
          obtain ⟨m, hm⟩ : ∃ m, rtN s - j = m + 1 := ⟨rtN s - j - 1, by omega⟩
          rw [hm, rcellsR, if_neg hps, List.append_nil]
        · rw [show rtN s - j = 0 by omega, rcellsR, List.append_nil]
      have HRL := Lib.hid hl3
      obtain ⟨base, hb1, hb2, hown⟩ := hst.2.2.1
      obtain ⟨A, cc, rfl, _⟩ := cls_of_own hown
      clear hl hlj hst hb1 hb2 hown base
      by_cases hjn : j < rtN s
      · have hps : ¬ p < s.size := fun h => hgo ⟨hjn, h⟩
        have hd : decide (p < s.size) = false := decide_eq_false hps
        have hjI : (j : Int) < rtN s := by omega
        clear hgo hl3 hps
        obtain ⟨T, E, hTE⟩ : ∃ T E, putN 2 FV l ⟨#[]⟩ = (T, E) := ⟨_, _, rfl⟩
        have HPU := Lib.hid hTE
        clear hTE
        have HLNG : Hid ((l : List Cl).length ≤ 65535) := Lib.hid (by have := rtL_len s; rw [HRL.out] at this; exact this)
        obtain ⟨c0, c1, c2, c3⟩ := cell4 HST.out.1
        obtain ⟨f0, f1, f2, f3⟩ := froz4 HST.out.1
        obtain ⟨z0, z1, z2, z3⟩ := cell4 HST.out.2.1
        obtain ⟨y0, y1, y2, y3⟩ := froz4 HST.out.2.1
        go_wp2_with fail
        refine (rt_put HST.out HLNG.out HPU.out).mono ?_
        rintro e wp ⟨rfl, hsp⟩
        have HSP := Lib.hid hsp
        clear hsp HST
        clear c0 c1 c2 c3 f0 f1 f2 f3 z0 z1 z2 z3 y0 y1 y2 y3
        obtain ⟨c0, c1, c2, c3⟩ := cell4 HSP.out.1
        obtain ⟨f0, f1, f2, f3⟩ := froz4 HSP.out.1
        obtain ⟨z0, z1, z2, z3⟩ := cell4 HSP.out.2.1
        obtain ⟨y0, y1, y2, y3⟩ := froz4 HSP.out.2.1
        by_cases hE : E = 0
        · subst hE
          by_cases hT : T = s
          · subst hT
            go_wp2
            obtain ⟨e1, e2, e3⟩ := rt_end HSP.out (.int .u8 2) (.int .i64 FV) (Value.slice A l.length cc) (.string ⟨#[]⟩)
            obtain ⟨d0, d1, d2, d3⟩ := cell4 e1
            exact bodyPost_ret (v := .tuple #[.agg #[.int .u8 2, .int .i64 FV, Value.slice A l.length cc, .string ⟨#[]⟩], .int .i64 0]) (by simp [results, Tryd.results19, go_sem, d0, d1, d2, d3]) rfl (rt_good e3 e2 (by rw [HRK.out, HRF.out, HRL.out, HRD.out]; exact HPU.out) HRK.out HRF.out HRL.out HRD.out)
          · have hTn := toList_ne (S := T) (T := s) (fun h => hT h.symm)
            have HTT := Lib.hid hT
            clear hT
            go_wp2
            obtain ⟨e1, e2, e3⟩ := rt_end HSP.out (.int .u8 0) (.int .i64 0) (.slice none 0 0) (.string ⟨#[]⟩)
            obtain ⟨d0, d1, d2, d3⟩ := cell4 e1
            exact bodyPost_ret (v := .tuple #[.agg #[.int .u8 0, .int .i64 0, .slice none 0 0, .string ⟨#[]⟩], .int .i64 7]) (by simp [results, Tryd.results19, go_sem, d0, d1, d2, d3]) rfl (rt_bad e3 (by have h := HPU.out; intro hc; rw [HRK.out, HRF.out, HRL.out, HRD.out, h] at hc; exact HTT.out (congrArg Prod.fst hc)))
        · have hEn := beq_no' hE
          have HEE := Lib.hid hE
          clear hE
          go_wp2
          obtain ⟨e1, e2, e3⟩ := rt_end HSP.out (.int .u8 0) (.int .i64 0) (.slice none 0 0) (.string ⟨#[]⟩)
          obtain ⟨d0, d1, d2, d3⟩ := cell4 e1
          exact bodyPost_ret (v := .tuple #[.agg #[.int .u8 0, .int .i64 0, .slice none 0 0, .string ⟨#[]⟩], .int .i64 7]) (by simp [results, Tryd.results19, go_sem, d0, d1, d2, d3]) rfl (rt_bad e3 (by have h := HPU.out; intro hc; rw [HRK.out, HRF.out, HRL.out, HRD.out, h] at hc; exact HEE.out (congrArg Prod.snd hc)))
      · have hd : decide (j < rtN s) = false := decide_eq_false hjn
        clear hgo hl3 hjn
        obtain ⟨T, E, hTE⟩ : ∃ T E, putN 2 FV l ⟨#[]⟩ = (T, E) := ⟨_, _, rfl⟩
        have HPU := Lib.hid hTE
        clear hTE
        have HLNG : Hid ((l : List Cl).length ≤ 65535) := Lib.hid (by have := rtL_len s; rw [HRL.out] at this; exact this)
        obtain ⟨c0, c1, c2, c3⟩ := cell4 HST.out.1
        obtain ⟨f0, f1, f2, f3⟩ := froz4 HST.out.1
        obtain ⟨z0, z1, z2, z3⟩ := cell4 HST.out.2.1
        obtain ⟨y0, y1, y2, y3⟩ := froz4 HST.out.2.1
        go_wp2_with fail
        refine (rt_put HST.out HLNG.out HPU.out).mono ?_
        rintro e wp ⟨rfl, hsp⟩
        have HSP := Lib.hid hsp
        clear hsp HST
        clear c0 c1 c2 c3 f0 f1 f2 f3 z0 z1 z2 z3 y0 y1 y2 y3
        obtain ⟨c0, c1, c2, c3⟩ := cell4 HSP.out.1
        obtain ⟨f0, f1, f2, f3⟩ := froz4 HSP.out.1
        obtain ⟨z0, z1, z2, z3⟩ := cell4 HSP.out.2.1
        obtain ⟨y0, y1, y2, y3⟩ := froz4 HSP.out.2.1
        by_cases hE : E = 0
        · subst hE
          by_cases hT : T = s
          · subst hT
            go_wp2
            obtain ⟨e1, e2, e3⟩ := rt_end HSP.out (.int .u8 2) (.int .i64 FV) (Value.slice A l.length cc) (.string ⟨#[]⟩)
            obtain ⟨d0, d1, d2, d3⟩ := cell4 e1
            exact bodyPost_ret (v := .tuple #[.agg #[.int .u8 2, .int .i64 FV, Value.slice A l.length cc, .string ⟨#[]⟩], .int .i64 0]) (by simp [results, Tryd.results19, go_sem, d0, d1, d2, d3]) rfl (rt_good e3 e2 (by rw [HRK.out, HRF.out, HRL.out, HRD.out]; exact HPU.out) HRK.out HRF.out HRL.out HRD.out)
          · have hTn := toList_ne (S := T) (T := s) (fun h => hT h.symm)
            have HTT := Lib.hid hT
            clear hT
            go_wp2
            obtain ⟨e1, e2, e3⟩ := rt_end HSP.out (.int .u8 0) (.int .i64 0) (.slice none 0 0) (.string ⟨#[]⟩)
            obtain ⟨d0, d1, d2, d3⟩ := cell4 e1
            exact bodyPost_ret (v := .tuple #[.agg #[.int .u8 0, .int .i64 0, .slice none 0 0, .string ⟨#[]⟩], .int .i64 7]) (by simp [results, Tryd.results19, go_sem, d0, d1, d2, d3]) rfl (rt_bad e3 (by have h := HPU.out; intro hc; rw [HRK.out, HRF.out, HRL.out, HRD.out, h] at hc; exact HTT.out (congrArg Prod.fst hc)))
        · have hEn := beq_no' hE
          have HEE := Lib.hid hE
          clear hE
          go_wp2
          obtain ⟨e1, e2, e3⟩ := rt_end HSP.out (.int .u8 0) (.int .i64 0) (.slice none 0 0) (.string ⟨#[]⟩)
          obtain ⟨d0, d1, d2, d3⟩ := cell4 e1
          exact bodyPost_ret (v := .tuple #[.agg #[.int .u8 0, .int .i64 0, .slice none 0 0, .string ⟨#[]⟩], .int .i64 7]) (by simp [results, Tryd.results19, go_sem, d0, d1, d2, d3]) rfl (rt_bad e3 (by have h := HPU.out; intro hc; rw [HRK.out, HRF.out, HRL.out, HRD.out, h] at hc; exact HEE.out (congrArg Prod.snd hc)))
set_option maxRecDepth 100000 in
set_option maxHeartbeats 8000000 in
theorem rtake_0 (s : ByteArray) (w : World) (hs : s.size ≤ 4096) (hk : rtK s = 0) :
    Calls Tryd.prog 19 #[.string s] w fun e w' => RtP w s e w' := by
  have HV1 := Lib.hid (value_v (s := s) 0 1 0 1 rfl rfl hs (by omega) (by omega))
  have HV2 := Lib.hid (value_v (s := s) 1 2 1 2 rfl rfl hs (by omega) (by omega))
  have HV3 := Lib.hid (value_v (s := s) 3 4 3 4 rfl rfl hs (by omega) (by omega))
  rw [show valR s 0 1 = rtK s from rfl] at HV1
  rw [show valR s 1 2 = rtN s from rfl] at HV2
  have hK256 : rtK s < 256 := valR_lt s 0 1
  have hN : rtN s < 65536 := valR_lt s 1 2
  have HNN := Lib.hid hN
  have HQ := Lib.hid hk
  have HRK : Hid ((rtK s : Int) = 0) := Lib.hid (by rw [hk]; rfl)
  obtain ⟨FV, hFV⟩ : ∃ FV : Int, (valR s 3 4 : Int) = FV := ⟨_, rfl⟩
  rw [hFV] at HV3
  have HRF : Hid ((rtF s : Int) = FV) := Lib.hid (by unfold rtF; rw [if_neg (by omega)]; exact hFV)
  have HRD : Hid (rtD s = ⟨#[]⟩) := Lib.hid (by unfold rtD; rw [if_neg (by omega)])
  have HRL0 : Hid (rtL s = [] ++ rcellsR 0 s (rtN s - 0) 7) := Lib.hid (by unfold rtL rtP; rw [if_pos (by omega), hk, if_neg (by decide)]; rfl)
  rw [hk] at HV1
  clear hk hFV
  have HS := Lib.hid hs
  have hsI : (s.size : Int) ≤ 4096 := by omega
  clear hs hK256 hN
  go_enter Tryd.func19, Tryd.ntmps19
  go_wp2_with fail
  refine (HV1.out _).mono ?_
  rintro e wa ⟨rfl, rfl⟩
  have HST := Lib.hid (rt_new w 0 0 ⟨#[]⟩)
  obtain ⟨c0, c1, c2, c3⟩ := cell4 HST.out.1
  obtain ⟨f0, f1, f2, f3⟩ := froz4 HST.out.1
  obtain ⟨z0, z1, z2, z3⟩ := cell4 HST.out.2.1
  obtain ⟨y0, y1, y2, y3⟩ := froz4 HST.out.2.1
  go_wp2_with fail
  refine (HV2.out _).mono ?_
  rintro e wa ⟨rfl, rfl⟩
  go_wp2_with fail
  refine (HV3.out _).mono ?_
  rintro e wa ⟨rfl, rfl⟩
  have HST2 := Lib.hid (rt_set1 HST.out FV)
  clear HST
  have HST := HST2
  clear HST2
  clear c0 c1 c2 c3 f0 f1 f2 f3 z0 z1 z2 z3 y0 y1 y2 y3
  obtain ⟨c0, c1, c2, c3⟩ := cell4 HST.out.1
  obtain ⟨f0, f1, f2, f3⟩ := froz4 HST.out.1
  obtain ⟨z0, z1, z2, z3⟩ := cell4 HST.out.2.1
  obtain ⟨y0, y1, y2, y3⟩ := froz4 HST.out.2.1
  go_wp2
  go_loopw [6, 7] (fun a i wr => ∃ (j p : Nat) (l : List Cl) (v : Value), j ≤ rtN s ∧ i = .int .i64 j ∧ a = .int .i64 p ∧ rtL s = l ++ rcellsR 0 s (rtN s - j) p ∧ l.length = j ∧ p ≤ 6000 ∧ RtSt w (w.heap.size + 1) 0 FV v ⟨#[]⟩ l wr) (fun _ i _ => rtN s - (intOf i).toNat)
  case atStart => exact ⟨0, 7, [], .slice none 0 0, by omega, rfl, rfl, HRL0.out, rfl, by omega, rt_new w 0 FV ⟨#[]⟩⟩
  case round =>
    clear HST
    clear c0 c1 c2 c3 f0 f1 f2 f3 z0 z1 z2 z3 y0 y1 y2 y3
    obtain ⟨j, p, l, v, hj, rfl, rfl, hl, hlj, hp, hst⟩ := hrel
    have HST := Lib.hid hst
    have hpI : (p : Int) ≤ 6000 := by omega
    have hnI : (rtN s : Int) ≤ 65535 := by have := HNN.out; omega
    by_cases hgo : j < rtN s ∧ p < s.size
    · obtain ⟨hjn, hps⟩ := hgo
      obtain ⟨m, hm⟩ : ∃ m, rtN s - j = m + 1 := ⟨rtN s - j - 1, by omega⟩
      have hl2 : rtL s = (l ++ [(rcellR 0 s p).1]) ++ rcellsR 0 s (rtN s - (j + 1)) (rcellR 0 s p).2 := by
        rw [hl, hm, show rtN s - (j + 1) = m by omega]
        simp [rcellsR, hps]
      have HL2 := Lib.hid hl2
      have hjI : (j : Int) < rtN s := by omega
      have hpsI : (p : Int) < s.size := by omega
      have HVK := Lib.hid (value_v (s := s) p 1 p 1 rfl rfl HS.out (by omega) (by omega))
      have hk0 := valR_lt s p 1
      have hkp := partR_size s (p + 1) (valR s p 1)
      obtain ⟨base, hb1, hb2, hown⟩ := hst.2.2.1
      obtain ⟨A, cc, rfl, _⟩ := cls_of_own hown
      subst hlj
      have HR3 := Lib.hid (show Rt3 w (w.heap.size + 1) 0 FV (Value.slice A l.length cc) ⟨#[]⟩ base wr from ⟨hst.1, hst.2.1, hst.2.2.2.1, hst.2.2.2.2, hb1, hb2⟩)
      have HO0 := Lib.hid hown
      obtain ⟨c0, c1, c2, c3⟩ := cell4 hst.1
      obtain ⟨f0, f1, f2, f3⟩ := froz4 hst.1
      obtain ⟨z0, z1, z2, z3⟩ := cell4 hst.2.1
      obtain ⟨y0, y1, y2, y3⟩ := froz4 hst.2.1
      have ha0 : ∀ o, (wr.alloc o).cell? ⟨(w.heap.size + 1), 0, none⟩ = some (.int .u8 0) := fun o => (blk_step hst.1 one_alloc).cell 0
      have ha2 : ∀ o, (wr.alloc o).cell? ⟨(w.heap.size + 1), 2, none⟩ = some (Value.slice A l.length cc) := fun o => (blk_step hst.1 one_alloc).cell 2
      have HPK := Lib.hid (part_v (s := s) (p + 1) (valR s p 1) ((p : Int) + 1) (valR s p 1 : Int) rfl rfl HS.out (by omega) (by omega))
      rw [show partR s (p + 1) (valR s p 1) = rkey s p from rfl] at HPK
      have hp1 : rp1 s p = p + 1 + valR s p 1 := rfl
      have hk0I : (valR s p 1 : Int) ≤ 255 := by omega
      have HNEXT : Hid (rtL s = l ++ [⟨rkey s p, 0, ⟨#[]⟩, 0⟩] ++ rcellsR 0 s (rtN s - (l.length + 1)) (rp1 s p)) := Lib.hid (by rw [hl2]; unfold rcellR; rw [if_neg (by decide), if_neg (by decide)])
      obtain ⟨P1, hP1⟩ : ∃ P1, rp1 s p = P1 := ⟨_, rfl⟩
      rw [hP1] at hp1 HNEXT
      obtain ⟨k0, hk0e⟩ : ∃ k0, valR s p 1 = k0 := ⟨_, rfl⟩
      obtain ⟨KY, hKY⟩ : ∃ KY, rkey s p = KY := ⟨_, rfl⟩
      rw [hk0e] at HVK HPK hk0I hp1
      rw [hKY] at HPK HNEXT
      have HP2I : Hid ((P1 : Int) = p + 1 + k0) := Lib.hid (by omega)
      have hgo' := trivial
      clear hst hl2 hl hm hgo' hown hk0 hkp hk0e hKY hp1 hP1
      go_wp2_with fail
      refine (HVK.out _).mono ?_
      rintro e wv ⟨rfl, rfl⟩
      go_wp2_with fail
      refine (HPK.out _).mono ?_
      rintro e wv ⟨rfl, rfl⟩
      have HO := Lib.hid (own_step (own_step HO0.out (one_alloc (o := .cells #[.string KY, .int .i64 0, .string ⟨#[]⟩, .int .i64 0] 30))) (one_alloc (o := .cells #[.string KY, .int .i64 0, .string ⟨#[]⟩, .int .i64 0] 30)))
      have HR4 := Lib.hid (rt3_step (rt3_step HR3.out (one_alloc (o := .cells #[.string KY, .int .i64 0, .string ⟨#[]⟩, .int .i64 0] 30))) (one_alloc (o := .cells #[.string KY, .int .i64 0, .string ⟨#[]⟩, .int .i64 0] 30)))
      have HBS := Lib.hid HR4.out.2.2.2.2.2
      obtain ⟨q0, q1, q2, q3⟩ := cell4 (rt3_step HR3.out (one_alloc (o := .cells #[.string KY, .int .i64 0, .string ⟨#[]⟩, .int .i64 0] 30))).1
      have hrd := reads4h wr (.cells #[.string KY, .int .i64 0, .string ⟨#[]⟩, .int .i64 0] 30) ⟨KY, 0, ⟨#[]⟩, 0⟩
      obtain ⟨iv, hv1, hv2, hv3, hv4⟩ := info_parts (show (Tryd.prog.info? 30).map (fun i => (i.zero, i.size, i.bytes)) = some (some (.agg #[.string ⟨#[]⟩, .int .i64 0, .string ⟨#[]⟩, .int .i64 0]), 4, 48) by kernel_rfl)
      go_wp2_with (at_builtin; refine wpList_append_any _ rfl (.tmp 97) (.tmp 99) 25 rfl base 30 iv _ 4 48 Tryd.underlying25 hv1 hv2 hv3 hv4 rfl (by omega) _ l.length (clCs l) rfl HO.out (wr.heap.size + 1 + 1) (some ⟨wr.heap.size + 1, 0, none⟩) 1 1 [.string KY, .int .i64 0, .string ⟨#[]⟩, .int .i64 0] rfl hrd (by intro u hu; simp at hu; rcases hu with rfl | rfl | rfl | rfl <;> rfl) (by simp only [maxLen]; omega) (by omega) HBS.out ?_; intro v1 w4 hown1 hg1 hat1; (obtain ⟨A1, c1, rfl⟩ := own_slice hown1); (have HR5 := Lib.hid (rt3_grown HR4.out hg1 (fun z hz => (HO.out.lt z hz).1))); (have HO5 := Lib.hid hown1); (have g2 := HR5.out.1.cell 2); (have gf2 := HR5.out.1.frozen 2); clear hown1 hg1 hat1 hrd)
      have HDONE := Lib.hid (rt3_done (l := l ++ [⟨KY, 0, ⟨#[]⟩, 0⟩]) HR5.out (by rw [clCs_snoc, List.length_append]; exact HO5.out))
      go_wp2
      go_roundw
      case rel => exact ⟨l.length + 1, P1, l ++ [⟨KY, 0, ⟨#[]⟩, 0⟩], _, by omega, by go_num, by first | exact congrArg (Value.int .i64) (by have := HP2I.out; omega), HNEXT.out, by rw [List.length_append]; rfl, by have := HP2I.out; omega, HDONE.out⟩
      case measure => simp only [intOf]; omega
    · have hl3 : rtL s = l := by
        rw [hl]
        by_cases hjn : j < rtN s
        · have hps : ¬ p < s.size := fun h => hgo ⟨hjn, h⟩
          obtain ⟨m, hm⟩ : ∃ m, rtN s - j = m + 1 := ⟨rtN s - j - 1, by omega⟩
          rw [hm, rcellsR, if_neg hps, List.append_nil]
        · rw [show rtN s - j = 0 by omega, rcellsR, List.append_nil]
      have HRL := Lib.hid hl3
      obtain ⟨base, hb1, hb2, hown⟩ := hst.2.2.1
      obtain ⟨A, cc, rfl, _⟩ := cls_of_own hown
      clear hl hlj hst hb1 hb2 hown base
      by_cases hjn : j < rtN s
      · have hps : ¬ p < s.size := fun h => hgo ⟨hjn, h⟩
        have hd : decide (p < s.size) = false := decide_eq_false hps
        have hjI : (j : Int) < rtN s := by omega
        clear hgo hl3 hps
        obtain ⟨T, E, hTE⟩ : ∃ T E, putN 0 FV l ⟨#[]⟩ = (T, E) := ⟨_, _, rfl⟩
        have HPU := Lib.hid hTE
        clear hTE
        have HLNG : Hid ((l : List Cl).length ≤ 65535) := Lib.hid (by have := rtL_len s; rw [HRL.out] at this; exact this)
        obtain ⟨c0, c1, c2, c3⟩ := cell4 HST.out.1
        obtain ⟨f0, f1, f2, f3⟩ := froz4 HST.out.1
        obtain ⟨z0, z1, z2, z3⟩ := cell4 HST.out.2.1
        obtain ⟨y0, y1, y2, y3⟩ := froz4 HST.out.2.1
        go_wp2_with fail
        refine (rt_put HST.out HLNG.out HPU.out).mono ?_
        rintro e wp ⟨rfl, hsp⟩
        have HSP := Lib.hid hsp
        clear hsp HST
        clear c0 c1 c2 c3 f0 f1 f2 f3 z0 z1 z2 z3 y0 y1 y2 y3
        obtain ⟨c0, c1, c2, c3⟩ := cell4 HSP.out.1
        obtain ⟨f0, f1, f2, f3⟩ := froz4 HSP.out.1
        obtain ⟨z0, z1, z2, z3⟩ := cell4 HSP.out.2.1
        obtain ⟨y0, y1, y2, y3⟩ := froz4 HSP.out.2.1
        by_cases hE : E = 0
        · subst hE
          by_cases hT : T = s
          · subst hT
            go_wp2
            obtain ⟨e1, e2, e3⟩ := rt_end HSP.out (.int .u8 0) (.int .i64 FV) (Value.slice A l.length cc) (.string ⟨#[]⟩)
            obtain ⟨d0, d1, d2, d3⟩ := cell4 e1
            exact bodyPost_ret (v := .tuple #[.agg #[.int .u8 0, .int .i64 FV, Value.slice A l.length cc, .string ⟨#[]⟩], .int .i64 0]) (by simp [results, Tryd.results19, go_sem, d0, d1, d2, d3]) rfl (rt_good e3 e2 (by rw [HRK.out, HRF.out, HRL.out, HRD.out]; exact HPU.out) HRK.out HRF.out HRL.out HRD.out)
          · have hTn := toList_ne (S := T) (T := s) (fun h => hT h.symm)
            have HTT := Lib.hid hT
            clear hT
            go_wp2
            obtain ⟨e1, e2, e3⟩ := rt_end HSP.out (.int .u8 0) (.int .i64 0) (.slice none 0 0) (.string ⟨#[]⟩)
            obtain ⟨d0, d1, d2, d3⟩ := cell4 e1
            exact bodyPost_ret (v := .tuple #[.agg #[.int .u8 0, .int .i64 0, .slice none 0 0, .string ⟨#[]⟩], .int .i64 7]) (by simp [results, Tryd.results19, go_sem, d0, d1, d2, d3]) rfl (rt_bad e3 (by have h := HPU.out; intro hc; rw [HRK.out, HRF.out, HRL.out, HRD.out, h] at hc; exact HTT.out (congrArg Prod.fst hc)))
        · have hEn := beq_no' hE
          have HEE := Lib.hid hE
          clear hE
          go_wp2
          obtain ⟨e1, e2, e3⟩ := rt_end HSP.out (.int .u8 0) (.int .i64 0) (.slice none 0 0) (.string ⟨#[]⟩)
          obtain ⟨d0, d1, d2, d3⟩ := cell4 e1
          exact bodyPost_ret (v := .tuple #[.agg #[.int .u8 0, .int .i64 0, .slice none 0 0, .string ⟨#[]⟩], .int .i64 7]) (by simp [results, Tryd.results19, go_sem, d0, d1, d2, d3]) rfl (rt_bad e3 (by have h := HPU.out; intro hc; rw [HRK.out, HRF.out, HRL.out, HRD.out, h] at hc; exact HEE.out (congrArg Prod.snd hc)))
      · have hd : decide (j < rtN s) = false := decide_eq_false hjn
        clear hgo hl3 hjn
        obtain ⟨T, E, hTE⟩ : ∃ T E, putN 0 FV l ⟨#[]⟩ = (T, E) := ⟨_, _, rfl⟩
        have HPU := Lib.hid hTE
        clear hTE
        have HLNG : Hid ((l : List Cl).length ≤ 65535) := Lib.hid (by have := rtL_len s; rw [HRL.out] at this; exact this)
        obtain ⟨c0, c1, c2, c3⟩ := cell4 HST.out.1
        obtain ⟨f0, f1, f2, f3⟩ := froz4 HST.out.1
        obtain ⟨z0, z1, z2, z3⟩ := cell4 HST.out.2.1
        obtain ⟨y0, y1, y2, y3⟩ := froz4 HST.out.2.1
        go_wp2_with fail
        refine (rt_put HST.out HLNG.out HPU.out).mono ?_
        rintro e wp ⟨rfl, hsp⟩
        have HSP := Lib.hid hsp
        clear hsp HST
        clear c0 c1 c2 c3 f0 f1 f2 f3 z0 z1 z2 z3 y0 y1 y2 y3
        obtain ⟨c0, c1, c2, c3⟩ := cell4 HSP.out.1
        obtain ⟨f0, f1, f2, f3⟩ := froz4 HSP.out.1
        obtain ⟨z0, z1, z2, z3⟩ := cell4 HSP.out.2.1
        obtain ⟨y0, y1, y2, y3⟩ := froz4 HSP.out.2.1
        by_cases hE : E = 0
        · subst hE
          by_cases hT : T = s
          · subst hT
            go_wp2
            obtain ⟨e1, e2, e3⟩ := rt_end HSP.out (.int .u8 0) (.int .i64 FV) (Value.slice A l.length cc) (.string ⟨#[]⟩)
            obtain ⟨d0, d1, d2, d3⟩ := cell4 e1
            exact bodyPost_ret (v := .tuple #[.agg #[.int .u8 0, .int .i64 FV, Value.slice A l.length cc, .string ⟨#[]⟩], .int .i64 0]) (by simp [results, Tryd.results19, go_sem, d0, d1, d2, d3]) rfl (rt_good e3 e2 (by rw [HRK.out, HRF.out, HRL.out, HRD.out]; exact HPU.out) HRK.out HRF.out HRL.out HRD.out)
          · have hTn := toList_ne (S := T) (T := s) (fun h => hT h.symm)
            have HTT := Lib.hid hT
            clear hT
            go_wp2
            obtain ⟨e1, e2, e3⟩ := rt_end HSP.out (.int .u8 0) (.int .i64 0) (.slice none 0 0) (.string ⟨#[]⟩)
            obtain ⟨d0, d1, d2, d3⟩ := cell4 e1
            exact bodyPost_ret (v := .tuple #[.agg #[.int .u8 0, .int .i64 0, .slice none 0 0, .string ⟨#[]⟩], .int .i64 7]) (by simp [results, Tryd.results19, go_sem, d0, d1, d2, d3]) rfl (rt_bad e3 (by have h := HPU.out; intro hc; rw [HRK.out, HRF.out, HRL.out, HRD.out, h] at hc; exact HTT.out (congrArg Prod.fst hc)))
        · have hEn := beq_no' hE
          have HEE := Lib.hid hE
          clear hE
          go_wp2
          obtain ⟨e1, e2, e3⟩ := rt_end HSP.out (.int .u8 0) (.int .i64 0) (.slice none 0 0) (.string ⟨#[]⟩)
          obtain ⟨d0, d1, d2, d3⟩ := cell4 e1
          exact bodyPost_ret (v := .tuple #[.agg #[.int .u8 0, .int .i64 0, .slice none 0 0, .string ⟨#[]⟩], .int .i64 7]) (by simp [results, Tryd.results19, go_sem, d0, d1, d2, d3]) rfl (rt_bad e3 (by have h := HPU.out; intro hc; rw [HRK.out, HRF.out, HRL.out, HRD.out, h] at hc; exact HEE.out (congrArg Prod.snd hc)))
set_option maxRecDepth 100000 in
set_option maxHeartbeats 8000000 in
theorem rtake_3 (s : ByteArray) (w : World) (hs : s.size ≤ 4096) (hk : rtK s = 3) :
    Calls Tryd.prog 19 #[.string s] w fun e w' => RtP w s e w' := by
  have HV1 := Lib.hid (value_v (s := s) 0 1 0 1 rfl rfl hs (by omega) (by omega))
  have HV2 := Lib.hid (value_v (s := s) 1 2 1 2 rfl rfl hs (by omega) (by omega))
  have HV3 := Lib.hid (value_v (s := s) 3 4 3 4 rfl rfl hs (by omega) (by omega))
  rw [show valR s 0 1 = rtK s from rfl] at HV1
  rw [show valR s 1 2 = rtN s from rfl] at HV2
  have hK256 : rtK s < 256 := valR_lt s 0 1
  have hN : rtN s < 65536 := valR_lt s 1 2
  have HNN := Lib.hid hN
  have HQ := Lib.hid hk
  have HRK : Hid ((rtK s : Int) = 3) := Lib.hid (by rw [hk]; rfl)
  obtain ⟨FV, hFV⟩ : ∃ FV : Int, (valR s 3 4 : Int) = FV := ⟨_, rfl⟩
  rw [hFV] at HV3
  have HRF : Hid ((rtF s : Int) = FV) := Lib.hid (by unfold rtF; rw [if_neg (by omega)]; exact hFV)
  have HPD := Lib.hid (part_v (s := s) 7 (rtN s) 7 (rtN s : Int) rfl rfl hs (by omega) (by omega))
  obtain ⟨DV, hDV⟩ : ∃ DV, partR s 7 (rtN s) = DV := ⟨_, rfl⟩
  rw [hDV] at HPD
  have HRD : Hid (rtD s = DV) := Lib.hid (by unfold rtD rtP; rw [if_pos hk, if_neg (by omega)]; exact hDV)
  have HRL : Hid (rtL s = []) := Lib.hid (by unfold rtL; rw [if_neg (by omega)])
  rw [hk] at HV1
  clear hk hFV hDV
  have HS := Lib.hid hs
  have hsI : (s.size : Int) ≤ 4096 := by omega
  clear hs hK256 hN
  go_enter Tryd.func19, Tryd.ntmps19
  go_wp2_with fail
  refine (HV1.out _).mono ?_
  rintro e wa ⟨rfl, rfl⟩
  have HST := Lib.hid (rt_new w 3 0 ⟨#[]⟩)
  obtain ⟨c0, c1, c2, c3⟩ := cell4 HST.out.1
  obtain ⟨f0, f1, f2, f3⟩ := froz4 HST.out.1
  obtain ⟨z0, z1, z2, z3⟩ := cell4 HST.out.2.1
  obtain ⟨y0, y1, y2, y3⟩ := froz4 HST.out.2.1
  go_wp2_with fail
  refine (HV2.out _).mono ?_
  rintro e wa ⟨rfl, rfl⟩
  go_wp2_with fail
  refine (HV3.out _).mono ?_
  rintro e wa ⟨rfl, rfl⟩
  have HST2 := Lib.hid (rt_set1 HST.out FV)
  clear HST
  have HST := HST2
  clear HST2
  clear c0 c1 c2 c3 f0 f1 f2 f3 z0 z1 z2 z3 y0 y1 y2 y3
  obtain ⟨c0, c1, c2, c3⟩ := cell4 HST.out.1
  obtain ⟨f0, f1, f2, f3⟩ := froz4 HST.out.1
  obtain ⟨z0, z1, z2, z3⟩ := cell4 HST.out.2.1
  obtain ⟨y0, y1, y2, y3⟩ := froz4 HST.out.2.1
  go_wp2_with fail
  refine (HPD.out _).mono ?_
  rintro e wa ⟨rfl, rfl⟩
  have HST2 := Lib.hid (rt_set3 HST.out DV)
  clear HST
  have HST := HST2
  clear HST2
  clear c0 c1 c2 c3 f0 f1 f2 f3 z0 z1 z2 z3 y0 y1 y2 y3
  obtain ⟨c0, c1, c2, c3⟩ := cell4 HST.out.1
  obtain ⟨f0, f1, f2, f3⟩ := froz4 HST.out.1
  obtain ⟨z0, z1, z2, z3⟩ := cell4 HST.out.2.1
  obtain ⟨y0, y1, y2, y3⟩ := froz4 HST.out.2.1
  go_wp2
  go_loopw [6, 7] (fun a i wr => i = .int .i64 0 ∧ a = .int .i64 7 ∧ RtSt w (w.heap.size + 1) 3 FV (.slice none 0 0) DV [] wr) (fun _ i _ => 0)
  case atStart => exact ⟨rfl, rfl, rt_new w 3 FV DV⟩
  case round =>
    clear HST
    clear c0 c1 c2 c3 f0 f1 f2 f3 z0 z1 z2 z3 y0 y1 y2 y3
    obtain ⟨rfl, rfl, hst⟩ := hrel
    have HST := Lib.hid hst
    clear hst
    by_cases hjn : 0 < rtN s
    · have hjI : (0 : Int) < rtN s := by omega
      clear hjn
      obtain ⟨T, E, hTE⟩ : ∃ T E, putN 3 FV [] DV = (T, E) := ⟨_, _, rfl⟩
      have HPU := Lib.hid hTE
      clear hTE
      have HLNG : Hid (([] : List Cl).length ≤ 65535) := Lib.hid (by have := rtL_len s; rw [HRL.out] at this; exact this)
      obtain ⟨c0, c1, c2, c3⟩ := cell4 HST.out.1
      obtain ⟨f0, f1, f2, f3⟩ := froz4 HST.out.1
      obtain ⟨z0, z1, z2, z3⟩ := cell4 HST.out.2.1
      obtain ⟨y0, y1, y2, y3⟩ := froz4 HST.out.2.1
      go_wp2_with fail
      refine (rt_put HST.out HLNG.out HPU.out).mono ?_
      rintro e wp ⟨rfl, hsp⟩
      have HSP := Lib.hid hsp
      clear hsp HST
      clear c0 c1 c2 c3 f0 f1 f2 f3 z0 z1 z2 z3 y0 y1 y2 y3
      obtain ⟨c0, c1, c2, c3⟩ := cell4 HSP.out.1
      obtain ⟨f0, f1, f2, f3⟩ := froz4 HSP.out.1
      obtain ⟨z0, z1, z2, z3⟩ := cell4 HSP.out.2.1
      obtain ⟨y0, y1, y2, y3⟩ := froz4 HSP.out.2.1
      by_cases hE : E = 0
      · subst hE
        by_cases hT : T = s
        · subst hT
          go_wp2
          obtain ⟨e1, e2, e3⟩ := rt_end HSP.out (.int .u8 3) (.int .i64 FV) (Value.slice none 0 0) (.string DV)
          obtain ⟨d0, d1, d2, d3⟩ := cell4 e1
          exact bodyPost_ret (v := .tuple #[.agg #[.int .u8 3, .int .i64 FV, Value.slice none 0 0, .string DV], .int .i64 0]) (by simp [results, Tryd.results19, go_sem, d0, d1, d2, d3]) rfl (rt_good e3 e2 (by rw [HRK.out, HRF.out, HRL.out, HRD.out]; exact HPU.out) HRK.out HRF.out HRL.out HRD.out)
        · have hTn := toList_ne (S := T) (T := s) (fun h => hT h.symm)
          have HTT := Lib.hid hT
          clear hT
          go_wp2
          obtain ⟨e1, e2, e3⟩ := rt_end HSP.out (.int .u8 0) (.int .i64 0) (.slice none 0 0) (.string ⟨#[]⟩)
          obtain ⟨d0, d1, d2, d3⟩ := cell4 e1
          exact bodyPost_ret (v := .tuple #[.agg #[.int .u8 0, .int .i64 0, .slice none 0 0, .string ⟨#[]⟩], .int .i64 7]) (by simp [results, Tryd.results19, go_sem, d0, d1, d2, d3]) rfl (rt_bad e3 (by have h := HPU.out; intro hc; rw [HRK.out, HRF.out, HRL.out, HRD.out, h] at hc; exact HTT.out (congrArg Prod.fst hc)))
      · have hEn := beq_no' hE
        have HEE := Lib.hid hE
        clear hE
        go_wp2
        obtain ⟨e1, e2, e3⟩ := rt_end HSP.out (.int .u8 0) (.int .i64 0) (.slice none 0 0) (.string ⟨#[]⟩)
        obtain ⟨d0, d1, d2, d3⟩ := cell4 e1
        exact bodyPost_ret (v := .tuple #[.agg #[.int .u8 0, .int .i64 0, .slice none 0 0, .string ⟨#[]⟩], .int .i64 7]) (by simp [results, Tryd.results19, go_sem, d0, d1, d2, d3]) rfl (rt_bad e3 (by have h := HPU.out; intro hc; rw [HRK.out, HRF.out, HRL.out, HRD.out, h] at hc; exact HEE.out (congrArg Prod.snd hc)))
    · have hjI : (rtN s : Int) = 0 := by omega
      clear hjn
      obtain ⟨T, E, hTE⟩ : ∃ T E, putN 3 FV [] DV = (T, E) := ⟨_, _, rfl⟩
      have HPU := Lib.hid hTE
      clear hTE
      have HLNG : Hid (([] : List Cl).length ≤ 65535) := Lib.hid (by have := rtL_len s; rw [HRL.out] at this; exact this)
      obtain ⟨c0, c1, c2, c3⟩ := cell4 HST.out.1
      obtain ⟨f0, f1, f2, f3⟩ := froz4 HST.out.1
      obtain ⟨z0, z1, z2, z3⟩ := cell4 HST.out.2.1
      obtain ⟨y0, y1, y2, y3⟩ := froz4 HST.out.2.1
      go_wp2_with fail
      refine (rt_put HST.out HLNG.out HPU.out).mono ?_
      rintro e wp ⟨rfl, hsp⟩
      have HSP := Lib.hid hsp
      clear hsp HST
      clear c0 c1 c2 c3 f0 f1 f2 f3 z0 z1 z2 z3 y0 y1 y2 y3
      obtain ⟨c0, c1, c2, c3⟩ := cell4 HSP.out.1
      obtain ⟨f0, f1, f2, f3⟩ := froz4 HSP.out.1
      obtain ⟨z0, z1, z2, z3⟩ := cell4 HSP.out.2.1
      obtain ⟨y0, y1, y2, y3⟩ := froz4 HSP.out.2.1
      by_cases hE : E = 0
      · subst hE
        by_cases hT : T = s
        · subst hT
          go_wp2
          obtain ⟨e1, e2, e3⟩ := rt_end HSP.out (.int .u8 3) (.int .i64 FV) (Value.slice none 0 0) (.string DV)
          obtain ⟨d0, d1, d2, d3⟩ := cell4 e1
          exact bodyPost_ret (v := .tuple #[.agg #[.int .u8 3, .int .i64 FV, Value.slice none 0 0, .string DV], .int .i64 0]) (by simp [results, Tryd.results19, go_sem, d0, d1, d2, d3]) rfl (rt_good e3 e2 (by rw [HRK.out, HRF.out, HRL.out, HRD.out]; exact HPU.out) HRK.out HRF.out HRL.out HRD.out)
        · have hTn := toList_ne (S := T) (T := s) (fun h => hT h.symm)
          have HTT := Lib.hid hT
          clear hT
          go_wp2
          obtain ⟨e1, e2, e3⟩ := rt_end HSP.out (.int .u8 0) (.int .i64 0) (.slice none 0 0) (.string ⟨#[]⟩)
          obtain ⟨d0, d1, d2, d3⟩ := cell4 e1
          exact bodyPost_ret (v := .tuple #[.agg #[.int .u8 0, .int .i64 0, .slice none 0 0, .string ⟨#[]⟩], .int .i64 7]) (by simp [results, Tryd.results19, go_sem, d0, d1, d2, d3]) rfl (rt_bad e3 (by have h := HPU.out; intro hc; rw [HRK.out, HRF.out, HRL.out, HRD.out, h] at hc; exact HTT.out (congrArg Prod.fst hc)))
      · have hEn := beq_no' hE
        have HEE := Lib.hid hE
        clear hE
        go_wp2
        obtain ⟨e1, e2, e3⟩ := rt_end HSP.out (.int .u8 0) (.int .i64 0) (.slice none 0 0) (.string ⟨#[]⟩)
        obtain ⟨d0, d1, d2, d3⟩ := cell4 e1
        exact bodyPost_ret (v := .tuple #[.agg #[.int .u8 0, .int .i64 0, .slice none 0 0, .string ⟨#[]⟩], .int .i64 7]) (by simp [results, Tryd.results19, go_sem, d0, d1, d2, d3]) rfl (rt_bad e3 (by have h := HPU.out; intro hc; rw [HRK.out, HRF.out, HRL.out, HRD.out, h] at hc; exact HEE.out (congrArg Prod.snd hc)))
set_option maxRecDepth 100000 in
set_option maxHeartbeats 8000000 in
theorem rtake_o (s : ByteArray) (w : World) (hs : s.size ≤ 4096) (hk : 3 < rtK s) :
    Calls Tryd.prog 19 #[.string s] w fun e w' => RtP w s e w' := by
  have HV1 := Lib.hid (value_v (s := s) 0 1 0 1 rfl rfl hs (by omega) (by omega))
  have HV2 := Lib.hid (value_v (s := s) 1 2 1 2 rfl rfl hs (by omega) (by omega))
  have HV3 := Lib.hid (value_v (s := s) 3 4 3 4 rfl rfl hs (by omega) (by omega))
  rw [show valR s 0 1 = rtK s from rfl] at HV1
  rw [show valR s 1 2 = rtN s from rfl] at HV2
  have hK256 : rtK s < 256 := valR_lt s 0 1
  have hN : rtN s < 65536 := valR_lt s 1 2
  have HNN := Lib.hid hN
  have HQ := Lib.hid hk
  obtain ⟨KV, hKV⟩ : ∃ KV : Int, (rtK s : Int) = KV := ⟨_, rfl⟩
  have HRK : Hid ((rtK s : Int) = KV) := Lib.hid hKV
  obtain ⟨FV, hFV⟩ : ∃ FV : Int, (valR s 3 4 : Int) = FV := ⟨_, rfl⟩
  rw [hFV] at HV3
  have HRF : Hid ((rtF s : Int) = FV) := Lib.hid (by unfold rtF; rw [if_neg (by omega)]; exact hFV)
  have HRD : Hid (rtD s = ⟨#[]⟩) := Lib.hid (by unfold rtD; rw [if_neg (by omega)])
  have HRL : Hid (rtL s = []) := Lib.hid (by unfold rtL; rw [if_neg (by omega)])
  have hb1 := beq_no' (show ¬ KV = 1 by omega)
  have hb3 := beq_no' (show ¬ KV = 3 by omega)
  have hd3 : decide (KV < 3) = false := decide_eq_false (by omega)
  have hwr : IntKind.u8.wrap KV = KV := by rw [IntKind.wrap_u8]; omega
  rw [hKV] at HV1
  clear hk hFV hKV
  have HS := Lib.hid hs
  have hsI : (s.size : Int) ≤ 4096 := by omega
  clear hs hK256 hN
  go_enter Tryd.func19, Tryd.ntmps19
  go_wp2_with fail
  refine (HV1.out _).mono ?_
  rintro e wa ⟨rfl, rfl⟩
  have HST := Lib.hid (rt_new w KV 0 ⟨#[]⟩)
  obtain ⟨c0, c1, c2, c3⟩ := cell4 HST.out.1
  obtain ⟨f0, f1, f2, f3⟩ := froz4 HST.out.1
  obtain ⟨z0, z1, z2, z3⟩ := cell4 HST.out.2.1
  obtain ⟨y0, y1, y2, y3⟩ := froz4 HST.out.2.1
  go_wp2_with fail
  refine (HV2.out _).mono ?_
  rintro e wa ⟨rfl, rfl⟩
  go_wp2_with fail
  refine (HV3.out _).mono ?_
  rintro e wa ⟨rfl, rfl⟩
  have HST2 := Lib.hid (rt_set1 HST.out FV)
  clear HST
  have HST := HST2
  clear HST2
  clear c0 c1 c2 c3 f0 f1 f2 f3 z0 z1 z2 z3 y0 y1 y2 y3
  obtain ⟨c0, c1, c2, c3⟩ := cell4 HST.out.1
  obtain ⟨f0, f1, f2, f3⟩ := froz4 HST.out.1
  obtain ⟨z0, z1, z2, z3⟩ := cell4 HST.out.2.1
  obtain ⟨y0, y1, y2, y3⟩ := froz4 HST.out.2.1
  go_wp2
  go_loopw [6, 7] (fun a i wr => i = .int .i64 0 ∧ a = .int .i64 7 ∧ RtSt w (w.heap.size + 1) KV FV (.slice none 0 0) ⟨#[]⟩ [] wr) (fun _ i _ => 0)
  case atStart => exact ⟨rfl, rfl, rt_new w KV FV ⟨#[]⟩⟩
  case round =>
    clear HST
    clear c0 c1 c2 c3 f0 f1 f2 f3 z0 z1 z2 z3 y0 y1 y2 y3
    obtain ⟨rfl, rfl, hst⟩ := hrel
    have HST := Lib.hid hst
    clear hst
    by_cases hjn : 0 < rtN s
    · have hjI : (0 : Int) < rtN s := by omega
      clear hjn
      obtain ⟨T, E, hTE⟩ : ∃ T E, putN KV FV [] ⟨#[]⟩ = (T, E) := ⟨_, _, rfl⟩
      have HPU := Lib.hid hTE
      clear hTE
      have HLNG : Hid (([] : List Cl).length ≤ 65535) := Lib.hid (by have := rtL_len s; rw [HRL.out] at this; exact this)
      obtain ⟨c0, c1, c2, c3⟩ := cell4 HST.out.1
      obtain ⟨f0, f1, f2, f3⟩ := froz4 HST.out.1
      obtain ⟨z0, z1, z2, z3⟩ := cell4 HST.out.2.1
      obtain ⟨y0, y1, y2, y3⟩ := froz4 HST.out.2.1
      go_wp2_with fail
      refine (rt_put HST.out HLNG.out HPU.out).mono ?_
      rintro e wp ⟨rfl, hsp⟩
      have HSP := Lib.hid hsp
      clear hsp HST
      clear c0 c1 c2 c3 f0 f1 f2 f3 z0 z1 z2 z3 y0 y1 y2 y3
      obtain ⟨c0, c1, c2, c3⟩ := cell4 HSP.out.1
      obtain ⟨f0, f1, f2, f3⟩ := froz4 HSP.out.1
      obtain ⟨z0, z1, z2, z3⟩ := cell4 HSP.out.2.1
      obtain ⟨y0, y1, y2, y3⟩ := froz4 HSP.out.2.1
      by_cases hE : E = 0
      · subst hE
        by_cases hT : T = s
        · subst hT
          go_wp2
          obtain ⟨e1, e2, e3⟩ := rt_end HSP.out (.int .u8 KV) (.int .i64 FV) (Value.slice none 0 0) (.string ⟨#[]⟩)
          obtain ⟨d0, d1, d2, d3⟩ := cell4 e1
          exact bodyPost_ret (v := .tuple #[.agg #[.int .u8 KV, .int .i64 FV, Value.slice none 0 0, .string ⟨#[]⟩], .int .i64 0]) (by simp [results, Tryd.results19, go_sem, d0, d1, d2, d3]) rfl (rt_good e3 e2 (by rw [HRK.out, HRF.out, HRL.out, HRD.out]; exact HPU.out) HRK.out HRF.out HRL.out HRD.out)
        · have hTn := toList_ne (S := T) (T := s) (fun h => hT h.symm)
          have HTT := Lib.hid hT
          clear hT
          go_wp2
          obtain ⟨e1, e2, e3⟩ := rt_end HSP.out (.int .u8 0) (.int .i64 0) (.slice none 0 0) (.string ⟨#[]⟩)
          obtain ⟨d0, d1, d2, d3⟩ := cell4 e1
          exact bodyPost_ret (v := .tuple #[.agg #[.int .u8 0, .int .i64 0, .slice none 0 0, .string ⟨#[]⟩], .int .i64 7]) (by simp [results, Tryd.results19, go_sem, d0, d1, d2, d3]) rfl (rt_bad e3 (by have h := HPU.out; intro hc; rw [HRK.out, HRF.out, HRL.out, HRD.out, h] at hc; exact HTT.out (congrArg Prod.fst hc)))
      · have hEn := beq_no' hE
        have HEE := Lib.hid hE
        clear hE
        go_wp2
        obtain ⟨e1, e2, e3⟩ := rt_end HSP.out (.int .u8 0) (.int .i64 0) (.slice none 0 0) (.string ⟨#[]⟩)
        obtain ⟨d0, d1, d2, d3⟩ := cell4 e1
        exact bodyPost_ret (v := .tuple #[.agg #[.int .u8 0, .int .i64 0, .slice none 0 0, .string ⟨#[]⟩], .int .i64 7]) (by simp [results, Tryd.results19, go_sem, d0, d1, d2, d3]) rfl (rt_bad e3 (by have h := HPU.out; intro hc; rw [HRK.out, HRF.out, HRL.out, HRD.out, h] at hc; exact HEE.out (congrArg Prod.snd hc)))
    · have hjI : (rtN s : Int) = 0 := by omega
      clear hjn
      obtain ⟨T, E, hTE⟩ : ∃ T E, putN KV FV [] ⟨#[]⟩ = (T, E) := ⟨_, _, rfl⟩
      have HPU := Lib.hid hTE
      clear hTE
      have HLNG : Hid (([] : List Cl).length ≤ 65535) := Lib.hid (by have := rtL_len s; rw [HRL.out] at this; exact this)
      obtain ⟨c0, c1, c2, c3⟩ := cell4 HST.out.1
      obtain ⟨f0, f1, f2, f3⟩ := froz4 HST.out.1
      obtain ⟨z0, z1, z2, z3⟩ := cell4 HST.out.2.1
      obtain ⟨y0, y1, y2, y3⟩ := froz4 HST.out.2.1
      go_wp2_with fail
      refine (rt_put HST.out HLNG.out HPU.out).mono ?_
      rintro e wp ⟨rfl, hsp⟩
      have HSP := Lib.hid hsp
      clear hsp HST
      clear c0 c1 c2 c3 f0 f1 f2 f3 z0 z1 z2 z3 y0 y1 y2 y3
      obtain ⟨c0, c1, c2, c3⟩ := cell4 HSP.out.1
      obtain ⟨f0, f1, f2, f3⟩ := froz4 HSP.out.1
      obtain ⟨z0, z1, z2, z3⟩ := cell4 HSP.out.2.1
      obtain ⟨y0, y1, y2, y3⟩ := froz4 HSP.out.2.1
      by_cases hE : E = 0
      · subst hE
        by_cases hT : T = s
        · subst hT
          go_wp2
          obtain ⟨e1, e2, e3⟩ := rt_end HSP.out (.int .u8 KV) (.int .i64 FV) (Value.slice none 0 0) (.string ⟨#[]⟩)
          obtain ⟨d0, d1, d2, d3⟩ := cell4 e1
          exact bodyPost_ret (v := .tuple #[.agg #[.int .u8 KV, .int .i64 FV, Value.slice none 0 0, .string ⟨#[]⟩], .int .i64 0]) (by simp [results, Tryd.results19, go_sem, d0, d1, d2, d3]) rfl (rt_good e3 e2 (by rw [HRK.out, HRF.out, HRL.out, HRD.out]; exact HPU.out) HRK.out HRF.out HRL.out HRD.out)
        · have hTn := toList_ne (S := T) (T := s) (fun h => hT h.symm)
          have HTT := Lib.hid hT
          clear hT
          go_wp2
          obtain ⟨e1, e2, e3⟩ := rt_end HSP.out (.int .u8 0) (.int .i64 0) (.slice none 0 0) (.string ⟨#[]⟩)
          obtain ⟨d0, d1, d2, d3⟩ := cell4 e1
          exact bodyPost_ret (v := .tuple #[.agg #[.int .u8 0, .int .i64 0, .slice none 0 0, .string ⟨#[]⟩], .int .i64 7]) (by simp [results, Tryd.results19, go_sem, d0, d1, d2, d3]) rfl (rt_bad e3 (by have h := HPU.out; intro hc; rw [HRK.out, HRF.out, HRL.out, HRD.out, h] at hc; exact HTT.out (congrArg Prod.fst hc)))
      · have hEn := beq_no' hE
        have HEE := Lib.hid hE
        clear hE
        go_wp2
        obtain ⟨e1, e2, e3⟩ := rt_end HSP.out (.int .u8 0) (.int .i64 0) (.slice none 0 0) (.string ⟨#[]⟩)
        obtain ⟨d0, d1, d2, d3⟩ := cell4 e1
        exact bodyPost_ret (v := .tuple #[.agg #[.int .u8 0, .int .i64 0, .slice none 0 0, .string ⟨#[]⟩], .int .i64 7]) (by simp [results, Tryd.results19, go_sem, d0, d1, d2, d3]) rfl (rt_bad e3 (by have h := HPU.out; intro hc; rw [HRK.out, HRF.out, HRL.out, HRD.out, h] at hc; exact HEE.out (congrArg Prod.snd hc)))
end Go.Proofs.YticpenbebokjdaaDoor
