/- ship.Take, its way behind the sum. Conditions: a text is no longer than a machine has addresses. -/
import Derived.Test.YtkocdaillkhkfaaShipTake4
import Derived.Deep.LoopGhost
import Derived.Deep.AppendLies
import Derived.Deep.RegionLaw
namespace Go.Proofs.Ytkocdaillkhkfaa
open Go.RowKit
set_option linter.unusedVariables false
set_option maxRecDepth 100000 in
set_option maxHeartbeats 8000000 in
theorem shipTake_main (s : ByteArray) (Q1 Q2 e0 : Int) (w : World) (hz : s.size ≤ 140737488351232) (hs : 56 ≤ s.size) (hm : ((s.size : Int) % 8 != 0) = false)
    (H1 : Hid (∀ w, Calls Try.prog 26 #[.string s] w fun e w' => e = .returned (.tuple #[.agg #[.int .u32 Q1, .int .u32 Q2], .int .i64 e0]) ∧ Below w.heap.size w w'))
    (H2 : Hid (∀ w, Calls Try.prog 24 #[.string (s.extract 8 s.size)] w fun e w' => e = .returned (.agg #[.int .u32 Q1, .int .u32 Q2]) ∧ Below w.heap.size w w')) :
    Calls Try.prog 12 #[.string s] w (TkPost s w) := by
  have hz0 := tz_new w
  have h8 : (8 : Int) ≤ s.size := by omega
  have h56 : (56 : Int) ≤ s.size := by omega
  go_enter Try.func12, Try.ntmps12
  go_wp2_with fail
  refine (H1.out _).mono ?_
  rintro e w1 ⟨rfl, hb1⟩
  have hz1 := tz_step hb1 hz0
  have hz2 := tz_alloc (.cells #[.string (s.extract 8 s.size)] 9) (tz_alloc (.cells #[.int .u32 Q1, .int .u32 Q2] 56) hz1)
  have k4 := (blk_new w1 w1.heap.size 56 #[.int .u32 Q1, .int .u32 Q2] rfl).alloc (.cells #[.string (s.extract 8 s.size)] 9)
  have k6 := blk_new (w1.alloc (.cells #[.int .u32 Q1, .int .u32 Q2] 56)) (w1.heap.size + 1) 9 #[.string (s.extract 8 s.size)] (by simp)
  have hl6 : w.heap.size < w1.heap.size := hz1.1.lt
  have HK4 := Lib.hid k4
  have HK6 := Lib.hid k6
  have HZ2 := Lib.hid hz2
  obtain ⟨p0, p1⟩ := pair_at k4
  have c6 : ((w1.alloc (.cells #[.int .u32 Q1, .int .u32 Q2] 56)).alloc (.cells #[.string (s.extract 8 s.size)] 9)).cell? ⟨w1.heap.size + 1, 0, none⟩ = some (.string (s.extract 8 s.size)) := k6.cell 0
  clear hb1 hz1 hz2 k4 k6 hz0
  go_upto_region 5 with fail
  go_cut [33] (fun s33 wx => s33 = .bool false ∧ Tz w wx ∧ Blk wx (w1.heap.size + 1) 9 #[.string (s.extract 8 s.size)])
  case first =>
    go_region_with ((go_at_call 24; (with_reducible refine (H2.out _).mono ?_); rintro e w2 ⟨rfl, hb2⟩; (have hz3 := tz_step hb2 (tz_step (Below.refl _ _).drew HZ2.out)); (have k6' := blk_step HK6.out.drew hb2); (obtain ⟨q0, q1⟩ := pair_at (blk_step HK4.out.drew hb2))))
    all_goals (go_wp2_with fail; go_meet; exact ⟨by simp, hz3, k6'⟩)
  case rest =>
    obtain ⟨rfl, hz3, k6'⟩ := hcut
    have hlt6 := k6'.lt
    generalize hS0 : s.extract 8 s.size = S0 at *
    generalize hg6 : w1.heap.size + 1 = g6 at *
    have ht : Tm w g6 wc.heap.size (wc.heap.size + 1) S0 true ((wc.alloc (.cells #[.bool true] 4)).alloc (.cells #[nextV g6] 63)) :=
      ⟨(k6'.alloc _).alloc _, (blk_new wc wc.heap.size _ _ rfl).alloc _, blk_new _ _ _ _ (by simp), tz_alloc _ (tz_alloc _ hz3), by omega, hlt6, by omega⟩
    have HT := Lib.hid ht
    have hsz : S0.size = s.size - 8 := by rw [← hS0, ByteArray.size_extract]; omega
    have z0 : 48 ≤ S0.size ∧ S0.size ≤ 140737488351232 := by omega
    have HS0 := Lib.hid hS0
    clear ht hS0 hsz hg6 p0 p1 c6 HK4 HK6 HZ2
    obtain ⟨S1, hS1⟩ : ∃ S1, S0.extract 8 S0.size = S1 := ⟨_, rfl⟩
    have z1 : 40 ≤ S1.size ∧ S1.size ≤ 140737488351232 := by rw [← hS1, ByteArray.size_extract]; omega
    obtain ⟨S2, hS2⟩ : ∃ S2, S1.extract 8 S1.size = S2 := ⟨_, rfl⟩
    have z2 : 32 ≤ S2.size ∧ S2.size ≤ 140737488351232 := by rw [← hS2, ByteArray.size_extract]; omega
    obtain ⟨S3, hS3⟩ : ∃ S3, S2.extract 8 S2.size = S3 := ⟨_, rfl⟩
    have z3 : 24 ≤ S3.size ∧ S3.size ≤ 140737488351232 := by rw [← hS3, ByteArray.size_extract]; omega
    obtain ⟨S4, hS4⟩ : ∃ S4, S3.extract 8 S3.size = S4 := ⟨_, rfl⟩
    have z4 : 16 ≤ S4.size ∧ S4.size ≤ 140737488351232 := by rw [← hS4, ByteArray.size_extract]; omega
    obtain ⟨S5, hS5⟩ : ∃ S5, S4.extract 8 S4.size = S5 := ⟨_, rfl⟩
    have z5 : 8 ≤ S5.size ∧ S5.size ≤ 140737488351232 := by rw [← hS5, ByteArray.size_extract]; omega
    have l1 := take8_lt S0 (by omega)
    have l2 := take8_lt S1 (by omega)
    have l3 := take8_lt S2 (by omega)
    have l4 := take8_lt S3 (by omega)
    have l5 := take8_lt S4 (by omega)
    have E1 : ∀ W, Tm w g6 wc.heap.size (wc.heap.size + 1) S0 true W → Calls Try.prog 29 #[.int .u64 2, .pointer (some ⟨wc.heap.size + 1, 0, none⟩), .pointer (some ⟨wc.heap.size, 0, none⟩)] W _ := fun W h => upTo_tm 2 h (by omega) (by omega) z0.2
    have E2 := fun W b (h : Tm w g6 wc.heap.size (wc.heap.size + 1) S1 b W) => next_tm h (by omega) z1.2
    have E3 := fun W b (h : Tm w g6 wc.heap.size (wc.heap.size + 1) S2 b W) => next_tm h (by omega) z2.2
    have E4 : ∀ W b, Tm w g6 wc.heap.size (wc.heap.size + 1) S3 b W → Calls Try.prog 29 #[.int .u64 1, .pointer (some ⟨wc.heap.size + 1, 0, none⟩), .pointer (some ⟨wc.heap.size, 0, none⟩)] W _ := fun W b h => upTo_tm 1 h (by omega) (by omega) z3.2
    have E5 : ∀ W b, Tm w g6 wc.heap.size (wc.heap.size + 1) S4 b W → Calls Try.prog 29 #[.int .u64 256, .pointer (some ⟨wc.heap.size + 1, 0, none⟩), .pointer (some ⟨wc.heap.size, 0, none⟩)] W _ := fun W b h => upTo_tm 256 h (by omega) (by omega) z4.2
    rw [hS1] at E1
    rw [hS2] at E2
    rw [hS3] at E3
    rw [hS4] at E4
    rw [hS5] at E5
    generalize hn1 : take8 S0 = n1 at *
    generalize hn2 : take8 S1 = n2 at *
    generalize hn3 : take8 S2 = n3 at *
    generalize hn4 : take8 S3 = n4 at *
    generalize hn5 : take8 S4 = n5 at *
    have HE1 := Lib.hid E1
    have HE2 := Lib.hid E2
    have HE3 := Lib.hid E3
    have HE4 := Lib.hid E4
    have HE5 := Lib.hid E5
    have HZ5 := Lib.hid z5
    have HS1 := Lib.hid hS1
    have HS2 := Lib.hid hS2
    have HS3 := Lib.hid hS3
    have HS4 := Lib.hid hS4
    have HS5 := Lib.hid hS5
    have HN := Lib.hid (And.intro hn1 (And.intro hn2 (And.intro hn3 (And.intro hn4 hn5))))
    obtain ⟨wo, rfl⟩ : ∃ wo : World, wo = wc := ⟨_, rfl⟩
    clear hn1 hn2 hn3 hn4 hn5
    clear E1 E2 E3 E4 E5 z0 z1 z2 z3 z4 z5 hS1 hS2 hS3 hS4 hS5
    go_upto_region 10 with fail
    go_cut [10] (fun s10 wx => ∃ g10, s10 = .pointer (some ⟨g10, 0, none⟩) ∧ wo.heap.size + 1 < g10 ∧ Tm w g6 wo.heap.size (wo.heap.size + 1) S5 (((true && decide (n1 ≤ 2)) && decide (n4 ≤ 1)) && decide (n5 ≤ 256)) wx ∧
      Blk wx g10 28 #[.int .u8 (IntKind.u8.wrap (wrap64 n1)), .int .u64 n2, .int .u64 n3, .bool (wrap64 n4 == 1), .int .i64 (wrap64 n5), .slice none 0 0])
    case first =>
      have hd := tm_drew HT.out
      go_region_held3 (fun W => W.cell? ⟨wo.heap.size + 1, 0, none⟩ = some (nextV g6) ∧ wo.heap.size + 1 < W.heap.size)
        (with_reducible first | exact tmK6 h7 hq _ _ _ _ _ _ | exact tmK hd | exact tmK h3 | exact tmK h4 | exact tmK h5 | exact tmK h6 | exact tmK h7 | exact tmK (tm_alloc _ hd) | exact tmK (tm_alloc _ h3) | exact tmK (tm_alloc _ h4) | exact tmK (tm_alloc _ h5) | exact tmK (tm_alloc _ h6) | exact tmK (tm_alloc _ h7))
        (first
          | (go_at_call 29; (with_reducible refine (HE1.out _ (by first | exact hd | exact tm_alloc _ hd | exact tm_drew (tm_alloc _ HT.out))).mono ?_); rintro e w3 ⟨rfl, h3, k3⟩; (try (with_reducible have hq := kp_newg HT.out k3 (wo.heap.size + 1 + 1) (by simp))))
          | (go_at_call 27; (with_reducible refine (HE2.out _ _ (by first | exact h3 | exact tm_alloc _ h3)).mono ?_); rintro e w4 ⟨rfl, h4, k4⟩; (try (with_reducible have hq := kp_new h3 k4)); (try (with_reducible replace hq := kp_keep h4 k4 hq)))
          | (go_at_call 27; (with_reducible refine (HE3.out _ _ (by first | exact h4 | exact tm_alloc _ h4)).mono ?_); rintro e w5 ⟨rfl, h5, k5⟩; (try (with_reducible have hq := kp_new h4 k5)); (try (with_reducible replace hq := kp_keep h5 k5 hq)))
          | (go_at_call 29; (with_reducible refine (HE4.out _ _ (by first | exact h5 | exact tm_alloc _ h5)).mono ?_); rintro e w6 ⟨rfl, h6, k6⟩; (try (with_reducible have hq := kp_new h5 k6)); (try (with_reducible replace hq := kp_keep h6 k6 hq)))
          | (go_at_call 29; (with_reducible refine (HE5.out _ _ (by first | exact h6 | exact tm_alloc _ h6)).mono ?_); rintro e w7 ⟨rfl, h7, k7⟩; (try (with_reducible have hq := kp_new h6 k7)); (try (with_reducible replace hq := kp_keep h7 k7 hq)); (try (have hR := zR hq; obtain ⟨r0, r1, r2, r3, r4, r5, f0, f1, f2, f3, f4, f5⟩ := hR))))
      all_goals (go_wp2_with fail; go_meet)
      all_goals (first | exact ⟨_, rfl, hq.2, tm_far6 h7 hq _ _ _ _ _ _, blk6 hq.1 _ _ _ _ _ _⟩ | exact ⟨_, rfl, (tmK h7).2, tm_alloc _ h7, Blk.new _ _ _⟩)
    case rest =>
      obtain ⟨g10, rfl, hlt10, h7, k10⟩ := hcut
      have hl7 : g6 < wo.heap.size := hlt6
      have hlw : w.heap.size < g6 := h7.2.2.2.2.1
      generalize wo.heap.size = g7 at *
      obtain ⟨hz5, hz5'⟩ := HZ5.out
      obtain ⟨S6, hS6⟩ : ∃ S6, S5.extract 8 S5.size = S6 := ⟨_, rfl⟩
      have hE6 := fun W b (h : Tm w g6 g7 (g7 + 1) S5 b W) => upTo_tm 256 h (by omega) hz5 hz5'
      have l6 := take8_lt S5 hz5
      rw [hS6] at hE6
      generalize hn6 : take8 S5 = n6 at *
      have hfin : S6 = s.extract 56 s.size ∧ n1 = vAt s 8 ∧ n2 = vAt s 16 ∧ n3 = vAt s 24 ∧ n4 = vAt s 32 ∧ n5 = vAt s 40 ∧ n6 = vAt s 48 := by
        obtain ⟨e1, e2, e3, e4, e5⟩ := HN.out
        have q0 := HS0.out
        have q1 := HS1.out
        have q2 := HS2.out
        have q3 := HS3.out
        have q4 := HS4.out
        have q5 := HS5.out
        subst q0
        rw [ext_ext] at q1
        subst q1
        rw [ext_ext] at q2
        subst q2
        rw [ext_ext] at q3
        subst q3
        rw [ext_ext] at q4
        subst q4
        rw [ext_ext] at q5
        subst q5
        rw [ext_ext] at hS6
        rw [take8_cut] at e1 e2 e3 e4 e5 hn6
        exact ⟨hS6.symm, e1.symm, e2.symm, e3.symm, e4.symm, e5.symm, hn6.symm⟩
      have HF := Lib.hid hfin
      have HE6 := Lib.hid hE6
      clear HS0 HS1 HS2 HS3 HS4 HS5 HN HZ5 hS6 hn6 hfin hE6 hz5 hz5' HE1 HE2 HE3 HE4 HE5 H1 H2 k6' hz3
      go_wp2_with fail
      refine (HE6.out _ _ h7).mono ?_
      rintro e w8 ⟨rfl, h8, k8⟩
      have k10' : Blk w8 g10 _ _ := k8.2 _ _ _ (by omega) (by omega) k10
      generalize hwb : ((((true && decide (n1 ≤ 2)) && decide (n4 ≤ 1)) && decide (n5 ≤ 256)) && decide (n6 ≤ 256)) = wb at *
      have hT := tkB_head s
      rw [← HF.out.2.1, ← HF.out.2.2.2.2.1, ← HF.out.2.2.2.2.2.1, ← HF.out.2.2.2.2.2.2] at hT
      have HT2 := Lib.hid hT
      have HWB := Lib.hid hwb
      clear hT hwb h7 k10 k8
      cases wb
      · have hbad : tkB s = false := by
          have h1 := HT2.out
          have h2 := HWB.out
          rw [Bool.true_and] at h2
          rw [h1, h2]; rfl
        have HB := Lib.hid hbad
        obtain ⟨c6, c7, c8⟩ := tmS h8
        obtain ⟨r0, r1, r2, r3, r4, r5, f0, f1, f2, f3, f4, f5⟩ := tzR h8.2.2.2.1
        have hz8 := h8.2.2.2.1
        clear hbad k10'
        go_wp2
        refine bodyPost_ret (v := .tuple #[shipZero, .int .i64 7]) (by simp [shipZero, results, Try.results12, go_sem, r0, r1, r2, r3, r4, r5]) rfl (tk_bad HB.out (tz_end hz8 _ _ _ _ _ _))
      · have hb := HWB.out
        simp only [Bool.and_eq_true, decide_eq_true_eq, true_and] at hb
        obtain ⟨⟨⟨b1, b4⟩, b5⟩, b6⟩ := hb
        have hT : tkB s = (decide (s.size = 56 + 520 * n6) && (pgsOk s n6 && shipOk n1 (vAt s 24) (decide (n4 = 1)) n5 (imgsN s n6))) := by
          have h1 := HT2.out
          have h2 := HWB.out
          rw [Bool.true_and] at h2
          rw [h1, h2, Bool.true_and]
        have HT3 := Lib.hid hT
        have e1 : IntKind.u8.wrap (wrap64 n1) = n1 := by rw [wrap_small (by omega)]; unfold IntKind.wrap; simp [IntKind.bits]; omega
        have e4 : (wrap64 n4 == 1) = decide (n4 = 1) := by
          rw [wrap_small (by omega)]
          by_cases h : n4 = 1
          · simp [h]
          · rw [decide_eq_false h, beq_eq_false_iff_ne]; omega
        have e5 := wrap_small b5
        have e6 := wrap_small b6
        rw [e1, e4, e5] at k10'
        rw [e6]
        clear e1 e4 e5 e6 hT HT2 HWB
        have hs6 : S6.size = s.size - 56 := by rw [HF.out.1, ByteArray.size_extract]; omega
        obtain ⟨c6, c7, c8⟩ := tmS h8
        have hz8 := h8.2.2.2.1
        by_cases hsz : s.size = 56 + 520 * n6
        · have hne : ((S6.size : Int) != (n6 : Int) * 520) = false := by rw [bne_eq_false_iff_eq]; omega
          have ht0 : Tl w g6 g7 (g7 + 1) g10 s n1 n2 n3 n5 (decide (n4 = 1)) 0 none 0 w8 := ⟨by rw [← HF.out.1]; exact h8, k10', World.ownsRow_nil _ _ _ _, hlt10⟩
          have HT0 := Lib.hid ht0
          have hszl : s.size ≤ 56 + 520 * n6 := by omega
          have hszg : 56 + 520 * n6 ≤ s.size := by omega
          have HSZ := Lib.hid hsz
          clear ht0 k10' h8 hz8 hs6 hsz
          go_wp2_with fail
          clear c6 c7 c8 hne
          go_loopg [12] n6 (fun gk t12 wr => ∃ j A c, gk + j = n6 ∧ Tl w g6 g7 (g7 + 1) g10 s n1 n2 n3 n5 (decide (n4 = 1)) j A c wr)
          case atStart => exact ⟨0, none, 0, rfl, HT0.out⟩
          case round =>
            obtain ⟨j, A, c, hj, h9, k, own, hl⟩ := hrel
            clear HT0
            obtain ⟨c6, c7, c8⟩ := tmS h9
            have hxs : (s.extract (56 + 520 * j) s.size).size = s.size - (56 + 520 * j) := by rw [ByteArray.size_extract]; omega
            by_cases hlt : j < n6
            · have hE := upTo_tm 256 h9 (by omega) (by omega) (by omega)
              have hxn : vAt s (56 + 520 * j) = take8 (s.extract (56 + 520 * j) s.size) := (take8_cut _ _).symm
              rw [← hxn] at hE
              have hv9 := (vAt_lt s (56 + 520 * j) (by omega)).1
              rw [ext_ext] at hE
              have hys : (s.extract (56 + 520 * j + 8) s.size).size = s.size - (56 + 520 * j + 8) := by rw [ByteArray.size_extract]; omega
              have hpg := pgsOk_succ s j
              rw [← hpg] at hE
              have hxp : (0 : Int) < (s.extract (56 + 520 * j) s.size).size := by omega
              have hyp : (512 : Int) ≤ (s.extract (56 + 520 * j + 8) s.size).size := by omega
              generalize hx : s.extract (56 + 520 * j) s.size = x at *
              generalize hy : s.extract (56 + 520 * j + 8) s.size = y at *
              generalize hp : vAt s (56 + 520 * j) = p at *
              have HX := Lib.hid (And.intro hx (And.intro hy hp))
              have HE := Lib.hid hE
              clear hE hxn hpg hx hy hp hxs hys
              go_wp2_with fail
              refine (HE.out).mono ?_
              rintro e w9 ⟨rfl, h10, k9⟩
              have k9' : Blk w9 g10 _ _ := k9.2 _ _ _ (by omega) (by omega) k
              have own9 := own_kp own k9 (by omega) (by omega)
              clear c6 c7 c8 k own h9 k9
              obtain ⟨c6, c7, c8⟩ := tmS h10
              obtain ⟨r0, r1, r2, r3, r4, r5⟩ := six_at k9'
              go_wp2_with fail
              have ra : ∀ o, (w9.alloc o).cell? ⟨g10, 5, none⟩ = some (.slice A j c) := fun o => (k9'.alloc o).cell 5
              have sb : (w9.alloc (.cells #[.int .i64 (wrap64 p), .string (y.extract 0 512)] 51)).drew.heap.size = w9.heap.size + 1 := by simp
              have HK := Lib.hid (And.intro h10 k9')
              have hnA : g10 + 1 ≤ w9.heap.size := k9'.lt
              obtain ⟨i0, hi, hz0, hz1, hz2⟩ := info_parts img_info
              have hrow : ∀ k, (Value.slice A j c).ownBlock = some k → g10 + 1 ≤ k := fun k hk => (own9.lt k hk).1
              have HR := Lib.hid hrow
              clear h10 hrow
              go_region_law ((refine step_append_lies _ (by rfl) (.tmp 68) (.tmp 73) 26 (by rfl) (g10 + 1) 51 i0 _ 2 24 Try.underlying26 hi hz0 hz1 hz2 rfl (by omega) (.slice A j c) j (imgCs (imgsN s j)) (by rfl) ((own9.alloc _).drew) ⟨w9.heap.size, 0, none⟩ 1 1 [.int .i64 (wrap64 p), .string (y.extract 0 512)] (by rfl) (by rfl) (World.news_of_block (cs := #[.int .i64 (wrap64 p), .string (y.extract 0 512)]) (t := 51) (fr := (0, 0)) (heap_alloc_new w9 _)) (by simp [Value.oneCell']) (by omega) (by unfold maxLen; omega) (by omega) (by simp; omega) (w9.heap.size + 1) (by simp) ?_; intro gg cap wA hownA hgrow hat hltA; (have kA := ((HK.out.2.alloc _).drew).grown hgrow (fun e => by have := HR.out g10 e.symm; omega)); (have hA5 := kA.cell 5); (have hF5 := kA.frozen 5); (have kB := tm_grown (tm_drew (tm_alloc _ HK.out.1)) hgrow HR.out (by omega)); (obtain ⟨d6, d7, d8⟩ := tmS kB); (have e6 := kB.1.frozen 0)))
              all_goals
                go_wp2_with fail
                go_roundg (n6 - (j + 1))
                case measure => omega
                case rel => exact ⟨j + 1, some ⟨gg, 0, none⟩, cap, by omega, tl_next HK.out.1 HK.out.2 HR.out hl HX.out.2.1 HX.out.2.2 hownA _ hgrow⟩
            · obtain rfl : j = n6 := by omega
              have hx0 : ((s.extract (56 + 520 * j) s.size).size : Int) ≤ 0 := by omega
              have hI := imgs_of_own own (imgsN_len s j)
              have hlen := imgsN_len s j
              have hT4 := HT3.out
              rw [decide_eq_true HSZ.out, Bool.true_and] at hT4
              have hz9 := h9.2.2.2.1
              obtain ⟨m0, m1, m2, m3, m4, m5⟩ := six_at k
              obtain ⟨r0, r1, r2, r3, r4, r5, f0, f1, f2, f3, f4, f5⟩ := tzR hz9
              generalize hx : s.extract (56 + 520 * j) s.size = x at *
              generalize hpb : pgsOk s j = pb at *
              have HT4 := Lib.hid hT4
              have HL := Lib.hid hlen
              clear hT4 hx hxs hlen HT3
              cases pb
              · have hbad : tkB s = false := by rw [HT4.out]; rfl
                have HB := Lib.hid hbad
                clear hbad k own
                go_wp2
                refine bodyPost_ret (v := .tuple #[shipZero, .int .i64 7]) (by simp [shipZero, results, Try.results12, go_sem, r0, r1, r2, r3, r4, r5]) rfl (tk_bad HB.out (tz_end hz9 _ _ _ _ _ _))
              · have hMB := mayBe_any n1 n2 n3 n5 (decide (n4 = 1)) A (imgsN s j) j c _ wr hI HL.out.symm (by unfold maxLen; omega) rfl
                have hn3 : shipOk n1 n3 (decide (n4 = 1)) n5 (imgsN s j) = tkB s := by rw [HT4.out, Bool.true_and, HF.out.2.2.2.1]
                rw [hn3] at hMB
                have HMB := Lib.hid hMB
                have HK := Lib.hid k
                have HO := Lib.hid own
                clear hMB hn3 k own hI
                generalize hbb : tkB s = bb at *
                have HBB := Lib.hid hbb
                clear hbb
                go_wp2_with fail
                refine (HMB.out).mono ?_
                rintro e w10 ⟨rfl, hb10⟩
                have hz10 := tz_step hb10 hz9
                clear r0 r1 r2 r3 r4 r5 f0 f1 f2 f3 f4 f5 m0 m1 m2 m3 m4 m5 c6 c7 c8
                have kk := blk_step HK.out hb10
                have HO10 := Lib.hid (own_below HO.out hb10)
                obtain ⟨m0, m1, m2, m3, m4, m5⟩ := six_at kk
                obtain ⟨r0, r1, r2, r3, r4, r5, f0, f1, f2, f3, f4, f5⟩ := tzR hz10
                cases bb
                · go_wp2
                  refine bodyPost_ret (v := .tuple #[shipZero, .int .i64 7]) (by simp [shipZero, results, Try.results12, go_sem, r0, r1, r2, r3, r4, r5]) rfl (tk_bad HBB.out (tz_end hz10 _ _ _ _ _ _))
                · have h67 := hz10.1.lt
                  have hg := kk.lt
                  clear kk
                  go_wp2
                  refine bodyPost_ret (v := .tuple #[.agg #[.int .u8 n1, .int .u64 n2, .int .u64 n3, .bool (decide (n4 = 1)), .int .i64 n5, .slice A j c], .int .i64 0]) (by simp [results, Try.results12, go_sem, r0, r1, r2, r3, r4, r5]) rfl ?_
                  obtain ⟨_, q1, q2, q3, q4, q5, q6⟩ := HF.out
                  refine tk_good (A := A) (c := c) HBB.out (tz_end hz10 _ _ _ _ _ _) (by rw [← q1, ← q2, ← q3, ← q4, ← q5, ← q6]) ?_
                  rw [← q6]
                  exact imgs_of_own (own_set6 HO10.out (by omega) _ _ _ _ _ _) HL.out
        · have hbad : tkB s = false := by
            rw [HT3.out, decide_eq_false hsz]; rfl
          have HB := Lib.hid hbad
          have hne : ((S6.size : Int) != (n6 : Int) * 520) = true := by rw [bne_iff_ne]; omega
          obtain ⟨r0, r1, r2, r3, r4, r5, f0, f1, f2, f3, f4, f5⟩ := tzR hz8
          clear hbad k10' hsz hs6
          go_wp2
          refine bodyPost_ret (v := .tuple #[shipZero, .int .i64 7]) (by simp [shipZero, results, Try.results12, go_sem, r0, r1, r2, r3, r4, r5]) rfl (tk_bad HB.out (tz_end hz8 _ _ _ _ _ _))
end Go.Proofs.Ytkocdaillkhkfaa
