/- Layer 3: files.Crash, whole. Conditions: those of each lemma. -/
import Derived.Test.YtffojihhjiogpaaFi17
namespace Go.Proofs.Ytffojihhjiogpaa
open Go.RowKit Go Go.Maps
set_option linter.unusedVariables false
set_option linter.unusedSimpArgs false
theorem crash_nil (K : Option Addr) (kn kc : Nat) (w : World) : Calls Try.prog 16 #[.pointer none, .slice K kn kc] w fun e w' => e = .returned (.int .i64 1) ∧ w = w' := by
  go_enter Try.func16, Try.ntmps16
  go_wp2
  go_ret
  exact ⟨rfl, rfl⟩
/-- behind the loop -/
theorem crash_end {w wr w2 W5 : World} {S S2 : Nat → Prop} {g : Nat} {m2 : Mm} {d2 : Dk} {N : Nat} {M' : Nat → Option Nat} (hat : DkAt wr S2 g m2 d2 N) (hs2 : ∀ b, S2 b → S b ∨ w.heap.size ≤ b) (hf2 : Fr S w wr)
    (hc : Cp wr.heap.size (fun k => d2.fl (8 + k)) M' 8 w2) (hb : Below wr.heap.size wr w2) :
    ∃ W5, (Builtin.clear_ #[63] 0 #[.map (some m2.ga)]).run Try.prog ((w2.setCells g 0 (flL (fun k => d2.fl (8 + k)) M')).setCell ⟨g, 32, none⟩ (.slice none 0 0)) = .ok (.tuple #[]) W5 ∧
      W5.cell? ⟨g, 34, none⟩ = some (.int .i64 d2.power) ∧ W5.cell? ⟨g, 36, none⟩ = some (.bool d2.off) ∧ W5.frozen? ⟨g, 34, none⟩ = false ∧ W5.frozen? ⟨g, 36, none⟩ = false ∧
      DkR w S g (crash1 d2) N ((W5.setCell ⟨g, 34, none⟩ (.int .i64 (-1))).setCell ⟨g, 36, none⟩ (.bool false)) := by
  have h3 := now_at hat hc hb
  have hll : (Value.slice (none : Option Addr) 0 0).ownBlock = none := rfl
  have h4 : DkAt ((w2.setCells g 0 (flL (fun k => d2.fl (8 + k)) M')).setCell ⟨g, 32, none⟩ (.slice none 0 0)) _ g _ { nowF d2 with loose := [] } N :=
    dkAt_loose h3 [] none 0 N (World.ownsRow_nil _ _ _ _) (fun c hc => by cases hc) (by rw [← dkA_loose (nowF d2) (m2.now M') [] none 0 _ rfl]; exact h3.blk.set_ 32 _) (fr_set (fr_refl _ _) (p := ⟨g, 32, none⟩) (.inl (.inl rfl)) _) (fun z hz => by cases hz) ⟨Nat.le_refl _, Nat.zero_le _, hat.cN.2.2⟩
  obtain ⟨W5, hrun, h5, hf5⟩ := arm_clear h4 0
  obtain ⟨y2, y3, y4, y5, y6, z2, z3, z4, z5, z6⟩ := dk_more h5.blk
  have h6 := pow_at h5 (-1) (by decide)
  have h7 := off_at h6 false
  refine ⟨W5, hrun, y4, y6, z4, z6, _, ⟨_, h7⟩, ?_, fun b hs => ?_⟩
  · have hgS : S g ∨ w.heap.size ≤ g := hs2 g hat.sg
    have f2 : Fr S w w2 := fr_step hf2 hb
    have f3 : Fr S w (w2.setCells g 0 (flL (fun k => d2.fl (8 + k)) M')) := fr_trans f2 (fr_setCells (b := g) _ 0 w2) (fun b hb => by rw [hb]; exact hgS)
    have f4 : Fr S w _ := fr_set f3 (p := ⟨g, 32, none⟩) hgS (.slice none 0 0)
    have f5 : Fr S w W5 := fr_trans f4 hf5 (fun b hb => by injection hb with hb; rw [← hb]; exact hs2 _ hat.sa)
    exact fr_set (fr_set f5 (p := ⟨g, 34, none⟩) hgS _) (p := ⟨g, 36, none⟩) hgS _
  · rcases hs with (hs | ⟨i, hi, e⟩) | hs
    · exact hs2 b hs
    · exact .inr (Nat.le_trans hf2.size (hc.new i hi b e))
    · cases hs
set_option maxRecDepth 100000 in
set_option maxHeartbeats 8000000 in
theorem crash_any (S : Nat → Prop) (g : Nat) (d : Dk) (N : Nat) (K : Option Addr) (ks : List Bool) (kn kc : Nat) (hkn : kn = ks.length) (w : World) (hK : BsAt w K ks) (hKS : ks ≠ [] → ∀ a, K = some a → ¬ S a.block) (hk0 : kn ≤ 9223372036854775807) (h : DkS w S g d N) :
    Calls Try.prog 16 #[.pointer (some ⟨g, 0, none⟩), .slice K kn kc] w fun e w' => e = .returned (.int .i64 0) ∧ DkR w S g (crashD d ks) N w' := by
  obtain ⟨⟨M1, ga1, A0, c0⟩, hm1⟩ := h
  obtain ⟨y2, y3, y4, y5, y6, z2, z3, z4, z5, z6⟩ := dk_more hm1.blk
  dsimp only at y2
  obtain ⟨L, hL⟩ : ∃ L, d.loose.length = L := ⟨_, rfl⟩
  rw [hL] at y2
  have hcN := hm1.cN
  have hL8 : L ≤ 8192 * 1000000 := by rw [← hL]; omega
  have HSY := Lib.hid (show Sy w S g A0 c0 (doneAll 1 d (kept ks (d.loose.take 0))) N none 0 0 [] w by
    have e : kept ks (d.loose.take 0) = [] := by cases ks <;> rfl
    rw [e]
    exact ⟨⟨S, _, hm1, ⟨rfl, rfl⟩, fun b hb => .inl hb, fun z hz => (by cases hz)⟩, fr_refl _ _, World.ownsRow_nil _ _ _ _, rfl⟩)
  have HL := Lib.hid hL
  have HKK := Lib.hid hK
  have HKS := Lib.hid hKS
  have HKN := Lib.hid hkn
  clear y3 y4 y5 y6 z2 z3 z4 z5 z6 hm1 hcN hL hK hKS hkn hk0
  go_enter Try.func16, Try.ntmps16
  go_wp2
  go_loopw [14] (fun v wr => ∃ j : Nat, j ≤ L ∧ v = .int .i64 j ∧ Sy w S g A0 c0 (doneAll 1 d (kept ks (d.loose.take j))) N none 0 0 [] wr) (fun v _ => L - (intOf v).toNat)
  case atStart => exact ⟨0, Nat.zero_le _, rfl, HSY.out⟩
  case round =>
    clear y2 HSY
    obtain ⟨j, hj, rfl, hsy⟩ := hrel
    by_cases hlt : j < L
    · obtain ⟨x, hx⟩ : ∃ x, d.loose[j]? = some x := ⟨d.loose[j]'(by rw [HL.out]; exact hlt), List.getElem?_eq_getElem _⟩
      obtain ⟨⟨S2, m2, hat, hMA, hs2, hz1⟩, hf2, hz2, hz3⟩ := hsy
      clear hz1 hz2 hz3
      have hlo : (doneAll 1 d (kept ks (d.loose.take j))).loose = d.loose := (doneAll_rest 1 _ _).1
      obtain ⟨b, hAb, hrng, hbl, hSb⟩ := loose_range hat (x := x) (j := j) (by rw [hlo]; exact hx)
      obtain rfl : A0 = some ⟨b, 0, none⟩ := by rw [← hMA.1, hAb]
      have hxo := hat.chs x (by rw [hlo]; exact List.mem_of_getElem? hx)
      have hln := chL_length hxo
      have hu := Try.underlying74
      have hs67 : (Try.prog.info? 74).map (·.size) = some (chL x).length := by rw [hln]; kernel_rfl
      have hs67a : (Try.prog.info? 74).map (·.size) = some (chL x).toArray.size := by rw [List.size_toArray, hln]; kernel_rfl
      have hst : (storeCells ⟨wr.heap.size, 0, none⟩ (chL x)).run Try.prog (wr.alloc (.cells Try.zeroCells74 74)) = .ok () (wr.alloc (.cells (chL x).toArray 74)) :=
        run_storeCells_new (P := Try.prog) wr 74 Try.zeroCells74 (chL x).toArray hs67a (by show _ = (chL x).length; rw [hln]; kernel_rfl) (chL_one x)
      have hbx := Blk.new wr 74 (chL x).toArray
      have hrb : (wr.alloc (.cells (chL x).toArray 74)).drew.rangeAt wr.heap.size 0 (chL x) := fun k v hv => by
        rw [show (wr.alloc (.cells (chL x).toArray 74)).drew.cell? ⟨wr.heap.size, 0 + k, none⟩ = (wr.alloc (.cells (chL x).toArray 74)).cell? ⟨wr.heap.size, 0 + k, none⟩ from rfl, hbx.cell]
        simpa using hv
      have HNS := Lib.hid (show ¬ S2 wr.heap.size from fun e => by have := hat.lt _ e; omega)
      have HX := Lib.hid hx
      have HTL := Lib.hid (show (d.loose.take j).length = j by rw [List.length_take, HL.out]; omega)
      have HDN := Lib.hid (done_at S2 g m2 _ N x 1 (by omega) hxo (wr.alloc (.cells (chL x).toArray 74)).drew (dkAt_below hat (bj one_alloc (Below.refl _ _).drew)))
      have HS2 := Lib.hid hs2
      have HF2 := Lib.hid hf2
      have HMA := Lib.hid hMA
      have HAT := Lib.hid hat
      have hbs := bs_fr HKK.out hf2 HKS.out
      clear hat hMA hs2 hf2 hx hlo hAb hSb hbx hxo
      by_cases hjk : j < kn
      · obtain ⟨v, hv⟩ : ∃ v, ks[j]? = some v := ⟨ks[j]'(by rw [← HKN.out]; exact hjk), List.getElem?_eq_getElem _⟩
        obtain ⟨kb, ko, rfl, hkb, hkc⟩ := hbs.resolve_left (by rintro rfl; simp at hv)
        have hk1 : (wr.alloc (.cells (chL x).toArray 74)).cell? ⟨kb, ko + j, none⟩ = some (.bool v) := by
          rw [World.cell?_of_block (Below.heap_alloc wr _ kb hkb)]; exact hkc j v hv
        have HKB := Lib.hid (show ks.getD j false = v by rw [List.getD_eq_getElem?_getD, hv]; rfl)
        have hjkb : decide (j < kn) = true := decide_eq_true hjk
        clear hv hkc hbs
        cases v with
        | true =>
          go_wp2_with (first | (refine wpList_load_mid rfl 74 (.tmp 17) rfl b (j * 67) rfl (chL x) _ hrng hu rfl hs67 ?_))
          clear hk1
          refine wp_region_held_drew (S := fun V => V.rangeAt wr.heap.size 0 (chL x)) (by kernel_rfl) hrb (fun hHeld => ?_)
          refine wpAnyH_take (i := 0) (v := .agg (chL x).toArray) rfl (by kernel_rfl) (by kernel_rfl) (by kernel_rfl) (fun _ _ _ h => h) (yieldsIf_load_mid (by rfl) _ _ rfl wr.heap.size 0 rfl (chL x) _ (fun w hSw => hSw) hu rfl hs67) hHeld ?_
          try simp only [Act.put, List.setIfInBounds_toArray, List.set_cons_zero, List.set_cons_succ]
          refine wpAnyH_take (i := 1) (v := ?_) rfl (by kernel_rfl) (by kernel_rfl) (by kernel_rfl) (fun _ _ _ h => h) (Or.inl ⟨by rfl, ?hy1⟩) hHeld ?_
          case hy1 => intro w1 hSw; go_simp; try with_reducible rfl
          try simp only [Act.put, List.setIfInBounds_toArray, List.set_cons_zero, List.set_cons_succ]
          refine wpAnyH_take (i := 2) (v := ?_) rfl (by kernel_rfl) (by kernel_rfl) (by kernel_rfl) (fun _ _ _ h => h) (Or.inl ⟨by rfl, ?hy2⟩) hHeld ?_
          case hy2 => intro w1 hSw; go_simp; try with_reducible rfl
          try simp only [Act.put, List.setIfInBounds_toArray, List.set_cons_zero, List.set_cons_succ]
          refine wpAnyH_take (i := 3) (v := ?_) rfl (by kernel_rfl) (by kernel_rfl) (by kernel_rfl) (fun _ _ _ h => h) (Or.inl ⟨by rfl, ?hy3⟩) hHeld ?_
          case hy3 => intro w1 hSw; go_simp; try with_reducible rfl
          try simp only [Act.put, List.setIfInBounds_toArray, List.set_cons_zero, List.set_cons_succ]
          refine wpAnyH_ready (rs := [4]) (by kernel_rfl) (by simp) ?_
          refine AllReadyH.cons rfl (fun K hK => ?_) AllReadyH.nil
          go_simp
          refine (HDN.out).mono ?_
          rintro e w2 ⟨rfl, hr2⟩
          dsimp only
          have hbx2 : Blk w2 wr.heap.size 74 (chL x).toArray := by
            obtain ⟨S3, m3, _, _, hf3, _⟩ := hr2
            exact fr_blk hf3 ((Blk.new wr 74 (chL x).toArray).drew) HNS.out
          have HR2 := Lib.hid hr2
          refine hK.out _ _ ?_ (fun hHeld => ?_)
          · exact fun k v hv => by rw [hbx2.cell]; simpa using hv
          refine wpAnyH_done (by kernel_rfl) ?_ _
          clear hHeld hK K hbx2 hr2 hrb hrng hst
          have HEND := Lib.hid (show Sy w S g (some ⟨b, 0, none⟩) c0 (doneAll 1 d (kept ks (d.loose.take (j + 1)))) N none 0 0 [] w2 by
            rw [take_snoc HX.out, kept_snoc, HTL.out, HKB.out]
            rw [if_pos rfl, doneAll_snoc]
            obtain ⟨S3, m3, k1, ⟨k2, k3, _⟩, k4, k5⟩ := HR2.out
            refine ⟨⟨S3, m3, k1, ⟨by rw [k2]; exact HMA.out.1, by rw [k3]; exact HMA.out.2⟩, fun b hb => ?_, fun z hz => (by cases hz)⟩, fr_trans (fr_step HF2.out (bj one_alloc (Below.refl _ _).drew)) k4 HS2.out, World.ownsRow_nil _ _ _ _, rfl⟩
            rcases k5 b hb with h4 | h4
            · exact HS2.out b h4
            · exact .inr (Nat.le_trans HF2.out.size (Nat.le_trans (by simp) h4)))
          go_wp2
          go_roundw
          case rel => exact ⟨j + 1, by omega, by go_num, HEND.out⟩
          case measure => simp [intOf]; omega
        | false =>
          have HEND := Lib.hid (show Sy w S g (some ⟨b, 0, none⟩) c0 (doneAll 1 d (kept ks (d.loose.take (j + 1)))) N none 0 0 [] (wr.alloc (.cells (chL x).toArray 74)) by
            rw [take_snoc HX.out, kept_snoc, HTL.out, HKB.out]
            rw [if_neg (by decide), List.append_nil]
            exact ⟨⟨S2, m2, dkAt_below HAT.out one_alloc, HMA.out, HS2.out, fun z hz => (by cases hz)⟩, fr_step HF2.out one_alloc, World.ownsRow_nil _ _ _ _, rfl⟩)
          clear hrb
          go_wp2_with (first | (refine wpList_load_mid rfl 74 (.tmp 17) rfl b (j * 67) rfl (chL x) _ hrng hu rfl hs67 ?_))
          go_roundw
          case rel => exact ⟨j + 1, by omega, by go_num, HEND.out⟩
          case measure => simp [intOf]; omega
      · have HKB := Lib.hid (show ks.getD j false = false by rw [List.getD_eq_getElem?_getD, List.getElem?_eq_none (by rw [← HKN.out]; omega)]; rfl)
        have hjkb : decide (j < kn) = false := decide_eq_false hjk
        clear hbs
        have HEND := Lib.hid (show Sy w S g (some ⟨b, 0, none⟩) c0 (doneAll 1 d (kept ks (d.loose.take (j + 1)))) N none 0 0 [] (wr.alloc (.cells (chL x).toArray 74)) by
          rw [take_snoc HX.out, kept_snoc, HTL.out, HKB.out]
          rw [if_neg (by decide), List.append_nil]
          exact ⟨⟨S2, m2, dkAt_below HAT.out one_alloc, HMA.out, HS2.out, fun z hz => (by cases hz)⟩, fr_step HF2.out one_alloc, World.ownsRow_nil _ _ _ _, rfl⟩)
        clear hrb
        go_wp2_with (first | (refine wpList_load_mid rfl 74 (.tmp 17) rfl b (j * 67) rfl (chL x) _ hrng hu rfl hs67 ?_))
        go_roundw
        case rel => exact ⟨j + 1, by omega, by go_num, HEND.out⟩
        case measure => simp [intOf]; omega
    · obtain rfl : j = L := by omega
      obtain ⟨⟨S2, m2, hat, hMA, hs2, hz1⟩, hf2, hz2, hz3⟩ := hsy
      clear hz1 hz2 hz3
      rw [List.take_of_length_le (by rw [HL.out]; exact Nat.le_refl _)] at hat
      obtain ⟨y2, y3, y4, y5, y6, z2, z3, z4, z5, z6⟩ := dk_more hat.blk
      obtain ⟨d2, hd2⟩ : ∃ d2, doneAll 1 d (kept ks d.loose) = d2 := ⟨_, rfl⟩
      rw [hd2] at hat
      clear y2 y3 y4 y5 y6 z2 z3 z4 z5 z6
      have hrs := sure_cells hat.blk 1 (by omega)
      have HCP := Lib.hid (copied_any (fun k => d2.fl (8 + k)) (fun k => m2.M (8 + k)) wr (fun k hk => hat.fl (8 + k) (by omega)))
      have hu := Try.underlying67
      have hs16 : (Try.prog.info? 67).map (·.size) = some (flL (fun k => d2.fl (8 + k)) (fun k => m2.M (8 + k))).length := by rw [flL_length]; kernel_rfl
      have HAT := Lib.hid hat
      have HS2 := Lib.hid hs2
      have HF2 := Lib.hid hf2
      have HD2 := Lib.hid hd2
      clear hat hMA hs2 hf2 hd2
      go_wp2_with (first | (refine wpList_load_mid rfl 67 (.tmp 38) rfl g 16 rfl (flL (fun k => d2.fl (8 + k)) (fun k => m2.M (8 + k))) _ hrs hu rfl hs16 ?_))
      refine (HCP.out).mono ?_
      rintro e w2 ⟨M', rfl, hc, hb⟩
      obtain ⟨W5, hrun, x4, x6, x7, x8, hR⟩ := crash_end (w := w) (W5 := w2) HAT.out HS2.out HF2.out hc hb
      have h2 := dkAt_below HAT.out hb
      have h3 := now_at HAT.out hc hb
      obtain ⟨p2, p3, p4, p5, p6, q2, q3, q4, q5, q6⟩ := dk_more h3.blk
      have hst : (storeCells ⟨g, 0, none⟩ (flL (fun k => d2.fl (8 + k)) M')).run Try.prog w2 = .ok () (w2.setCells g 0 (flL (fun k => d2.fl (8 + k)) M')) := by
        have := run_storeCells_cells (P := Try.prog) g 0 (flL (fun k => d2.fl (8 + k)) M') 0 w2 (fun j hj => by
          rw [flL_length] at hj
          rw [show 0 + 0 + j = j by omega, h2.blk.cell, dkA_get _ _ (by omega)]; rfl) (fun j hj => h2.blk.frozen _) (fun v hv => flL_one _ _ v hv)
        simpa using this
      have hl16 := flL_length (fun k => d2.fl (8 + k)) M'
      have HR := Lib.hid hR
      have hga : (m2.now M').ga = m2.ga := rfl
      rw [hga] at p3
      generalize w2.setCells g 0 (flL (fun k => d2.fl (8 + k)) M') = V at hst hrun p2 p3 p4 p5 p6 q2 q3 q4 q5 q6
      clear hc hb hR h2 h3 hga hrs
      go_wp2
      go_ret
      refine ⟨rfl, ?_⟩
      unfold crashD
      rw [HD2.out]
      exact HR.out
end Go.Proofs.Ytffojihhjiogpaa
