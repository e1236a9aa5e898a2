/- Layer 3: ref03's Sync. Conditions: those of each lemma. -/
import Derived.Test.YtffojihhjiogpaaFj9
namespace Go.Proofs.Ytffojihhjiogpaa
open Go.RowKit Go Go.Maps
set_option linter.unusedVariables false
set_option linter.unusedSimpArgs false
theorem rest_snocJ (f : Nat) (l : List Ch) (x : Ch) : rest f (l ++ [x]) = rest f l ++ if x.file = f then [] else [x] := by
  unfold rest
  rw [List.filter_append]
  congr 1
  by_cases h : x.file = f
  · rw [if_pos h]; simp [h]
  · rw [if_neg h]; simp [h]
theorem rest_leJ (f : Nat) (l : List Ch) : (rest f l).length ≤ l.length := List.length_filter_le _ _
theorem sync1_eq {D : Dk} (hj : Jd D) {f : Nat} (hf : f < 8) : sync1 D f = { D.setF (8 + f) (D.fl f) with loose := rest f D.loose } := by
  have h := doneAll_rest 1 (mine f D.loose) D
  unfold sync1
  rw [Dk.mk.injEq]
  refine ⟨?_, rfl, h.2.1, h.2.2.1, h.2.2.2.1, h.2.2.2.2⟩
  funext j
  rw [doneAll_fl]
  by_cases e : j = 8 + f
  · subst e
    rw [mine1, mine_mine, setF_same]
    exact (hj.1 f hf).symm
  · rw [setF_other _ _ e]
    have e2 : (mine f D.loose).filter (fun c => decide (8 * 1 + c.file = j)) = [] := by
      rw [List.filter_eq_nil_iff]
      intro c hc
      have h1 := (List.mem_filter.1 hc).2
      simp at h1
      simp
      omega
    rw [e2]
    rfl
theorem rest_chs {f : Nat} {l : List Ch} (h : ∀ c ∈ l, ChOk c) : ∀ c ∈ rest f l, ChOk c := fun c hc => h c (List.mem_filter.1 hc).1
set_option maxRecDepth 100000 in
set_option maxHeartbeats 8000000 in
theorem rsync_any (S : Nat → Prop) (g : Nat) (d : Dk) (N : Nat) (hN : N + 1 ≤ 1000000) (f : Int) (w : World) (h : RkS w S g d N) (hjd : Jd d) :
    Calls Try.prog 28 #[.pointer (some ⟨g, 0, none⟩), .int .i64 f] w fun e w' => e = .returned (.int .i64 (syncD d f).2) ∧ RkR w S g (syncD d f).1 (N + 1) w' := by
  have HME := Lib.hid (rmeets_any S g d N hN w h)
  have HSAME := Lib.hid (rkR_more (rkR_refl h) (Nat.le_succ N) hN)
  obtain ⟨m, al, hm⟩ := h
  obtain ⟨_, _, _, _, c20⟩ := rkAt_cells hm
  have HIN := Lib.hid (fun W => rin_any f W)
  obtain ⟨R, hR⟩ : ∃ R, syncD d f = R := ⟨_, rfl⟩
  rw [hR]
  unfold syncD readyD at hR
  cases ho : d.off with
  | true =>
    rw [ho] at hR c20
    rw [if_pos (by simp), if_pos rfl] at hR
    subst hR
    clear hm
    go_enter Try.func28, Try.ntmps28
    go_wp2
    go_ret
    exact ⟨rfl, HSAME.out⟩
  | false =>
  rw [ho] at hR c20
  cases hi : inF f with
  | false =>
    rw [hi] at hR HIN
    rw [if_pos (by simp)] at hR
    subst hR
    clear hm
    go_enter Try.func28, Try.ntmps28
    go_wp2_with fail
    refine (HIN.out _).mono ?_
    rintro e w1 ⟨rfl, rfl⟩
    go_wp2
    go_ret
    exact ⟨rfl, HSAME.out⟩
  | true =>
  rw [hi] at hR HIN
  rw [if_neg (by simp)] at hR
  obtain ⟨hf0, hf8⟩ : 0 ≤ f ∧ f < 8 := by unfold inF at hi; simpa using hi
  obtain ⟨i, rfl⟩ := Int.eq_ofNat_of_zero_le hf0
  have hi8 : i < 8 := by omega
  rw [Int.toNat_natCast] at hR
  have HZ := Lib.hid hm.p.cN.2.1
  have HJD := Lib.hid (jd_op hjd [] (fun c hc => by cases hc))
  have HR := Lib.hid hR
  clear hm hi ho hR HSAME
  go_enter Try.func28, Try.ntmps28
  go_wp2_with fail
  refine (HIN.out _).mono ?_
  rintro e w1 ⟨rfl, rfl⟩
  go_wp2_with fail
  refine (HME.out).mono ?_
  rintro e w1 ⟨rfl, hr1⟩
  by_cases he : (opD d []).2 = 0
  case neg =>
    have HE := Lib.hid (show (opD d []).2 = R.2 ∧ RkR w S g R.1 (N + 1) w1 from by rw [← HR.out, if_pos he]; exact ⟨rfl, hr1⟩)
    generalize (opD d []).2 = v at *
    have hvb : (v == 0) = false := by simpa using he
    have hvb2 : (v != 0) = true := by simpa using he
    clear hr1 HR HJD
    go_wp2
    go_ret
    exact ⟨by rw [← HE.out.1]; rfl, HE.out.2⟩
  have hR2 := HR.out
  rw [if_neg (by simpa using he), sync1_eq HJD.out hi8] at hR2
  have HR2 := Lib.hid hR2
  have HLO := Lib.hid (opD_good he []).1
  rw [he]
  clear HR HME he c20 hR2
  generalize (opD d []).1 = D at *
  obtain ⟨S1, ⟨m1, al1, hm1⟩, hf1, hs1⟩ := hr1
  have cf := rk_now hm1 (show i < 16 by omega)
  have cs := rk_now hm1 (show 8 + i < 16 by omega)
  have zs := (rkAt_cell hm1 (show 8 + i < 21 by omega)).2
  have hm2 := rk_file (c := m1.vc i) hm1 (show 8 + i < 16 by omega) rfl (fun b hb => hb) hm1.p.lt (hm1.p.fl i (by omega)) (hm1.p.vs i (by omega)) (hm1.p.ok i (by omega))
  have hf2 : Fr S w (w1.setCell ⟨g, 8 + i, none⟩ (.slice (m1.V i) (D.fl i).length (m1.vc i))).drew := fr_step (fr_trans hf1 (fr_set (p := ⟨g, 8 + i, none⟩) (fr_refl S1 w1) (.inl hm1.p.sg) _) hs1) (Below.refl _ _).drew
  have hm3 := rkAt_below hm2 (Below.refl _ _).drew
  have HS1 := Lib.hid hs1
  have HM3 := Lib.hid hm3
  have HF2 := Lib.hid hf2
  clear hm1 hm2 hm3 hf1 hs1 hf2
  go_wp2_with fail
  go_region_with fail
  generalize (w1.setCell ⟨g, 8 + i, none⟩ (.slice (m1.V i) (D.fl i).length (m1.vc i))).drew = Wc at HM3 HF2 ⊢
  obtain ⟨m3, hm3⟩ : ∃ m3, m1.file (8 + i) (m1.V i) (m1.vc i) = m3 := ⟨_, rfl⟩
  rw [hm3] at HM3
  clear hm3 cf cs zs
  obtain ⟨iv, hv1, hv2, hv3, hv4⟩ := info_parts chg_info
  have hnL : D.loose.length ≤ 8192000000 := by have h1 := HM3.out.p.cN; have h2 : (D.setF (8 + i) (D.fl i)).loose.length = D.loose.length := rfl; omega
  have hnLI : (D.loose.length : Int) ≤ 8192000000 := by omega
  obtain ⟨L, hL⟩ : ∃ L, D.loose = L := ⟨_, rfl⟩
  have HLL := Lib.hid hL
  rw [hL] at hnL hnLI
  have HM4 : Hid (RkAt Wc S1 g m3 { D.setF (8 + i) (D.fl i) with loose := L } al1 (N + 1)) := Lib.hid (by have h := HM3.out; rw [← hL]; exact h)
  clear HM3 hL
  go_wp2
  go_loopw [6, 7] (fun v q wr => ∃ (j : Nat) (A' : Option Addr) (k c' : Nat), j ≤ L.length ∧ q = .int .i64 j ∧ k = (rest i (L.take j)).length ∧ v = .slice A' k c' ∧ wr.ownsRow Wc.heap.size 94 4 (.slice A' k c') k (rcL (rest i (L.take j))) ∧ Below Wc.heap.size Wc wr) (fun _ q _ => L.length - (intOf q).toNat)
  case atStart => exact ⟨0, none, 0, 0, by omega, rfl, rfl, rfl, World.ownsRow_nil _ _ _ _, Below.refl _ _⟩
  case round =>
    obtain ⟨j, A', k, c', hj, rfl, hk, rfl, hown, hb⟩ := hrel
    have hmj := rkAt_below HM4.out hb
    have d16 : wr.cell? ⟨g, 16, none⟩ = some (.slice m3.L L.length m3.lc) := (rkAt_cells hmj).1
    have h0j : (0 : Int) ≤ j := by omega
    have hwj : IntKind.i64.wrap ((j : Int) + 1) = (j : Int) + 1 := by rw [IntKind.wrap_i64]; omega
    by_cases hjl : j < L.length
    · have hjI : (j : Int) < L.length := by omega
      obtain ⟨b, hA, hcs⟩ := loo_at hmj.p (show j < ({ D.setF (8 + i) (D.fl i) with loose := L } : Dk).loose.length from hjl)
      rw [hA] at d16
      obtain ⟨a0, a1, a2, a3⟩ := hcs j _ (List.getElem?_eq_getElem hjl)
      have hts : L.take (j + 1) = L.take j ++ [L[j]] := take_snoc (List.getElem?_eq_getElem hjl)
      have hrs := rest_snocJ i (L.take j) L[j]
      rw [← hts] at hrs
      have hkl : k ≤ 8192000000 := by rw [hk]; have := rest_leJ i (L.take j); rw [List.length_take] at this; omega
      have a0 : wr.cell? ⟨b, j * 4, none⟩ = some (.int .i64 L[j].file) := a0
      have a1 : wr.cell? ⟨b, j * 4 + 1, none⟩ = some (.int .i64 L[j].pl) := a1
      have a2 : wr.cell? ⟨b, j * 4 + 2, none⟩ = some (.bool L[j].cut) := a2
      have a3 : wr.cell? ⟨b, j * 4 + 3, none⟩ = some (.string (chS L[j])) := a3
      generalize L[j] = x at *
      generalize hxs : chS x = xs at *
      have HXS := Lib.hid hxs
      clear hxs
      by_cases hxf : x.file = i
      · rw [if_pos hxf, List.append_nil] at hrs
        have HE := Lib.hid (And.intro hrs (And.intro hk (And.intro hown hb)))
        rw [hxf] at a0
        clear hmj hcs hts hrs hown hb hk hA
        go_wp2
        go_roundw
        case rel => exact ⟨j + 1, A', k, c', by omega, by go_num, by rw [HE.out.1]; exact HE.out.2.1, rfl, by rw [HE.out.1]; exact HE.out.2.2.1, HE.out.2.2.2⟩
        case measure => simp [intOf]; omega
      · have hxb : ((x.file : Int) == (i : Int)) = false := by rw [beq_eq_false_iff_ne]; omega
        have hxb2 : ((x.file : Int) != (i : Int)) = true := by rw [bne_iff_ne]; omega
        have hxb3 : ¬ ((x.file : Int) = (i : Int)) := by omega
        rw [if_neg hxf] at hrs
        have HRS := Lib.hid hrs
        have HK2 := Lib.hid hk
        generalize rest i (L.take j) = rj at *
        have HO := Lib.hid (own_belowJ hown (one_alloc (o := .cells #[.int .i64 x.file, .int .i64 x.pl, .bool x.cut, .string xs] 94)))
        have HB := Lib.hid (bj hb (one_alloc (o := .cells #[.int .i64 x.file, .int .i64 x.pl, .bool x.cut, .string xs] 94)))
        have hrd := reads_four (Blk.new wr 94 #[.int .i64 x.file, .int .i64 x.pl, .bool x.cut, .string xs])
        have HLO := Lib.hid (fun z (hz : (Value.slice A' k c').ownBlock = some z) => (hown.lt z hz).1)
        have HSN := Lib.hid (show rcL (rj ++ [x]) = rcL rj ++ [.int .i64 x.file, .int .i64 x.pl, .bool x.cut, .string xs] from by rw [rcL_app, ← HXS.out]; rfl)
        clear hmj hcs hts hrs hown hb hk hA
        go_wp2_with (at_builtin; refine wpList_append_any _ rfl (.tmp 52) (.tmp 60) 53 rfl Wc.heap.size 94 iv _ 4 40 Try.underlying53 hv1 hv2 hv3 hv4 rfl (by omega) _ k (rcL rj) rfl HO.out _ (some ⟨wr.heap.size, 0, none⟩) 1 1 [.int .i64 x.file, .int .i64 x.pl, .bool x.cut, .string xs] rfl hrd (by intro u hu; simp at hu; rcases hu with rfl | rfl | rfl | rfl <;> rfl) (by simp only [maxLen]; omega) (by omega) HB.out.size ?_; intro v1 w4 hown1 hg1 hat1; obtain ⟨A1, c2, rfl⟩ := own_form hown1; (have HE := Lib.hid (show w4.ownsRow Wc.heap.size 94 4 (.slice A1 (k + 1) c2) (k + 1) (rcL (rest i (L.take (j + 1)))) ∧ Below Wc.heap.size Wc w4 from ⟨by rw [HRS.out, HSN.out]; exact hown1, HB.out.grown hg1 HB.out.size HLO.out⟩)); clear hown1 hg1 hat1 hrd)
        go_roundw
        case rel => exact ⟨j + 1, A1, k + 1, c2, by omega, by go_num, by rw [HRS.out, List.length_append, HK2.out]; rfl, rfl, HE.out.1, HE.out.2⟩
        case measure => simp [intOf]; omega
    · obtain rfl : j = L.length := by omega
      have hta : L.take L.length = L := List.take_length
      rw [hta] at hown hk
      have z16 := (rkAt_cell hmj (show 16 < 21 by omega)).2
      have hcl := hmj.p.lt
      have hend := rk_loose (l := rest i L) (A := A') (c := c') hmj (World.grownBy.refl wr (lbk m3.L)) hk (own_lowJ hown (Nat.zero_le _)) (fun z hz => .inr (fun b hs e => by
        have h1 := hown.lt z (by rw [ownBlock_lbk]; exact hz)
        have h2 := HM4.out.p.lt b hs
        omega)) (rest_chs hmj.p.chs) (Nat.le_trans (rest_leJ i L) hmj.p.cN.2.1)
      have HEND := Lib.hid (show RkR w S g R.1 (N + 1) (wr.setCell ⟨g, 16, none⟩ (.slice A' k c')) from by
        rw [← HR2.out]
        have e : ({ D.setF (8 + i) (D.fl i) with loose := rest i D.loose } : Dk) = { ({ D.setF (8 + i) (D.fl i) with loose := L } : Dk) with loose := rest i L } := by rw [HLL.out]
        show RkR w S g ({ D.setF (8 + i) (D.fl i) with loose := rest i D.loose } : Dk) (N + 1) _
        rw [e]
        refine rkR_of hend (fr_set (p := ⟨g, 16, none⟩) (fr_step HF2.out hb) ?_ _) (fun b hb2 => ?_)
        · rcases HS1.out g hmj.p.sg with h1 | h1
          · exact .inl h1
          · exact .inr h1
        · rcases hb2 with h1 | h1
          · exact HS1.out b h1
          · have h2 := hown.lt b (by rw [ownBlock_lbk]; exact h1)
            have h3 := HF2.out.size
            exact .inr (by omega))
      have HR3 := Lib.hid (show R.2 = 0 from by rw [← HR2.out])
      clear hmj hown hb hk hta hcl hend
      go_wp2
      go_ret
      exact ⟨by rw [HR3.out]; rfl, HEND.out⟩
end Go.Proofs.Ytffojihhjiogpaa
