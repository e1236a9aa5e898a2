/- Layer 3: ref03's Write. Conditions: those of each lemma. -/
import Derived.Test.YtffojihhjiogpaaFj8
namespace Go.Proofs.Ytffojihhjiogpaa
open Go.RowKit Go Go.Maps
set_option linter.unusedVariables false
set_option linter.unusedSimpArgs false
theorem bstr_midJ (L : List Nat) (a b : Nat) : (bstr L).extract a b = bstr ((L.take b).drop a) := by
  apply ByteArray.ext
  apply Array.ext'
  simp [bstr, List.drop_take]
theorem chS_wr (i p : Nat) (s : ByteArray) (j : Nat) : chS (wrC i p s j) = s.extract (j * 64) ((j + 1) * 64) := by
  show bstr (((bts s).drop (j * 64)).take 64) = _
  conv => rhs; rw [← bstr_bts s]
  rw [bstr_midJ, List.drop_take]
  congr 2
  omega
def wrS (D : Dk) (L : List Ch) (j : Nat) : Dk := { doneAll 0 D (L.take j) with loose := D.loose ++ L.take j }
theorem wrS_zero (D : Dk) (L : List Ch) : wrS D L 0 = D := by
  unfold wrS
  rw [List.take_zero, List.append_nil]
  rfl
theorem wrS_succ (D : Dk) (L : List Ch) {j : Nat} {c : Ch} (h : L[j]? = some c) : wrS D L (j + 1) = { (wrS D L j).setF c.file (doneF ((wrS D L j).fl c.file) c) with loose := (wrS D L j).loose ++ [c] } := by
  unfold wrS
  rw [take_snoc h, doneAll_snoc, ← List.append_assoc]
  unfold doneA
  rw [Nat.mul_zero, Nat.zero_add]
  rfl
theorem wrS_loose (D : Dk) (L : List Ch) {j : Nat} (h : j ≤ L.length) : (wrS D L j).loose.length = D.loose.length + j := by
  show (D.loose ++ L.take j).length = _
  rw [List.length_append, List.length_take, Nat.min_eq_left h]
theorem wrL_get {i p : Nat} {s : ByteArray} {j : Nat} (h : j < s.size / 64) : (wrL i p s)[j]? = some (wrC i p s j) := by
  unfold wrL
  rw [List.getElem?_map, List.getElem?_range h]
  rfl
theorem wrL_len (i p : Nat) (s : ByteArray) : (wrL i p s).length = s.size / 64 := by
  unfold wrL
  rw [List.length_map, List.length_range]
set_option maxRecDepth 100000 in
set_option maxHeartbeats 8000000 in
theorem rwrite_any (S : Nat → Prop) (g : Nat) (d : Dk) (N : Nat) (hN : N + 1 ≤ 1000000) (f pl : Int) (s : ByteArray) (hs : s.size ≤ 140737488351232) (w : World) (h : RkS w S g d N) :
    Calls Try.prog 36 #[.pointer (some ⟨g, 0, none⟩), .int .i64 f, .int .i64 pl, .string s] w fun e w' => e = .returned (.int .i64 (writeD d f pl s).2) ∧ RkR w S g (writeD d f pl s).1 (N + 1) w' := by
  have HME := Lib.hid (rmeets_any S g d N hN w h)
  have HSAME := Lib.hid (rkR_more (rkR_refl h) (Nat.le_succ N) hN)
  obtain ⟨m, al, hm⟩ := h
  obtain ⟨_, _, _, _, c20⟩ := rkAt_cells hm
  have HIN := Lib.hid (fun W => rin_any f W)
  obtain ⟨R, hR⟩ : ∃ R, writeD d f pl s = R := ⟨_, rfl⟩
  rw [hR]
  unfold writeD readyD at hR
  cases ho : d.off with
  | true =>
    rw [ho] at hR c20
    rw [if_pos (by simp), if_pos rfl] at hR
    subst hR
    clear hm
    go_enter Try.func36, Try.ntmps36
    go_wp2
    go_ret
    exact ⟨rfl, HSAME.out⟩
  | false =>
  rw [ho] at hR c20
  cases hi : inF f with
  | false =>
    rw [hi] at hR HIN
    rw [if_pos (by simp)] at hR
    subst hR
    clear hm
    go_enter Try.func36, Try.ntmps36
    go_wp2_with fail
    refine (HIN.out _).mono ?_
    rintro e w1 ⟨rfl, rfl⟩
    go_wp2
    go_ret
    exact ⟨rfl, HSAME.out⟩
  | true =>
  rw [hi] at hR HIN
  rw [if_neg (by simp)] at hR
  obtain ⟨hf0, hf8⟩ : 0 ≤ f ∧ f < 8 := by unfold inF at hi; simpa using hi
  obtain ⟨i, rfl⟩ := Int.eq_ofNat_of_zero_le hf0
  have hi8 : i < 8 := by omega
  rw [Int.toNat_natCast] at hR
  have HZ := Lib.hid hm.p.cN.2.1
  clear hm hi ho
  have hsI : (s.size : Int) ≤ 140737488351232 := by omega
  by_cases hA : s.size < 64
  · have bA : decide ((s.size : Int) < 64) = true := decide_eq_true (by omega)
    have bAn : decide (s.size < 64) = true := decide_eq_true hA
    rw [if_pos (.inl (by omega))] at hR
    subst hR
    go_enter Try.func36, Try.ntmps36
    go_wp2_with fail
    refine (HIN.out _).mono ?_
    rintro e w1 ⟨rfl, rfl⟩
    go_wp2
    go_ret
    exact ⟨rfl, HSAME.out⟩
  have bA : decide ((s.size : Int) < 64) = false := decide_eq_false (by omega)
  have bAn : decide (s.size < 64) = false := decide_eq_false hA
  obtain ⟨r, hr⟩ : ∃ r, s.size % 64 = r := ⟨_, rfl⟩
  have hq2 : (s.size : Int) % 64 = (r : Int) := by omega
  have hq4 : (s.size : Int).tmod 64 = (r : Int) := by rw [Int.tmod_eq_emod_of_nonneg (by omega)]; exact hq2
  by_cases hB : r = 0
  case neg =>
    have bB : ((r : Int) == 0) = false := by rw [beq_eq_false_iff_ne]; omega
    have bB2 : ((r : Int) != 0) = true := by rw [bne_iff_ne]; omega
    rw [if_pos (.inr (by omega))] at hR
    subst hR
    clear hr
    go_enter Try.func36, Try.ntmps36
    go_wp2_with fail
    refine (HIN.out _).mono ?_
    rintro e w1 ⟨rfl, rfl⟩
    go_wp2
    go_ret
    exact ⟨rfl, HSAME.out⟩
  subst hB
  obtain ⟨n, hn⟩ : ∃ n, s.size / 64 = n := ⟨_, rfl⟩
  have hq : (s.size : Int) / 64 = (n : Int) := by omega
  have hq5 : (s.size : Int).tdiv 64 = (n : Int) := by rw [Int.tdiv_eq_ediv_of_nonneg (by omega)]; exact hq
  have hnb : n ≤ 2199023255488 := by omega
  have hwn : IntKind.i64.wrap (n : Int) = (n : Int) := by rw [IntKind.wrap_i64]; omega
  rw [if_neg (by omega), hn] at hR
  have HNN := Lib.hid (And.intro hn hr)
  clear hr hn
  by_cases h1 : pl < 0
  · have b1 : decide (pl < 0) = true := decide_eq_true h1
    rw [if_pos (.inl h1)] at hR
    subst hR
    go_enter Try.func36, Try.ntmps36
    go_wp2_with fail
    refine (HIN.out _).mono ?_
    rintro e w1 ⟨rfl, rfl⟩
    go_wp2
    go_ret
    exact ⟨rfl, HSAME.out⟩
  have b1 : decide (pl < 0) = false := decide_eq_false h1
  by_cases h2 : 8192 < n
  · have b2 : decide ((8192 : Int) < n) = true := decide_eq_true (by omega)
    have b2n : decide (8192 < n) = true := decide_eq_true h2
    rw [if_pos (.inr (.inl h2))] at hR
    subst hR
    go_enter Try.func36, Try.ntmps36
    go_wp2_with fail
    refine (HIN.out _).mono ?_
    rintro e w1 ⟨rfl, rfl⟩
    go_wp2
    go_ret
    exact ⟨rfl, HSAME.out⟩
  have b2 : decide ((8192 : Int) < n) = false := decide_eq_false (by omega)
  have b2n : decide (8192 < n) = false := decide_eq_false h2
  have hw3 : IntKind.i64.wrap (8192 - (n : Int)) = 8192 - (n : Int) := by rw [IntKind.wrap_i64]; omega
  by_cases h3 : 8192 - (n : Int) < pl
  · have b3 : decide (8192 - (n : Int) < pl) = true := decide_eq_true h3
    rw [if_pos (.inr (.inr h3))] at hR
    subst hR
    go_enter Try.func36, Try.ntmps36
    go_wp2_with fail
    refine (HIN.out _).mono ?_
    rintro e w1 ⟨rfl, rfl⟩
    go_wp2
    go_ret
    exact ⟨rfl, HSAME.out⟩
  have b3 : decide (8192 - (n : Int) < pl) = false := decide_eq_false h3
  rw [if_neg (by omega)] at hR
  obtain ⟨p, rfl⟩ := Int.eq_ofNat_of_zero_le (show 0 ≤ pl by omega)
  rw [Int.toNat_natCast] at hR
  have HR := Lib.hid hR
  have hpn : p + n ≤ 8192 := by omega
  have hnI : (n : Int) ≤ 8192 := by omega
  clear hR h1 h2 h3 HSAME
  go_enter Try.func36, Try.ntmps36
  go_wp2_with fail
  refine (HIN.out _).mono ?_
  rintro e w1 ⟨rfl, rfl⟩
  go_wp2_with fail
  refine (HME.out).mono ?_
  rintro e w1 ⟨rfl, hr1⟩
  by_cases he : (opD d []).2 = 0
  case neg =>
    have hbad := opD_bad he (wrL i p s)
    have HE := Lib.hid (show (opD d []).2 = R.2 ∧ RkR w S g R.1 (N + 1) w1 from by rw [← HR.out, hbad]; exact ⟨rfl, hr1⟩)
    generalize (opD d []).2 = v at *
    have hvb : (v == 0) = false := by simpa using he
    have hvb2 : (v != 0) = true := by simpa using he
    clear hr1 hbad HR
    go_wp2
    go_ret
    exact ⟨by rw [← HE.out.1]; rfl, HE.out.2⟩
  have hgood := opD_good he (wrL i p s)
  rw [HR.out] at hgood
  rw [he]
  have HG1 := Lib.hid hgood.1
  have HG2 := Lib.hid hgood.2
  clear hgood HR HME he c20 b1 b3
  generalize (opD d []).1 = D0 at *
  have HR1 := Lib.hid hr1
  clear hr1
  go_wp2
  go_loopw [10] (fun v wr => ∃ j : Nat, j ≤ n ∧ v = .int .i64 j ∧ RkR w S g (wrS D0 (wrL i p s) j) (N + 1) wr) (fun v _ => n - (intOf v).toNat)
  case atStart => exact ⟨0, by omega, rfl, by rw [wrS_zero]; exact HR1.out⟩
  case round =>
    obtain ⟨j, hj, rfl, hrj⟩ := hrel
    have h0j : (0 : Int) ≤ j := by omega
    have hwj : IntKind.i64.wrap ((j : Int) + 1) = (j : Int) + 1 := by rw [IntKind.wrap_i64]; omega
    by_cases hjn : j < n
    · have hjI : (j : Int) < n := by omega
      have hsn := HNN.out
      have hget := wrL_get (i := i) (p := p) (s := s) (show j < s.size / 64 by omega)
      have HSU := Lib.hid (wrS_succ D0 (wrL i p s) hget)
      have hlD : (wrS D0 (wrL i p s) j).loose.length + 1 ≤ 8192 * (N + 1) := by rw [wrS_loose _ _ (by rw [wrL_len]; omega), HG1.out]; have := HZ.out; omega
      have hck : ChOk (wrC i p s j) := wrC_ok hi8 (by omega) (by omega)
      have hcx := chS_wr i p s j
      have hcf : (wrC i p s j).file = i := rfl
      have hcp : (wrC i p s j).pl = p + j := rfl
      have hcc : (wrC i p s j).cut = false := rfl
      obtain ⟨lo, hlo⟩ : ∃ lo, j * 64 = lo := ⟨_, rfl⟩
      obtain ⟨hi, hhi⟩ : ∃ hi, (j + 1) * 64 = hi := ⟨_, rfl⟩
      obtain ⟨pj, hpj⟩ : ∃ pj, p + j = pj := ⟨_, rfl⟩
      have hwlo : IntKind.i64.wrap ((j : Int) * 64) = (lo : Int) := by rw [IntKind.wrap_i64]; omega
      have hwhi : IntKind.i64.wrap (((j : Int) + 1) * 64) = (hi : Int) := by rw [IntKind.wrap_i64]; omega
      have hwpj : IntKind.i64.wrap ((p : Int) + (j : Int)) = (pj : Int) := by rw [IntKind.wrap_i64]; omega
      have hlh : (lo : Int) ≤ hi := by omega
      have hlh2 : lo ≤ hi := by omega
      have h0lo : (0 : Int) ≤ lo := by omega
      have h0hi : (0 : Int) ≤ hi := by omega
      have hhs2 : hi ≤ s.size := by omega
      have hhs : (hi : Int) ≤ s.size := by omega
      rw [hlo, hhi] at hcx
      rw [hpj] at hcp
      generalize wrS D0 (wrL i p s) j = D at *
      generalize wrC i p s j = c at *
      obtain ⟨TX, hTX⟩ : ∃ TX, s.extract lo hi = TX := ⟨_, rfl⟩
      rw [hTX] at hcx
      have hrc : rcC c = #[.int .i64 i, .int .i64 pj, .bool false, .string TX] := by unfold rcC; rw [hcf, hcp, hcc, hcx]
      obtain ⟨S1, ⟨m1, al1, hm1⟩, hf1, hs1⟩ := hrj
      have HHF := Lib.hid hcf
      have HRC := Lib.hid (And.intro hrc (And.intro hcf (And.intro hcp (And.intro hcc hcx))))
      have hgq : g < wr.heap.size := hm1.p.lt _ hm1.p.sg
      have HJ := Lib.hid (And.intro hf1 (And.intro hs1 (And.intro hlD hck)))
      have HGQ := Lib.hid hgq
      have HM1 := Lib.hid hm1
      clear hsn hget hlD hck hcx hcf hcp hcc hlo hhi hpj hrc hm1 hf1 hs1
      go_wp2_with fail
      have hq := Blk.new wr 94 (rcC c)
      have hm2 := rkAt_below HM1.out (one_alloc (o := .cells (rcC c) 94))
      rw [HRC.out.1] at hq hm2
      have hb2 := one_alloc (w := wr) (o := .cells #[.int .i64 i, .int .i64 pj, .bool false, .string TX] 94)
      generalize wr.alloc (.cells #[.int .i64 i, .int .i64 pj, .bool false, .string TX] 94) = W2 at hq hm2 hb2 ⊢
      have HB2 := Lib.hid hb2
      have cf2 := rk_now hm2 (show i < 16 by omega)
      obtain ⟨q0, q1, q2, q3⟩ := cell4J hq
      have HM2 := Lib.hid hm2
      have HQ := Lib.hid hq
      have HDO := Lib.hid (fun V (hb : Below W2.heap.size W2 V) => (show Calls Try.prog 52 #[.slice (m1.V i) (D.fl i).length (m1.vc i), .agg #[.int .i64 i, .int .i64 pj, .bool false, .string TX]] V (DoP V (doneF (D.fl i) c)) from by
        have h := does_any (m1.V i) (D.fl i) (D.fl i).length (m1.vc i) c V rfl (hm2.p.ok i (by omega)) HJ.out.2.2.2 (rdS_below (hm2.p.fl i (by omega)) hb)
        rw [HRC.out.1] at h
        exact h))
      have HBD := Lib.hid (show Below W2.heap.size W2 W2.drew from (Below.refl _ _).drew)
      clear hm2 hq hb2
      go_region_with
        ((go_at_call 52; (with_reducible refine (HDO.out _ HBD.out).mono ?_); rintro e w3 ⟨A3, k3, rfl, hrd3, hfr3, hb3⟩; (have HB3 := Lib.hid (bj HBD.out hb3)); (have z3 := (rkAt_cell (rkAt_below HM2.out HB3.out) (show i < 21 by omega)).2); (have y3 := rk_now (rkAt_below HM2.out HB3.out) (show i < 16 by omega)); (have HP3 := Lib.hid (And.intro hrd3 (And.intro hfr3 hb3))); clear hrd3 hfr3 hb3))
      all_goals
        have hfp := file_put (k := k3) HM2.out (show i < 16 by omega) (doneF_ok (HM2.out.p.ok i (by omega)) HJ.out.2.2.2) HP3.out
        have hq4 := (blk_step HQ.out HB3.out).far (p := ⟨g, i, none⟩) (by have := HGQ.out; show wr.heap.size ≠ g; omega) (.slice A3 (doneF (D.fl i) c).length k3)
        generalize w3.setCell ⟨g, i, none⟩ (.slice A3 (doneF (D.fl i) c).length k3) = Wc at hfp hq4 ⊢
        have HFP := Lib.hid hfp
        obtain ⟨p0, p1, p2, p3⟩ := cell4J hq4
        obtain ⟨n0, hn0⟩ : ∃ n0, D.loose.length = n0 := ⟨_, rfl⟩
        have p16 : Wc.cell? ⟨g, 16, none⟩ = some (.slice m1.L n0 m1.lc) := by rw [← hn0]; exact (rkAt_cells hfp.1).1
        have dz : ∀ o, (Wc.alloc o).cell? ⟨g, 16, none⟩ = some (.slice m1.L n0 m1.lc) := fun o => by rw [← hn0]; exact (rkAt_cells (rkAt_below hfp.1 (one_alloc (o := o)))).1
        have HOW := Lib.hid (own_belowJ hfp.1.p.loo (one_alloc (w := Wc) (o := .cells #[.int .i64 i, .int .i64 pj, .bool false, .string TX] 94)).drew)
        have HRD := Lib.hid ((reads_four (Blk.new Wc 94 #[.int .i64 i, .int .i64 pj, .bool false, .string TX]).drew))
        have HFIN := Lib.hid (fun (wB : World) (A2 : Option Addr) (k2 : Nat) (ho : wB.ownsRow 0 94 4 (.slice A2 (n0 + 1) k2) (n0 + 1) (rcL D.loose ++ [.int .i64 i, .int .i64 pj, .bool false, .string TX])) (hg : ((Wc.alloc (.cells #[.int .i64 i, .int .i64 pj, .bool false, .string TX] 94)).drew).grownBy wB (Value.slice m1.L n0 m1.lc).ownBlock) (ht : (Value.slice A2 (n0 + 1) k2).ownBlock = (Value.slice m1.L n0 m1.lc).ownBlock ∨ (Value.slice A2 (n0 + 1) k2).ownBlock = some ((Wc.alloc (.cells #[.int .i64 i, .int .i64 pj, .bool false, .string TX] 94)).drew).heap.size) =>
          loose_put (c := c) HFP.out.1 (one_alloc (w := Wc) (o := .cells #[.int .i64 i, .int .i64 pj, .bool false, .string TX] 94)).drew HJ.out.2.2.2 HJ.out.2.2.1 hn0.symm (by rw [HRC.out.2.1, HRC.out.2.2.1, HRC.out.2.2.2.1, HRC.out.2.2.2.2]; exact ho) hg ht)
        have HG16 := Lib.hid (fun (wB : World) (hg : ((Wc.alloc (.cells #[.int .i64 i, .int .i64 pj, .bool false, .string TX] 94)).drew).grownBy wB (Value.slice m1.L n0 m1.lc).ownBlock) => (show wB.cell? ⟨g, 16, none⟩ = some (.slice m1.L n0 m1.lc) ∧ wB.frozen? ⟨g, 16, none⟩ = false from by
          have hk := rkAt_below HFP.out.1 (one_alloc (w := Wc) (o := .cells #[.int .i64 i, .int .i64 pj, .bool false, .string TX] 94)).drew
          have hb := hk.blk.grown hg (fun e => by
            rw [ownBlock_lbk] at e
            exact (hk.p.ls g e.symm).2 rfl)
          refine ⟨?_, hb.frozen _⟩
          rw [hb.cell, rkA_get _ _ _ (by omega), ← hn0]
          rfl))
        obtain ⟨iv, hv1, hv2, hv3, hv4⟩ := info_parts chg_info
        have hnL : n0 ≤ 8192000000 := by have h1 := HJ.out.2.2.1; rw [hn0] at h1; omega
        have hnLI : (n0 : Int) ≤ 8192000000 := by omega
        have HOW : Hid (((Wc.alloc (.cells #[.int .i64 i, .int .i64 pj, .bool false, .string TX] 94)).drew).ownsRow 0 94 4 (.slice m1.L n0 m1.lc) n0 (rcL D.loose)) := Lib.hid (by have h := HOW.out; rw [← hn0]; exact h)
        generalize rcL D.loose = RL at *
        clear hfp hq4 q0 q1 q2 q3 cf2 z3 y3 hn0
        go_wp2_with fail
        go_region_law (first
          | (refine step_append_j _ (by rfl) (.tmp 90) (.tmp 92) 53 (by rfl) 0 94 iv _ 4 40 Try.underlying53 hv1 hv2 hv3 hv4 rfl (by omega) _ n0 RL (by rfl) HOW.out _ (some ⟨Wc.heap.size, 0, none⟩) 1 1 [.int .i64 i, .int .i64 pj, .bool false, .string TX] (by rfl) HRD.out (by intro u hu; simp at hu; rcases hu with rfl | rfl | rfl | rfl <;> rfl) (by simp only [maxLen]; omega) (by omega) (Nat.zero_le _) ?_; intro A2 k2 wB hown2 hgr2 hat2; (obtain ⟨w16, x16⟩ := HG16.out wB hgr2); (have HE := Lib.hid (HFIN.out wB A2 k2 hown2 hgr2 hat2)); clear hown2 hgr2 hat2))
        all_goals
          have HEND := Lib.hid (show RkR w S g (wrS D0 (wrL i p s) (j + 1)) (N + 1) _ from by
            rw [HSU.out, HHF.out]
            exact (rkR_join (fr_step HJ.out.1 HB2.out) HJ.out.2.1 (rkR_join HFP.out.2 (fun b hb => hb.imp id (·.2)) HE.out)))
          go_wp2
          go_roundw
          case rel => exact ⟨j + 1, by omega, by go_num, HEND.out⟩
          case measure => simp [intOf]; omega
    · obtain rfl : j = n := by omega
      have HEND := Lib.hid (show RkR w S g R.1 (N + 1) wr ∧ R.2 = 0 from by
        rw [HG2.out]
        refine ⟨?_, rfl⟩
        have e : wrS D0 (wrL i p s) j = { doneAll 0 D0 (wrL i p s) with loose := D0.loose ++ wrL i p s } := by
          unfold wrS
          rw [List.take_of_length_le (by rw [wrL_len]; have := HNN.out; omega)]
        rw [← e]
        exact hrj)
      clear hrj
      go_wp2
      go_ret
      exact ⟨by rw [HEND.out.2]; rfl, HEND.out.1⟩
end Go.Proofs.Ytffojihhjiogpaa
