/- The walk of EvalJoins. Conditions: how both groups lie in memory. -/
import Derived.Test.YtkgpcodccpckeaaEg9
import Derived.Test.YtkgpcodccpckeaaEv12
import Derived.Deep.CutBlock
namespace Go.Proofs.Ytkgpcodccpckeaa
open Go Go.RowKit
set_option linter.unusedVariables false
set_option linter.unusedSimpArgs false
theorem str_ext15 {x y : ByteArray} (h : x.toList = y.toList) : x = y := by
  rw [ByteArray.toList_eq, ByteArray.toList_eq] at h
  exact ByteArray.ext (Array.toList_inj.1 h)
/-- both boxes -/
def Lw (w : World) (RA : Option Addr) (na ca : Nat) (RB : Option Addr) (nb cb : Nat) (W : World) : Prop := Blk W w.heap.size 43 #[.slice RA na ca] ∧ Blk W (w.heap.size + 1) 43 #[.slice RB nb cb] ∧ Below w.heap.size w W
theorem lw_step {w W W' : World} {RA : Option Addr} {na ca : Nat} {RB : Option Addr} {nb cb : Nat} (h : Lw w RA na ca RB nb cb W) (hb : Below W.heap.size W W') : Lw w RA na ca RB nb cb W' := ⟨blk_step h.1 hb, blk_step h.2.1 hb, bj h.2.2 hb⟩
theorem lw_new (w : World) (RA : Option Addr) (na ca : Nat) (RB : Option Addr) (nb cb : Nat) : Lw w RA na ca RB nb cb ((w.alloc (.cells #[.slice RA na ca] 43)).alloc (.cells #[.slice RB nb cb] 43)) := ⟨(Blk.new _ _ _).alloc _, blk_new _ _ _ _ (by simp), bj one_alloc one_alloc⟩
theorem lw_cells {w W : World} {RA : Option Addr} {na ca : Nat} {RB : Option Addr} {nb cb : Nat} (h : Lw w RA na ca RB nb cb W) : W.cell? ⟨w.heap.size, 0, none⟩ = some (.slice RA na ca) ∧ W.cell? ⟨w.heap.size + 1, 0, none⟩ = some (.slice RB nb cb) := ⟨h.1.cell 0, h.2.1.cell 0⟩
theorem own_ne {W : World} {base n g : Nat} {v : Value} {xs : List Value} {cs : Array Value} (h : W.ownsRow base 42 1 v n xs) (hg : Blk W g 43 cs) (e : some g = v.ownBlock) : False := by
  obtain ⟨hl, ⟨h, _⟩ | ⟨g', cap, cur, hv, hbg, hg', hr⟩⟩ := h
  · rw [h] at e; cases e
  · rw [hv] at e
    have e2 : g = g' := by simpa [Value.ownBlock] using e
    exact Blk.ne_ (show Blk W g' 42 cur from hg') hg (by decide) e2.symm
theorem one_f {W : World} {g : Nat} {t : TypeId} {a : Value} (h : Blk W g t #[a]) : W.cell? ⟨g, 0, none⟩ = some a ∧ W.frozen? ⟨g, 0, none⟩ = false := ⟨h.cell 0, h.frozen 0⟩
/-- what the closure says of an operation -/
abbrev JoinC (w : World) (g : Nat) (RA : Option Addr) (na ca : Nat) (RB : Option Addr) (nb cb : Nat) (W1 : World) (op : Int) (z1 z2 z3 : Val × Int) : Prop := ∀ W, Below W1.heap.size W1 W → Calls Try.prog 29 #[.int .u8 op, .pointer (some ⟨w.heap.size, 0, none⟩), .pointer (some ⟨w.heap.size + 1, 0, none⟩), .pointer (some ⟨g, 0, none⟩)] W fun e w' => e = .returned (.tuple #[valV z1.1, valV z2.1, valV z3.1, .bool (z1.2 == 0 && (z2.2 == 0 && z3.2 == 0))]) ∧ Below W.heap.size W w'
set_option maxRecDepth 100000 in
set_option maxHeartbeats 8000000 in
theorem joins_walk (RA : Option Addr) (la : List Rw) (na ca : Nat) (RB : Option Addr) (lb : List Rw) (nb cb : Nat) (w : World) (hna : na = la.length) (hnb : nb = lb.length)
    (HGA : Hid (∀ W : World, Below w.heap.size w W → Calls Try.prog 24 #[.slice RA na ca] W fun e w' => ∃ B : Bool, e = .returned (.bool B) ∧ (B = false → la.length ≤ 2000 ∧ ∀ r ∈ la, r.l.length ≤ 40) ∧ Below W.heap.size W w'))
    (HGB : Hid (∀ W : World, Below w.heap.size w W → Calls Try.prog 24 #[.slice RB nb cb] W fun e w' => ∃ B : Bool, e = .returned (.bool B) ∧ (B = false → lb.length ≤ 2000 ∧ ∀ r ∈ lb, r.l.length ≤ 40) ∧ Below W.heap.size W w'))
    (HRW : Hid (Rws w w.heap.size RA la ∧ Rws w w.heap.size RB lb))
    (HJJ : Hid ((la.length ≤ 2000 ∧ ∀ r ∈ la, r.l.length ≤ 40) → (lb.length ≤ 2000 ∧ ∀ r ∈ lb, r.l.length ≤ 40) → ∀ (g : Nat) (A : Option Addr) (k : Nat) (W : World), Lw w RA na ca RB nb cb W → Blk W g 43 #[.slice A (na + nb) k] → Rws W W.heap.size A (la ++ lb) → ∀ op, (op = 20 ∨ op = 21 ∨ op = 22) → JoinC w g RA na ca RB nb cb W op (foldC op la) (foldC op lb) (foldC op (la ++ lb)))) :
    Calls Try.prog 10 #[.slice RA na ca, .slice RB nb cb] w fun e w' => e = .returned (.bool true) ∧ Below w.heap.size w w' := by
  obtain ⟨iv, hv1, hv2, hv3, hv4⟩ := info_parts (show (Try.prog.info? 42).map (fun i => (i.zero, i.size, i.bytes)) = some (some (.slice none 0 0), 1, 24) by kernel_rfl)
  have HL := Lib.hid (lw_new w RA na ca RB nb cb)
  have HNA := Lib.hid hna
  have HNB := Lib.hid hnb
  clear hna hnb
  go_enter Try.func10, Try.ntmps10
  go_wp2_with fail
  refine (works15 _).mono ?_
  rintro e w1 ⟨rfl, hb1⟩
  have HL1 := Lib.hid (lw_step HL.out hb1)
  obtain ⟨c0, c1⟩ := lw_cells HL1.out
  clear hb1 HL
  go_wp2_with fail
  refine (HGA.out _ HL1.out.2.2).mono ?_
  rintro e w2 ⟨B, rfl, hB, hb2⟩
  have HL2 := Lib.hid (lw_step HL1.out hb2)
  clear hb2 c0 c1 HL1
  obtain ⟨c0, c1⟩ := lw_cells HL2.out
  cases B
  case' true =>
    clear hB
    go_wp2
    go_ret
    exact ⟨rfl, HL2.out.2.2⟩
  have HA40 := Lib.hid (hB rfl)
  clear hB
  go_wp2_with fail
  refine (HGB.out _ HL2.out.2.2).mono ?_
  rintro e w3 ⟨B, rfl, hB, hb3⟩
  have HL3 := Lib.hid (lw_step HL2.out hb3)
  clear hb3 c0 c1 HL2
  obtain ⟨c0, c1⟩ := lw_cells HL3.out
  cases B
  case' true =>
    clear hB
    go_wp2
    go_ret
    exact ⟨rfl, HL3.out.2.2⟩
  have HB40 := Lib.hid (hB rfl)
  have HJ2 := Lib.hid (HJJ.out HA40.out HB40.out)
  clear hB HJJ HGA HGB
  go_upto_region 5 with fail
  go_cut [5] (fun s5 wx => ∃ g A k, s5 = .pointer (some ⟨g, 0, none⟩) ∧ Blk wx g 43 #[.slice A (na + nb) k] ∧ wx.ownsRow w3.heap.size 42 1 (.slice A (na + nb) k) (na + nb) (slCs la ++ slCs lb) ∧ Below w3.heap.size w3 wx)
  case first =>
    have hna := HNA.out
    have hnb := HNB.out
    have h1 := HA40.out.1
    have h2 := HB40.out.1
    have HM1 := Lib.hid (show 0 + na ≤ maxLen by simp only [maxLen]; omega)
    have HM2 := Lib.hid (show (0 + na) * 24 ≤ 140737488355328 by omega)
    have HM3 := Lib.hid (show na + nb ≤ maxLen by simp only [maxLen]; omega)
    have HM4 := Lib.hid (show (na + nb) * 24 ≤ 140737488355328 by omega)
    have e0 : ∀ o, (w3.alloc o).cell? ⟨w.heap.size, 0, none⟩ = some (.slice RA na ca) := fun o => (HL3.out.1.alloc o).cell 0
    have e1 : ∀ o, (w3.alloc o).cell? ⟨w.heap.size + 1, 0, none⟩ = some (.slice RB nb cb) := fun o => (HL3.out.2.1.alloc o).cell 0
    have ee0 : ∀ o q, ((w3.alloc o).alloc q).cell? ⟨w.heap.size, 0, none⟩ = some (.slice RA na ca) := fun o q => ((HL3.out.1.alloc o).alloc q).cell 0
    have ee1 : ∀ o q, ((w3.alloc o).alloc q).cell? ⟨w.heap.size + 1, 0, none⟩ = some (.slice RB nb cb) := fun o q => ((HL3.out.2.1.alloc o).alloc q).cell 0
    have HRA : Hid (∀ W, Below w3.heap.size w3 W → Reads W W.heap.size 1 RA na (slCs la)) := Lib.hid fun W hb => by
      rw [HNA.out]
      exact rws_reads (rws_step (rws_step HRW.out.1 HL3.out.2.2) hb)
    have HRB : Hid (∀ W, Below w3.heap.size w3 W → Reads W W.heap.size 1 RB nb (slCs lb)) := Lib.hid fun W hb => by
      rw [HNB.out]
      exact rws_reads (rws_step (rws_step HRW.out.2 HL3.out.2.2) hb)
    have HCB : Hid (∀ W, Below w3.heap.size w3 W → W.cell? ⟨w.heap.size + 1, 0, none⟩ = some (.slice RB nb cb)) := Lib.hid fun W hb => (blk_step HL3.out.2.1 hb).cell 0
    have E1 := Lib.hid (Blk.new w3 42 #[]).drew
    have E2 := Lib.hid ((Blk.new w3 42 #[]).alloc (.cells #[.slice none 0 0] 43)).drew
    have E3 := Lib.hid (blk_new (w3.alloc (.cells #[.slice none 0 0] 43)) (w3.heap.size + 1) 42 #[] (by simp)).drew
    have B1 := Lib.hid ((Below.refl w3.heap.size w3).alloc (Nat.le_refl _) (.cells #[] 42)).drew
    have B2 := Lib.hid (((Below.refl w3.heap.size w3).alloc (Nat.le_refl _) (.cells #[] 42)).alloc (by simp) (.cells #[.slice none 0 0] 43)).drew
    have B3 := Lib.hid (((Below.refl w3.heap.size w3).alloc (Nat.le_refl _) (.cells #[.slice none 0 0] 43)).alloc (by simp) (.cells #[] 42)).drew
    have V2 := Lib.hid (blk_new (w3.alloc (.cells #[] 42)) (w3.heap.size + 1) 43 #[.slice none 0 0] (by simp)).drew
    have V3 := Lib.hid ((Blk.new w3 43 #[.slice none 0 0]).alloc (.cells #[] 42)).drew
    clear hna hnb h1 h2
    go_wp2_with fail
    go_region_law (first
      | (refine step_append_any _ (by rfl) (.tmp 27) (.tmp 28) 43 (by rfl) w3.heap.size 42 iv _ 1 24 Try.underlying43 hv1 hv2 hv3 hv4 rfl (by omega) _ 0 [] (by rfl) (by first | exact own_e1 E1.out (Nat.le_refl _) | exact own_e1 E2.out (Nat.le_refl _) | exact own_e1 E3.out (Nat.le_succ _)) _ RA na ca (slCs la) (by rfl) (HRA.out _ (by first | exact B1.out | exact B2.out | exact B3.out)) (slCs_one la) HM1.out HM2.out (by first | exact B1.out.size | exact B2.out.size | exact B3.out.size) ?_; intro A1 k1 wA hown1 hgr1; (simp only [Nat.zero_add, List.nil_append] at hown1); (have hbA := grown_below (by first | exact B1.out | exact B2.out | exact B3.out) hgr1 (by first | exact Nat.le_refl _ | exact Nat.le_succ _)); (have x0 := (HCB.out _ hbA)); (have xx0 : ∀ o, (wA.alloc o).cell? ⟨w.heap.size + 1, 0, none⟩ = some (.slice RB nb cb) := fun o => HCB.out _ (hbA.alloc hbA.size o)); (try (have hv9 := V2.out.grown hgr1 (fun e => absurd (show some (w3.heap.size + 1) = some w3.heap.size from e) (by simp)))); (try (have hv9 := V3.out.grown hgr1 (fun e => absurd (show some w3.heap.size = some (w3.heap.size + 1) from e) (by simp)))); (have HO1 := Lib.hid hown1); (have HBA := Lib.hid hbA); clear hown1 hgr1 hbA)
      | (refine step_append_any _ (by rfl) (.tmp 29) (.tmp 30) 43 (by rfl) w3.heap.size 42 iv _ 1 24 Try.underlying43 hv1 hv2 hv3 hv4 rfl (by omega) (.slice A1 na k1) na (slCs la) (by rfl) (by first | exact HO1.out | exact HO1.out.alloc _) _ RB nb cb (slCs lb) (by rfl) (HRB.out _ (by first | exact HBA.out | exact HBA.out.alloc HBA.out.size _)) (slCs_one lb) HM3.out HM4.out (by first | exact HBA.out.size | exact (HBA.out.alloc HBA.out.size _).size) ?_; intro A2 k2 wB hown2 hgr2; (have HBB := Lib.hid (below_grown (by first | exact HBA.out | exact HBA.out.alloc HBA.out.size _) hgr2 (fun y hy => (HO1.out.lt y hy).1))); (try (have hv8 := (hv9).grown hgr2 (fun e => own_ne HO1.out hv9 e))); (try (have hv8 := (Blk.new wA 43 #[.slice none 0 0]).grown hgr2 (fun e => own_ne (HO1.out.alloc _) (Blk.new wA 43 #[.slice none 0 0]) e))); (try (have z0 := (one_f hv8).1; have z1 := (one_f hv8).2)); (have HO2 := Lib.hid hown2); clear hown2 hgr2))
    all_goals
      go_wp2_with fail
      go_meet
      first
        | exact ⟨_, A2, k2, rfl, Blk.new _ _ _, HO2.out.alloc _, HBB.out.alloc HBB.out.size _⟩
        | exact ⟨_, A2, k2, rfl, hv8.set_ 0 _, own_other HO2.out hv8 _, HBB.out.setCell (by first | exact Nat.le_refl _ | exact Nat.le_succ _ | exact HBA.out.size) _⟩
  case rest =>
    obtain ⟨g, A, k, rfl, hg, how, hbw⟩ := hcut
    have HLC := Lib.hid (lw_step HL3.out hbw)
    have hrs : Rws wc wc.heap.size A (la ++ lb) := by
      refine rws_of_own (by rw [slCs_append]; exact how) (by rw [List.length_append, HNA.out, HNB.out]) (fun r hr => ?_)
      rcases List.mem_append.1 hr with hr | hr
      · exact rws_ok (rws_step (rws_step HRW.out.1 HL3.out.2.2) hbw) r hr
      · exact rws_ok (rws_step (rws_step HRW.out.2 HL3.out.2.2) hbw) r hr
    have hj := HJ2.out g A k wc HLC.out hg hrs
    have J20 := Lib.hid (hj 20 (.inl rfl))
    have J21 := Lib.hid (hj 21 (.inr (.inl rfl)))
    have J22 := Lib.hid (hj 22 (.inr (.inr rfl)))
    have Q20 := Lib.hid (joins_count la lb)
    have Q20b := Lib.hid (fun h => count_in (la ++ lb) h (by rw [List.length_append]; have := HA40.out.1; have := HB40.out.1; omega))
    have Q21 := Lib.hid (joins_sum la lb)
    have Q22 := Lib.hid (joins_min la lb)
    generalize foldC 20 la = x20 at *
    generalize foldC 20 lb = y20 at *
    generalize foldC 20 (la ++ lb) = z20 at *
    generalize foldC 21 la = x21 at *
    generalize foldC 21 lb = y21 at *
    generalize foldC 21 (la ++ lb) = z21 at *
    generalize foldC 22 la = x22 at *
    generalize foldC 22 lb = y22 at *
    generalize foldC 22 (la ++ lb) = z22 at *
    rename World => W0
    clear hg how hbw hrs hj HJ2 HL3 c0 c1 HRW HA40 HB40
    have HBW := Lib.hid (Below.refl W0.heap.size W0)
    obtain ⟨⟨p1, q1, s1⟩, r1⟩ := x20
    obtain ⟨⟨p2, q2, s2⟩, r2⟩ := y20
    obtain ⟨⟨p3, q3, s3⟩, r3⟩ := z20
    try simp only at Q20 Q20b
    have hj := J20.out
    unfold JoinC at hj
    simp only at hj
    generalize hB : (r1 == 0 && (r2 == 0 && r3 == 0)) = B at hj
    have JB := Lib.hid hj
    have HBB := Lib.hid hB
    clear hj hB J20
    go_wp2_with fail
    refine (JB.out _ HBW.out).mono ?_
    rintro e w5 ⟨rfl, hb5⟩
    have HB5 := Lib.hid (bj (bj HBW.out hb5) (bj3 (o := .cells (valC (p1, q1, s1)) 23) (q := .cells (valC (p2, q2, s2)) 23) (r := .cells (valC (p3, q3, s3)) 23)))
    clear hb5 JB HBW
    go_upto_region 8 with fail
    go_cut [50] from 40 to 49 (fun s50 wx => s50 = .bool false ∧ Below W0.heap.size W0 wx)
    case first =>
      cases B
      case' false =>
        clear Q20 Q20b
        go_wp2_with fail
        go_meet
        exact ⟨rfl, HB5.out⟩
      have hh := HBB.out
      simp only [Bool.and_eq_true, beq_iff_eq] at hh
      have HR := Lib.hid hh
      clear hh HBB
      have hq := Q20.out HR.out.1 HR.out.2.1 HR.out.2.2
      have hbn := Q20b.out HR.out.2.2
      have hw : IntKind.i64.wrap (q1 + q2) = q3 := by rw [IntKind.wrap_i64]; omega
      clear hq hbn Q20 Q20b
      go_wp2_with fail
      go_meet
      exact ⟨rfl, HB5.out⟩
    case rest =>
      obtain ⟨rfl, hbw⟩ := hcut
      have HBW := Lib.hid hbw
      clear hbw HB5 Q20 Q20b HBB
      obtain ⟨⟨p1, q1, s1⟩, r1⟩ := x21
      obtain ⟨⟨p2, q2, s2⟩, r2⟩ := y21
      obtain ⟨⟨p3, q3, s3⟩, r3⟩ := z21
      try simp only at Q21
      have hj := J21.out
      unfold JoinC at hj
      simp only at hj
      generalize hB : (r1 == 0 && (r2 == 0 && r3 == 0)) = B at hj
      have JB := Lib.hid hj
      have HBB := Lib.hid hB
      clear hj hB J21
      go_wp2_with fail
      refine (JB.out _ HBW.out).mono ?_
      rintro e w5 ⟨rfl, hb5⟩
      have HB5 := Lib.hid (bj (bj HBW.out hb5) (bj3 (o := .cells (valC (p1, q1, s1)) 23) (q := .cells (valC (p2, q2, s2)) 23) (r := .cells (valC (p3, q3, s3)) 23)))
      clear hb5 JB HBW
      go_upto_region 11 with fail
      go_cut [82] from 58 to 81 (fun s50 wx => s50 = .bool false ∧ Below W0.heap.size W0 wx)
      case first =>
        cases B
        case' false =>
          clear Q21
          go_wp2_with fail
          go_meet
          exact ⟨rfl, HB5.out⟩
        have hh := HBB.out
        simp only [Bool.and_eq_true, beq_iff_eq] at hh
        have HR := Lib.hid hh
        clear hh HBB
        obtain ⟨hq, hk, hb1, hb2⟩ := Q21.out HR.out.1 HR.out.2.1 HR.out.2.2
        have hw : IntKind.i64.wrap (q1 + q2) = q3 := by rw [IntKind.wrap_i64]; omega
        clear hq hb1 hb2 Q21
        by_cases hp1 : p1 = 0
        · by_cases hp2 : p2 = 0
          · subst hp1 hp2
            have hk2 : (p3 == 0) = true := by rw [hk]; rfl
            clear hk
            go_wp2_with fail
            go_meet
            exact ⟨rfl, HB5.out⟩
          · have k2 := beq_no hp2
            subst hp1
            have hk2 : (p3 == 0) = false := by rw [hk, k2]; rfl
            clear hk hp2
            go_wp2_with fail
            go_meet
            exact ⟨rfl, HB5.out⟩
        · have k1 := beq_no hp1
          have hk2 : (p3 == 0) = false := by rw [hk, k1]; rfl
          clear hk hp1
          go_wp2_with fail
          go_meet
          exact ⟨rfl, HB5.out⟩
      case rest =>
        obtain ⟨rfl, hbw⟩ := hcut
        have HBW := Lib.hid hbw
        clear hbw HB5 Q21 HBB
        obtain ⟨⟨p1, q1, s1⟩, r1⟩ := x22
        obtain ⟨⟨p2, q2, s2⟩, r2⟩ := y22
        obtain ⟨⟨p3, q3, s3⟩, r3⟩ := z22
        try simp only at Q22
        have hj := J22.out
        unfold JoinC at hj
        simp only at hj
        generalize hB : (r1 == 0 && (r2 == 0 && r3 == 0)) = B at hj
        have JB := Lib.hid hj
        have HBB := Lib.hid hB
        clear hj hB J22
        go_wp2_with fail
        refine (JB.out _ HBW.out).mono ?_
        rintro e w5 ⟨rfl, hb5⟩
        have HB5 := Lib.hid (bj (bj HBW.out hb5) (bj3 (o := .cells (valC (p1, q1, s1)) 23) (q := .cells (valC (p2, q2, s2)) 23) (r := .cells (valC (p3, q3, s3)) 23)))
        clear hb5 JB HBW
        go_upto_region 14 with fail
        go_cut [100] from 90 to 99 (fun s50 wx => s50 = .bool false ∧ Below W0.heap.size W0 wx)
        case first =>
          cases B
          case' false =>
            clear Q22
            go_wp2_with fail
            go_meet
            exact ⟨rfl, HB5.out⟩
          have hh := HBB.out
          simp only [Bool.and_eq_true, beq_iff_eq] at hh
          have HR := Lib.hid hh
          clear hh HBB
          by_cases hz : ((p3, q3, s3) : Val) = (p1, q1, s1)
          · simp only [Prod.mk.injEq] at hz
            obtain ⟨rfl, rfl, rfl⟩ := hz
            clear Q22
            go_wp2_with fail
            go_meet
            exact ⟨rfl, HB5.out⟩
          · have hz2 := (Q22.out HR.out.1 HR.out.2.1 HR.out.2.2).resolve_left hz
            simp only [Prod.mk.injEq] at hz2
            obtain ⟨rfl, rfl, rfl⟩ := hz2
            clear Q22
            by_cases hp : p3 = p1
            · subst hp
              by_cases hq : q3 = q1
              · subst hq
                have hs : ¬ s3 = s1 := fun e => hz (by rw [e])
                have hsb : ¬ s3.toList = s1.toList := fun e => hs (str_ext15 e)
                have hsc : (s3.toList == s1.toList) = false := by rw [beq_eq_false_iff_ne]; exact hsb
                clear hz hs
                go_wp2_with fail
                go_meet
                exact ⟨rfl, HB5.out⟩
              · have hqb := beq_no hq
                clear hz hq
                go_wp2_with fail
                go_meet
                exact ⟨rfl, HB5.out⟩
            · have hpb := beq_no hp
              clear hz hp
              go_wp2_with fail
              go_meet
              exact ⟨rfl, HB5.out⟩
        case rest =>
          obtain ⟨rfl, hbw⟩ := hcut
          have HE := Lib.hid (bj HLC.out.2.2 hbw)
          clear hbw HB5 Q22 HBB
          go_wp2
          go_ret
          exact ⟨rfl, HE.out⟩
theorem int_op (op : Int) (h0 : 0 ≤ op) (h1 : op < 256) (kg : Nat) (W : World) (h : Blk W kg 29 (exC (colX 0))) : InT W W.heap.size (opT op (some ⟨kg, 0, none⟩) 1) := by
  have hf : Fits zV := ⟨by decide, by decide, by decide, by decide⟩
  have hs : zV.2.2.size ≤ 140737488351232 := by decide
  refine .mk op zV ⟨#[]⟩ ⟨#[]⟩ 0 _ 1 [colT] ⟨h0, h1⟩ hf ⟨by omega, by omega⟩ hs (by unfold maxLen; simp) (.inr ⟨kg, 0, rfl, h.lt, fun j x hx => ?_⟩) (fun k hk => ?_)
  · match j, hx with
    | 0, hx =>
      simp at hx
      subst hx
      exact ⟨h.cell 0, h.cell 1, h.cell 2, h.cell 3, h.cell 4, h.cell 5, h.cell 6, h.cell 7⟩
    | j + 1, hx => simp at hx
  · rw [List.mem_singleton.1 hk]
    exact .mk 2 zV ⟨#[]⟩ ⟨#[]⟩ 0 none 0 [] ⟨by omega, by omega⟩ hf ⟨by omega, by omega⟩ hs (Nat.zero_le _) (.inl rfl) (fun k hk => by cases hk)
theorem foldc_any (op : Int) (ho : op = 20 ∨ op = 21 ∨ op = 22) (rs : List Rw) (R : Option Addr) (rn rc : Nat) (w : World) (hn : rn = rs.length) (hn1 : rn ≤ 100000) (hl : ∀ r ∈ rs, r.l.length ≤ 1000 ∧ ∀ x ∈ r.l, Vk x) (hR : Rws w w.heap.size R rs) : FoldC w op R rn rc (foldC op rs) := by
  intro kg W hb hk
  have h := fold_tree rs R rn rc 1 hn hn1 hl (opT op (some ⟨kg, 0, none⟩) 1) W (int_op op (by omega) (by omega) kg W hk) (rws_step hR hb)
  rw [foldP_col op _ _ rs ho] at h
  exact h
theorem evalJoins_walk (A0 : Option Addr) (rs0 : List Rw) (k0_ : Nat) (A1 : Option Addr) (rs1 : List Rw) (k1_ : Nat) (hn0 : rs0.length ≤ maxLen) (hm0 : rs0.length ≤ k0_) (hc0 : k0_ ≤ maxLen) (hz0 : A0 = none → rs0 = [] ∧ k0_ = 0) (hV0 : ∀ r ∈ rs0, ∀ y ∈ r.l, Vk y) (hn1 : rs1.length ≤ maxLen) (hm1 : rs1.length ≤ k1_) (hc1 : k1_ ≤ maxLen) (hz1 : A1 = none → rs1 = [] ∧ k1_ = 0) (hV1 : ∀ r ∈ rs1, ∀ y ∈ r.l, Vk y) (w : World) (I0 : Rws w w.heap.size A0 rs0) (I1 : Rws w w.heap.size A1 rs1) :
    Calls Try.prog 10 #[.slice A0 rs0.length k0_, .slice A1 rs1.length k1_] w fun e w' => e = .returned (.bool true) ∧ Below w.heap.size w w' := by
  refine joins_walk A0 rs0 rs0.length k0_ A1 rs1 rs1.length k1_ w rfl rfl (Lib.hid fun W hb => great_all A0 rs0 k0_ W (rws_step I0 hb) hn0) (Lib.hid fun W hb => great_all A1 rs1 k1_ W (rws_step I1 hb) hn1) (Lib.hid ⟨I0, I1⟩) (Lib.hid fun h0 h1 g A k W hL hg hR op ho W' hb => ?_)
  have hL2 := lw_step hL hb
  have hg2 := blk_step hg hb
  have a0 := rws_step (rws_step I0 hL.2.2) hb
  have a1 := rws_step (rws_step I1 hL.2.2) hb
  have a2 := rws_step hR hb
  have b0 : ∀ r ∈ rs0, r.l.length ≤ 1000 ∧ ∀ x ∈ r.l, Vk x := fun r hr => ⟨by have := h0.2 r hr; omega, hV0 r hr⟩
  have b1 : ∀ r ∈ rs1, r.l.length ≤ 1000 ∧ ∀ x ∈ r.l, Vk x := fun r hr => ⟨by have := h1.2 r hr; omega, hV1 r hr⟩
  have c0 := h0.1
  have c1 := h1.1
  exact joins_any op w.heap.size (w.heap.size + 1) g A0 A1 A rs0.length k0_ rs1.length k1_ (rs0.length + rs1.length) k _ _ _ W' hL2.1.lt hL2.2.1.lt hg2.lt (hL2.1.cell 0) (hL2.2.1.cell 0) (hg2.cell 0)
    (foldc_any op ho rs0 A0 _ k0_ W' rfl (by omega) b0 a0) (foldc_any op ho rs1 A1 _ k1_ W' rfl (by omega) b1 a1) (foldc_any op ho (rs0 ++ rs1) A _ k W' (by rw [List.length_append]) (by omega) (fun r hr => by
      rcases List.mem_append.1 hr with hr | hr
      · exact b0 r hr
      · exact b1 r hr) a2)
end Go.Proofs.Ytkgpcodccpckeaa
