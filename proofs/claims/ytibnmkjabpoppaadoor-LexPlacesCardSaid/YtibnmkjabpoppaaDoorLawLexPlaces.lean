/- Layer 13: the walk of LexPlaces. Conditions: those of each lemma. -/
import Derived.Test.YtibnmkjabpoppaaDoorLx28
namespace Go.Proofs.YtibnmkjabpoppaaDoor
open Go Go.RowKit
set_option linter.unusedVariables false
set_option linter.unusedSimpArgs false
theorem tks_cells {W : World} {g o : Nat} {l : List TK} (hc : ∀ (j k : Nat) (x : ByteArray) (n p : Nat), l[j]? = some (k, x, n, p) → W.cell? ⟨g, o + j * 4, none⟩ = some (.int .u8 k) ∧ W.cell? ⟨g, o + j * 4 + 1, none⟩ = some (.string x) ∧ W.cell? ⟨g, o + j * 4 + 2, none⟩ = some (.int .u64 n) ∧ W.cell? ⟨g, o + j * 4 + 3, none⟩ = some (.int .i64 p)) {W' : World} (hg : g < W.heap.size) (hb : Below W.heap.size W W') :
    ∀ (j k : Nat) (x : ByteArray) (n p : Nat), l[j]? = some (k, x, n, p) → W'.cell? ⟨g, o + j * 4, none⟩ = some (.int .u8 k) ∧ W'.cell? ⟨g, o + j * 4 + 1, none⟩ = some (.string x) ∧ W'.cell? ⟨g, o + j * 4 + 2, none⟩ = some (.int .u64 n) ∧ W'.cell? ⟨g, o + j * 4 + 3, none⟩ = some (.int .i64 p) := fun j k x n p hj => by
  obtain ⟨a, b, c, d⟩ := hc j k x n p hj
  exact ⟨(hb.cell (p := ⟨g, _, none⟩) hg).trans a, (hb.cell (p := ⟨g, _, none⟩) hg).trans b, (hb.cell (p := ⟨g, _, none⟩) hg).trans c, (hb.cell (p := ⟨g, _, none⟩) hg).trans d⟩
set_option maxRecDepth 100000 in
set_option maxHeartbeats 8000000 in
theorem lexPlaces_walk (a0 : ByteArray) (w0 : a0.size ≤ 140737488351232) (w : World) (hG : Gt w) : Calls Tryd.prog 7 #[.string a0] w fun e w' => e = .returned (.bool true) ∧ Below w.heap.size w w' := by
  have HW := Lib.hid (works13_any w hG)
  have HG := Lib.hid hG
  by_cases hl : 8192 < a0.size
  · have hI : (8192 : Int) < a0.size := by omega
    clear hl hG
    go_enter Tryd.func7, Tryd.ntmps7
    go_wp2_with fail
    refine (HW.out).mono ?_
    rintro e w1 ⟨rfl, hb1⟩
    go_wp2
    go_ret
    exact ⟨rfl, hb1⟩
  have hI : ¬ (8192 : Int) < a0.size := by omega
  have HTK := Lib.hid (fun W hG => tokens_any a0 W hG)
  have HTC := Lib.hid (fun (p : Nat) W hG => tokens_any (a0.extract p a0.size) W hG)
  have HSZ := Lib.hid w0
  clear hl hG w0
  go_enter Tryd.func7, Tryd.ntmps7
  go_wp2_with fail
  refine (HW.out).mono ?_
  rintro e w1 ⟨rfl, hb1⟩
  have HB1 := Lib.hid hb1
  clear hb1
  go_wp2_with fail
  refine (HTK.out _ (gt_step HG.out HB1.out).1 (gt_step HG.out HB1.out).2).mono ?_
  rintro e w2 ⟨hb2, h2⟩
  have HB2 := Lib.hid (bj13 HB1.out hb2)
  clear hb2
  rcases h2 with ⟨e0, q0, hE, rfl⟩ | ⟨l, A, c, hE, rfl, ho⟩
  · obtain ⟨he0, hq0⟩ := tokensA_err hE
    have heb : ((e0 : Int) == 0) = false := beq_no13 (by omega)
    have heb2 : ((e0 : Int) != 0) = true := by rw [bne_iff_ne]; omega
    have hqI : (q0 : Int) ≤ a0.size := by omega
    have hqI0 : (0 : Int) ≤ q0 := by omega
    unfold spotV
    obtain ⟨s0, s1, _, _⟩ := cell2b (Blk.new w2 26 #[.int .i64 e0, .int .i64 q0])
    have HB3 := Lib.hid (bj13 HB2.out (one_alloc (o := .cells #[.int .i64 e0, .int .i64 q0] 26)))
    clear hE
    go_wp2
    go_ret
    exact ⟨rfl, HB3.out⟩
  · have HRW := Lib.hid (tks_own ho)
    have HLEN := Lib.hid (tokensA_len hE).2
    have HEACH := Lib.hid (fun i t => tokens_each hE (i := i) (t := t))
    clear ho hE
    unfold spotV
    obtain ⟨s0, s1, _, _⟩ := cell2b (Blk.new w2 26 #[.int .i64 0, .int .i64 0])
    have HB3 := Lib.hid (bj13 HB2.out (one_alloc (o := .cells #[.int .i64 0, .int .i64 0] 26)))
    have HR3 := Lib.hid (tks_step HRW.out (one_alloc (o := .cells #[.int .i64 0, .int .i64 0] 26)))
    go_wp2
    go_loopw [5, 36] (fun a i wr => ∃ j : Nat, j ≤ l.length ∧ i = .int .i64 j ∧ TksAt wr A l ∧ Below w.heap.size w wr) (fun _ i _ => l.length - (intOf i).toNat)
    case atStart => exact ⟨0, Nat.zero_le _, rfl, HR3.out, HB3.out⟩
    case round =>
      clear HB3 HR3 s0 s1 HB2
      obtain ⟨j, hj, rfl, hrow, hbw⟩ := hrel
      have HBW := Lib.hid hbw
      have hlen := HLEN.out
      clear hbw
      by_cases hlt : j < l.length
      · obtain ⟨⟨k, x, n, p⟩, g1⟩ : ∃ t, l[j]? = some t := ⟨l[j], List.getElem?_eq_getElem _⟩
        obtain ⟨b1, o1, rfl, l1, hc⟩ := hrow.resolve_left (by rintro rfl; simp at hlt)
        have HC := Lib.hid hc
        obtain ⟨hps, ⟨m, hm, hmap⟩, hprev⟩ := HEACH.out j _ g1
        simp only at hps hm hmap hprev
        obtain ⟨d1, d2, d3, d4⟩ := hc j k x n p g1
        have hpI : (p : Int) < a0.size := by omega
        have jI : (j : Int) < l.length := by omega
        have hdd : decide ((a0.size : Int) ≤ (p : Int)) = false := by simp; omega
        have hddn : decide (a0.size ≤ p) = false := by simp; omega
        have HM := Lib.hid hm
        have HMAP := Lib.hid hmap
        have HL1 := Lib.hid l1
        have h6 := Blk.new wr 32 #[.int .u8 k, .string x, .int .u64 n, .int .i64 p]
        have H6 := Lib.hid h6
        clear hm hmap hrow
        go_upto_region 11 with fail
        go_cut [60] (fun v wx => v = .bool false ∧ Blk wx wr.heap.size 32 #[.int .u8 k, .string x, .int .u64 n, .int .i64 p] ∧ Below wr.heap.size wr wx)
        case first =>
          obtain ⟨t0, t1, t2, t3⟩ := cell4b h6
          by_cases hj00 : j = 0
          · have hj0 : decide ((0 : Int) < (j : Int)) = false := by simp; omega
            have hj0n : decide (0 < j) = false := by simp; omega
            clear h6 hc hprev HC HM HMAP HL1 g1 hj00
            go_wp2_with fail
            go_big_quiet (fail)
            rename_i nq
            have HF := Lib.hid (below_drewN (Below.refl (wr.alloc (.cells #[.int .u8 k, .string x, .int .u64 n, .int .i64 p] 32)).heap.size (wr.alloc (.cells #[.int .u8 k, .string x, .int .u64 n, .int .i64 p] 32))) nq)
            go_wp2_with fail
            go_meet
            exact ⟨rfl, Blk.below H6.out HF.out (Blk.lt H6.out), bj13 one_alloc HF.out⟩
          · obtain ⟨j', hj'⟩ : ∃ j', j = j' + 1 := ⟨j - 1, by omega⟩
            obtain ⟨⟨k', x', n', p'⟩, g2⟩ : ∃ t, l[j']? = some t := ⟨l[j']'(by omega), List.getElem?_eq_getElem _⟩
            have hlt2 := hprev j' _ hj' g2
            simp only at hlt2
            obtain ⟨_, _, _, r4⟩ := tks_cells hc l1 (one_alloc (o := .cells #[.int .u8 k, .string x, .int .u64 n, .int .i64 p] 32)) j' k' x' n' p' g2
            have hle : decide ((p : Int) ≤ p') = false := by simp; omega
            have hj0 : (0 : Int) < (j : Int) := by omega
            have hj0n : 0 < j := by omega
            have hj0d : decide (0 < j) = true := by simp; omega
            have hle2 : decide (p ≤ p') = false := by simp; omega
            have hw1 : IntKind.i64.wrap ((j : Int) - 1) = (j' : Int) := by simp [IntKind.wrap, IntKind.bits, IntKind.signed]; omega
            have hw2 : ((j : Int) - 1) = (j' : Int) := by omega
            have hj1 : (0 : Int) ≤ (j' : Int) := by omega
            have hj2 : (j' : Int) < l.length := by omega
            clear h6 hc g1 g2 hlt2 hprev d1 d2 d3 d4 HC HM HMAP HL1 hj00 hj'
            go_wp2_with fail
            go_big_quiet (fail)
            rename_i nq
            have HF := Lib.hid (below_drewN (Below.refl (wr.alloc (.cells #[.int .u8 k, .string x, .int .u64 n, .int .i64 p] 32)).heap.size (wr.alloc (.cells #[.int .u8 k, .string x, .int .u64 n, .int .i64 p] 32))) nq)
            go_wp2_with fail
            go_meet
            exact ⟨rfl, Blk.below H6.out HF.out (Blk.lt H6.out), bj13 one_alloc HF.out⟩
        case rest =>
          obtain ⟨rfl, hK6, hbx⟩ := hcut
          rename World => wx
          have HK6 := Lib.hid hK6
          have HBX := Lib.hid (bj13 HBW.out hbx)
          have HRX := Lib.hid (tks_cells HC.out HL1.out hbx)
          have hlx : b1 < wx.heap.size := Nat.lt_of_lt_of_le HL1.out hbx.size
          obtain ⟨t0, t1, t2, t3⟩ := cell4b hK6
          have hml : (l.length : Int) - (j : Int) = (m.length : Int) := by
            have h := congrArg List.length HMAP.out
            rw [List.length_map, List.length_drop] at h
            omega
          have hmle : m.length ≤ 4097 := by omega
          clear hK6 hbx H6 h6 hc hprev d1 d2 d3 d4 hdd hddn
          go_wp2_with fail
          refine (HTC.out p _ (gt_step HG.out HBX.out).1 (gt_step HG.out HBX.out).2).mono ?_
          rintro e w3 ⟨hb3, ⟨e1, q1, hF, rfl⟩ | ⟨m', A', c', hF, rfl, ho3⟩⟩
          · rw [HM.out] at hF; cases hF
          rw [HM.out] at hF
          injection hF with hF
          subst hF
          unfold spotV
          obtain ⟨s0, s1, _, _⟩ := cell2b (Blk.new w3 26 #[.int .i64 0, .int .i64 0])
          have hb4 := bj13 hb3 (one_alloc (o := .cells #[.int .i64 0, .int .i64 0] 26))
          have HB4 := Lib.hid hb4
          have HROW := Lib.hid (tks_step (tks_own ho3) (one_alloc (o := .cells #[.int .i64 0, .int .i64 0] 26)))
          have HBW4 := Lib.hid (bj13 HBX.out hb4)
          clear hb3 hb4 ho3 t0 t1 t2 t3
          go_wp2
          go_loopw [9, 83] (fun a i wq => ∃ kk : Nat, kk ≤ m.length ∧ i = .int .i64 kk ∧ Below wx.heap.size wx wq ∧ TksAt wq A' m) (fun _ i _ => m.length - (intOf i).toNat)
          case atStart => exact ⟨0, Nat.zero_le _, rfl, HB4.out, HROW.out⟩
          case round =>
            clear HB4 HROW HBW4 s0 s1
            obtain ⟨kk, hkk, rfl, hbq, hrq⟩ := hrel
            have HBQ := Lib.hid hbq
            by_cases hkm : kk < m.length
            · obtain ⟨⟨k2, x2, n2, p2⟩, g2⟩ : ∃ t, m[kk]? = some t := ⟨m[kk], List.getElem?_eq_getElem _⟩
              have g3 : l[j + kk]? = some (k2, x2, n2, p + p2) := by
                have h := congrArg (·[kk]?) HMAP.out
                simp only [List.getElem?_map, List.getElem?_drop, g2, Option.map_some] at h
                rw [← h]
                rfl
              obtain ⟨b2, o2, rfl, l2, hc2⟩ := hrq.resolve_left (by rintro rfl; simp at hkm)
              obtain ⟨d1, d2, d3, d4⟩ := hc2 kk k2 x2 n2 p2 g2
              have hk6 := Blk.below HK6.out hbq (Blk.lt HK6.out)
              obtain ⟨_, _, _, t3⟩ := cell4b (hk6.alloc (.cells #[.int .u8 k2, .string x2, .int .u64 n2, .int .i64 p2] 32))
              have hpp := (HEACH.out _ _ g3).1
              simp only at hpp
              have hwp : wrap64 ((p2 : Int) + p) = (p2 : Int) + p := by unfold wrap64; omega
              have h10 := Blk.new wr 32 #[.int .u8 k2, .string x2, .int .u64 n2, .int .i64 ((p2 : Int) + p)]
              obtain ⟨y0, y1, y2, y3⟩ := cell4b h10
              have hbs : Below wr.heap.size wr (wr.alloc (.cells #[.int .u8 k2, .string x2, .int .u64 n2, .int .i64 ((p2 : Int) + p)] 32)) := one_alloc
              have HBS := Lib.hid hbs
              obtain ⟨z0, z1, z2, z3⟩ := tks_cells HRX.out hlx (bj13 hbq hbs) (j + kk) k2 x2 n2 (p + p2) g3
              have ep : ((p + p2 : Nat) : Int) = (p2 : Int) + p := by omega
              rw [ep] at z3
              have hjl : j + kk < l.length := by
                rcases Nat.lt_or_ge (j + kk) l.length with h | h
                · exact h
                · rw [List.getElem?_eq_none h] at g3; cases g3
              have HROW2 := Lib.hid (tks_step hrq hbs)
              have hkI : (kk : Int) < m.length := by omega
              have hjkI : (j : Int) + kk < l.length := by omega
              have hjk0 : (0 : Int) ≤ (j : Int) + kk := by omega
              have hjkn : ((j : Int) + kk).toNat = j + kk := by omega
              have hw1 : IntKind.i64.wrap ((j : Int) + kk) = (j : Int) + kk := by simp [IntKind.wrap, IntKind.bits, IntKind.signed]; omega
              have hw2 : wrap64 ((j : Int) + kk) = (j : Int) + kk := by unfold wrap64; omega
              clear h10 hbs hpp hbq hrq hc2 g2 g3 hk6 hjl ep hml
              go_wp2_with fail
              go_big_quiet (fail)
              rename_i nq
              clear hwp hw1 hw2 hjkn hjkI hjk0
              have HF := Lib.hid (below_drewN (Below.refl (wr.alloc (.cells #[.int .u8 k2, .string x2, .int .u64 n2, .int .i64 ((p2 : Int) + p)] 32)).heap.size (wr.alloc (.cells #[.int .u8 k2, .string x2, .int .u64 n2, .int .i64 ((p2 : Int) + p)] 32))) nq)
              go_wp2
              go_roundw
              case rel => exact ⟨kk + 1, by omega, by go_num, bj13 HBQ.out (bj13 HBS.out HF.out), tks_step HROW2.out HF.out⟩
              case measure => simp [intOf]; omega
            · obtain rfl : kk = m.length := by omega
              have HE := Lib.hid (bj13 HBX.out HBQ.out)
              have HRE := Lib.hid (show TksAt wr (some ⟨b1, o1, none⟩) l from .inr ⟨b1, o1, rfl, Nat.lt_of_lt_of_le hlx hbq.size, tks_cells HRX.out hlx hbq⟩)
              clear hbq hrq hml
              by_cases h20 : 20 < j
              · have h20I : (20 : Int) < j := by omega
                go_wp2
                go_ret
                exact ⟨rfl, HE.out⟩
              · have h20I : ¬ (20 : Int) < j := by omega
                go_wp2
                go_roundw
                case rel => exact ⟨j + 1, by omega, by go_num, HRE.out, HE.out⟩
                case measure => simp [intOf]; omega
      · obtain rfl : j = l.length := by omega
        go_wp2
        go_ret
        exact ⟨rfl, HBW.out⟩
end Go.Proofs.YtibnmkjabpoppaaDoor
