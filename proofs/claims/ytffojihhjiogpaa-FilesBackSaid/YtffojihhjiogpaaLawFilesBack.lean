/- Layer 3: the walk of FilesBack. Conditions: those of the theorem. -/
import Derived.Test.YtffojihhjiogpaaFi31
import Derived.BigQuiet
namespace Go.Proofs.Ytffojihhjiogpaa
open Go.RowKit Go Go.Maps
set_option linter.unusedVariables false
set_option linter.unusedSimpArgs false
def wasA (D : Dk) (j : Nat) : Array Value := ((List.range 8).map fun k => if k < j then Value.string (allF D (k : Int)) else .string ⟨#[]⟩).toArray
theorem wasA_zero (D : Dk) : wasA D 0 = #[.string ⟨#[]⟩, .string ⟨#[]⟩, .string ⟨#[]⟩, .string ⟨#[]⟩, .string ⟨#[]⟩, .string ⟨#[]⟩, .string ⟨#[]⟩, .string ⟨#[]⟩] := rfl
theorem wasA_get (D : Dk) (j : Nat) {k : Nat} (hk : k < 8) : (wasA D j)[k]? = some (if k < j then Value.string (allF D (k : Int)) else .string ⟨#[]⟩) := by
  unfold wasA
  simp [hk]
theorem wasA_succ (D : Dk) {j : Nat} (hj : j < 8) : (wasA D j).setIfInBounds j (.string (allF D (j : Int))) = wasA D (j + 1) := by
  apply Array.ext_getElem?
  intro k
  by_cases hk : k < 8
  · rw [Array.getElem?_setIfInBounds, wasA_get D (j + 1) hk]
    by_cases e : j = k
    · subst e
      rw [if_pos rfl, if_pos (by simp [wasA]; omega), if_pos (by omega)]
    · rw [if_neg e, wasA_get D j hk]
      by_cases h2 : k < j
      · rw [if_pos h2, if_pos (by omega)]
      · rw [if_neg h2, if_neg (by omega)]
  · rw [Array.getElem?_eq_none (by simp [wasA]; omega), Array.getElem?_eq_none (by simp [wasA]; omega)]
theorem fb_u8 {x : Int} (h : (Lit.int .u8 x).wf = true) : 0 ≤ x ∧ x < 256 := by
  have h2 : IntKind.u8.min = 0 := rfl
  have h3 : IntKind.u8.max = 255 := rfl
  simp [Lit.wf, h2, h3] at h
  omega
theorem fb_i64 {x : Int} (h : (Lit.int .i64 x).wf = true) : J64 x := by
  have h2 : IntKind.i64.min = -9223372036854775808 := rfl
  have h3 : IntKind.i64.max = 9223372036854775807 := rfl
  unfold J64
  simp [Lit.wf, h2, h3] at h
  omega
set_option maxRecDepth 100000 in
set_option maxHeartbeats 16000000 in
theorem filesBack_walk (A : Option Addr) (l : List Fop) (n c : Nat) (a1 b1 c1 d1 e1 : Int) (f1 : ByteArray) (A1 : Option Addr) (l1 : List Bool) (n1 k1_ : Nat) (f : Int) (hn : n = l.length) (hm : n ≤ maxLen) (hfit : ∀ x ∈ l, FitP x) (wa1 : (Lit.int .i64 a1).wf = true) (wb1 : (Lit.int .i64 b1).wf = true) (wc1 : (Lit.int .i64 c1).wf = true) (wd1 : (Lit.int .i64 d1).wf = true) (we1 : (Lit.int .u8 e1).wf = true) (wf1 : f1.size ≤ 140737488351232) (hn1 : n1 = l1.length) (hm1 : n1 ≤ maxLen) (wf : (Lit.int .i64 f).wf = true) (w : World) (hO : Fops w w.heap.size A l) (hK : KsAt w w.heap.size A1 l1) :
    Calls Try.prog 7 #[.slice A n c, .agg #[.int .i64 a1, .int .i64 b1, .int .i64 c1, .int .i64 d1, .int .u8 e1, .string f1, .slice A1 n1 k1_], .int .i64 f] w fun e w' => e = .returned (.bool true) ∧ Below w.heap.size w w' := by
  subst hn1
  have hF2 : FitP (⟨0, f, c1, d1, e1, f1, A1, k1_, l1⟩ : Fop) := ⟨by unfold J64; simp, by have := fb_i64 wf; exact this, fb_i64 wc1, fb_i64 wd1, (fb_u8 we1).1, (fb_u8 we1).2, hm1⟩
  have HW := Lib.hid works_any
  have HHV := Lib.hid (fun W (hb : Below w.heap.size w W) => heavy_any A l n c W (fops_mono (fops_below hO hb) hb.size) hn hm hfit)
  have HHX := Lib.hid (fun (W : World) (q : Nat) (hq : W.heap.size = q) (hb : Below w.heap.size w W) => (show Calls Try.prog 24 #[.slice (some ⟨q, 0, none⟩) 1 1] (W.alloc (.cells (fopC ⟨0, f, c1, d1, e1, f1, A1, k1_, l1⟩) 42)) fun e w' => HvP [(⟨0, f, c1, d1, e1, f1, A1, k1_, l1⟩ : Fop)] e ∧ Below (W.alloc (.cells (fopC ⟨0, f, c1, d1, e1, f1, A1, k1_, l1⟩) 42)).heap.size (W.alloc (.cells (fopC ⟨0, f, c1, d1, e1, f1, A1, k1_, l1⟩) 42)) w' from by
    subst hq
    exact heavy_any (some ⟨W.heap.size, 0, none⟩) [(⟨0, f, c1, d1, e1, f1, A1, k1_, l1⟩ : Fop)] 1 1 _ (fopsb_one W 42 (⟨0, f, c1, d1, e1, f1, A1, k1_, l1⟩ : Fop) (ksb_mono (ks_below hK hb) (Nat.le_refl _)) hb.size) rfl (by unfold maxLen; omega) (fun y hy => by rw [List.mem_singleton.1 hy]; exact hF2)))
  have HFA := Lib.hid (fun W (hb : Below w.heap.size w W) => far_any A l n c W (fops_mono (fops_below hO hb) hb.size) hn hm hfit)
  have HRN := Lib.hid (fun (W3 W : World) (h3 : Below w.heap.size w W3) (g : Nat) (d : Dk) (h : Kd W3 g d 0 W) (h200 : l.length ≤ 200) (hl : ∀ x ∈ l, Light x) => kd_run h A l n c hn (by omega) (fops_mono (fops_below hO h3) h3.size) hfit hl)
  have HN := Lib.hid hn
  have HF2 := Lib.hid hF2
  clear hn hm hfit hO hF2 wa1 wb1 wc1 wd1 we1 wf1 hm1 wf hK
  have HQ0 := Lib.hid (Blk.new w 42 (fopC ⟨a1, b1, c1, d1, e1, f1, A1, k1_, l1⟩))
  go_enter Try.func7, Try.ntmps7
  go_wp2_with fail
  refine (HW.out _).mono ?_
  rintro e w1 ⟨rfl, hb⟩
  have hq1 := blk_step HQ0.out hb
  have hz0 : w1.frozen? ⟨w.heap.size, 0, none⟩ = false := hq1.frozen 0
  have hz1 : w1.frozen? ⟨w.heap.size, 1, none⟩ = false := hq1.frozen 1
  have hc0 : w1.cell? ⟨w.heap.size, 0, none⟩ = some (.int .i64 a1) := by rw [hq1.cell]; rfl
  have hc1 : w1.cell? ⟨w.heap.size, 1, none⟩ = some (.int .i64 b1) := by rw [hq1.cell]; rfl
  have H3 : Hid (Below w.heap.size w ((w1.setCell ⟨w.heap.size, 0, none⟩ (.int .i64 0)).setCell ⟨w.heap.size, 1, none⟩ (.int .i64 f)) ∧ Blk ((w1.setCell ⟨w.heap.size, 0, none⟩ (.int .i64 0)).setCell ⟨w.heap.size, 1, none⟩ (.int .i64 f)) w.heap.size 42 (fopC ⟨0, f, c1, d1, e1, f1, A1, k1_, l1⟩)) := Lib.hid ⟨((bj one_alloc hb).setCell (p := ⟨w.heap.size, 0, none⟩) (Nat.le_refl _) _).setCell (p := ⟨w.heap.size, 1, none⟩) (Nat.le_refl _) _, (hq1.set_ 0 (.int .i64 0)).set_ 1 (.int .i64 f)⟩
  clear hb hq1
  go_wp2_with fail
  generalize ((w1.setCell ⟨w.heap.size, 0, none⟩ (.int .i64 0)).setCell ⟨w.heap.size, 1, none⟩ (.int .i64 f)) = W3 at H3 ⊢
  clear hz0 hz1 hc0 hc1
  refine (HHV.out _ H3.out.1).mono ?_
  rintro e w2 ⟨⟨r, rfl, hr⟩, hb⟩
  have HB2 := Lib.hid hb
  have HR := Lib.hid hr
  clear hb hr
  cases r with
  | true =>
    go_wp2
    go_ret
    exact ⟨by first | rfl | simp, bj H3.out.1 HB2.out⟩
  | false =>
  go_wp2_with fail
  refine (HFA.out _ (bj H3.out.1 HB2.out)).mono ?_
  rintro e w4 ⟨⟨r, rfl⟩, hb⟩
  have HB4 := Lib.hid (bj HB2.out hb)
  clear hb HB2
  cases r with
  | true =>
    go_wp2
    go_ret
    exact ⟨by first | rfl | simp, bj H3.out.1 HB4.out⟩
  | false =>
  obtain ⟨z0, z1, z2, z3, z4, z5, z6⟩ := s7 (blk_step H3.out.2 HB4.out)
  go_wp2_with fail
  refine (HHX.out w4 _ rfl (bj H3.out.1 HB4.out)).mono ?_
  rintro e w5 ⟨⟨r, rfl, hr⟩, hb⟩
  have HB5 := Lib.hid (bja _ HB4.out hb)
  have HRX := Lib.hid hr
  clear hb hr HB4 z0 z1 z2 z3 z4 z5 z6
  obtain ⟨z0, z1, z2, z3, z4, z5, z6⟩ := s7 (blk_step H3.out.2 HB5.out)
  cases r with
  | true =>
    go_wp2
    go_ret
    exact ⟨by first | rfl | simp, bj H3.out.1 HB5.out⟩
  | false =>
  by_cases h0 : f < 0
  · have hd0 : decide (f < 0) = true := decide_eq_true h0
    go_wp2
    go_ret
    exact ⟨by first | rfl | simp, bj H3.out.1 HB5.out⟩
  have hd0 : decide (f < 0) = false := decide_eq_false h0
  by_cases h8 : 8 ≤ f
  · have hd8 : decide (8 ≤ f) = true := decide_eq_true h8
    go_wp2
    go_ret
    exact ⟨by first | rfl | simp, bj H3.out.1 HB5.out⟩
  have hd8 : decide (8 ≤ f) = false := decide_eq_false h8
  by_cases h2 : c1 < 0
  · have hd2 : decide (c1 < 0) = true := decide_eq_true h2
    go_wp2
    go_ret
    exact ⟨by first | rfl | simp, bj H3.out.1 HB5.out⟩
  have hd2 : decide (c1 < 0) = false := decide_eq_false h2
  by_cases h3 : 100 < c1
  · have hd3 : decide (100 < c1) = true := decide_eq_true h3
    go_wp2
    go_ret
    exact ⟨by first | rfl | simp, bj H3.out.1 HB5.out⟩
  have hd3 : decide (100 < c1) = false := decide_eq_false h3
  have HFF := Lib.hid (show 0 ≤ f ∧ f < 8 from ⟨by omega, by omega⟩)
  obtain ⟨p, rfl⟩ := Int.eq_ofNat_of_zero_le (show 0 ≤ c1 by omega)
  have HP := Lib.hid (show p ≤ 100 by omega)
  go_wp2_with fail
  refine (kd_new HB5.out).mono ?_
  rintro e w6 ⟨rfl, hk⟩
  have H6 := Lib.hid hk
  clear hk h0 h8 h2 h3 hd0 hd8 hd2 hd3 z0 z1 z2 z3 z4 z5 z6
  generalize w5.heap.size + 1 = g at *
  go_wp2_with fail
  refine (HRN.out _ _ H3.out.1 _ _ H6.out (HR.out trivial).1 (HR.out trivial).2).mono ?_
  rintro e w7 ⟨rfl, hk⟩
  have H7 := Lib.hid hk
  clear hk
  generalize runD newD l = D1 at *
  have HNL := Lib.hid (show 0 + n ≤ 200 by have := HN.out; have := (HR.out trivial).1; omega)
  have HSX := Lib.hid (show (bytesF (⟨0, f, (p : Int), d1, e1, f1, A1, k1_, l1⟩ : Fop)).size ≤ 16384 from bytesF_size ((HRX.out trivial).2 _ (List.mem_singleton.2 rfl)))
  have HBY := Lib.hid (fun V => bytes_any (⟨0, f, (p : Int), d1, e1, f1, A1, k1_, l1⟩ : Fop) V HF2.out)
  have HBOX := Lib.hid (fun V (hb : Below W3.heap.size W3 V) => s7 (blk_step H3.out.2 hb))
  have HW3 := Lib.hid H3.out.1
  clear HR HRX HRN HHV HFA HHX HW H6 HB5 HF2 H3 HN HQ0
  generalize bytesF (⟨0, f, (p : Int), d1, e1, f1, A1, k1_, l1⟩ : Fop) = s at *
  generalize w.heap.size = q0 at HBOX ⊢
  go_wp2_with fail
  refine (kd_on H7.out).mono ?_
  rintro e w8 ⟨he, rfl⟩
  by_cases ho : D1.off = true
  case' pos =>
    rw [ho] at he
    subst he
    go_wp2_with fail
    refine (kd_crash H7.out (Below.refl _ _) none [] 0 0 rfl (.inl rfl) (fun _ a ha => by cases ha) (by omega)).mono ?_
    rintro e w8 ⟨rfl, hk⟩
    have H8 := Lib.hid hk
    have HOF := Lib.hid (show (crashD D1 []).off = false from rfl)
    clear hk H7 ho
    generalize crashD D1 [] = D at *
  case' neg =>
    rw [show D1.off = false by simpa using ho] at he
    subst he
    have H8 := H7
    have HOF := Lib.hid (show D1.off = false by simpa using ho)
    clear H7 ho
    generalize D1 = D at *
    generalize w7 = w8 at *
  all_goals
    go_wp2
    go_loopw [61] (fun v wr => ∃ j : Nat, j ≤ 8 ∧ v = .int .i64 j ∧ KdX W3 g D (0 + n) w8.heap.size 60 (wasA D j) wr) (fun v _ => 8 - (intOf v).toNat)
    case atStart => exact ⟨0, by omega, rfl, by rw [wasA_zero]; exact kdx_new H8.out _ _⟩
    case round =>
      obtain ⟨j, hj, rfl, hk⟩ := hrel
      by_cases hj8 : j < 8
      · have HA := Lib.hid (all_any (kdx_kd hk) (j : Int))
        have HX := Lib.hid hk
        have hjI : (j : Int) < 8 := by omega
        have h0j : (0 : Int) ≤ j := by omega
        have hwj : IntKind.i64.wrap ((j : Int) + 1) = j + 1 := by rw [IntKind.wrap_i64]; omega
        clear hk
        go_wp2_with fail
        refine (HA.out).mono ?_
        rintro e wa ⟨rfl, hb⟩
        have HX2 := Lib.hid (kdx_below HX.out hb)
        have hcl : wa.cell? ⟨w8.heap.size, j, none⟩ = some (.string ⟨#[]⟩) := by rw [(kdx_blk HX2.out).cell, wasA_get _ _ hj8, if_neg (by omega)]
        have hfz : wa.frozen? ⟨w8.heap.size, j, none⟩ = false := (kdx_blk HX2.out).frozen _
        clear hb
        go_wp2
        go_roundw
        case rel => exact ⟨j + 1, by omega, by go_num, by rw [← wasA_succ D hj8]; exact kdx_set HX2.out j _⟩
        case measure => simp [intOf]; omega
      · obtain rfl : j = 8 := by omega
        have HX := Lib.hid hk
        clear hk hj hj8
        generalize w8.heap.size = q at *
        have HSZ := Lib.hid (fun V (hb : Below wr.heap.size wr V) => kd_size (kdx_kd (kdx_below HX.out hb)) f)
        have HBD := Lib.hid (show Below wr.heap.size wr wr.drew from (Below.refl _ _).drew)
        have HBX := Lib.hid (fun V (hb : Below wr.heap.size wr V) => HBOX.out V (bj (kdx_b HX.out) hb))
        go_wp2_with fail
        go_region_held3 (fun V => V.cell? ⟨q0, 0, none⟩ = some (.int .i64 0) ∧ V.cell? ⟨q0, 1, none⟩ = some (.int .i64 f) ∧ V.cell? ⟨q0, 2, none⟩ = some (.int .i64 p) ∧ V.cell? ⟨q0, 3, none⟩ = some (.int .i64 d1) ∧ V.cell? ⟨q0, 4, none⟩ = some (.int .u8 e1) ∧ V.cell? ⟨q0, 5, none⟩ = some (.string f1) ∧ V.cell? ⟨q0, 6, none⟩ = some (.slice A1 l1.length k1_))
          (first | exact HBX.out _ HBD.out | exact HBX.out _ HBc.out)
          (first
            | (go_at_call 12; (first | (with_reducible refine (HSZ.out _ HBD.out).mono ?_) | (with_reducible refine (HSZ.out _ HBc.out).mono ?_)); rintro e wc ⟨rfl, rfl⟩)
            | (go_at_call 35; (with_reducible refine (HBY.out _).mono ?_); rintro e wc ⟨rfl, hbc⟩; (have HBc := Lib.hid (bj HBD.out hbc)); clear hbc))
        all_goals
          have HX1 := Lib.hid (kdx_below HX.out HBc.out)
          obtain ⟨z0, z1, z2, z3, z4, z5, z6⟩ := HBX.out _ HBc.out
          go_wp2_with fail
          refine (kdx_write HX1.out f (p : Int) s (by have := HNL.out; omega) (by have := HSX.out; omega)).mono ?_
          rintro e wd ⟨rfl, hx⟩
          clear z0 z1 z2 z3 z4 z5 z6
          by_cases he : (writeD D f (p : Int) s).2 = 0
          case neg =>
            have hsz := kd_size (kdx_kd hx) f
            rw [write_fail D f (p : Int) s f he] at hsz
            have HSZ2 := Lib.hid hsz
            have HX2 := Lib.hid (kdx_b hx)
            clear hx hsz
            generalize (writeD D f (p : Int) s).2 = v at *
            have hvb : (v == 0) = false := by simpa using he
            generalize sizeD D f = SZ at *
            by_cases hs0 : s.size = 0
            · have hb0 : ((s.size : Int) == 0) = true := by rw [hs0]; rfl
              go_wp2
              go_ret
              exact ⟨by first | rfl | simp, bj HW3.out HX2.out⟩
            · have hb0 : ((s.size : Int) == 0) = false := by rw [beq_eq_false_iff_ne]; omega
              go_wp2_with fail
              refine (HSZ2.out).mono ?_
              rintro e we ⟨rfl, rfl⟩
              go_wp2
              go_ret
              exact ⟨by first | rfl | simp, bj HW3.out HX2.out⟩
          have hwb := back_good HOF.out (kd_ok (kdx_kd HX1.out)) (kd_ok (kdx_kd hx)) he
          rw [he, hwb.s0]
          generalize (writeD D f (p : Int) s).1 = E at *
          generalize (D.fl f.toNat).length = L at *
          generalize s.size / 64 = m at *
          have HWB := Lib.hid hwb
          have HX2 := Lib.hid hx
          have hrd := kd_read (kdx_kd hx) f (p : Int) (m : Int) (by have := HP.out; omega)
          rw [hwb.read] at hrd
          have HRD := Lib.hid hrd
          have hL300 : 0 ≤ (L : Int) := by omega
          have hss := hwb.sn
          have hsx := HSX.out
          have hq : (s.size : Int) / 64 = (m : Int) := by omega
          have hq2 : (s.size : Int).tdiv 64 = (m : Int) := by rw [Int.tdiv_eq_ediv_of_nonneg (by omega)]; exact hq
          have HM := Lib.hid (show m ≤ 256 by omega)
          have hwm : IntKind.i64.wrap (m : Int) = (m : Int) := by rw [IntKind.wrap_i64]; omega
          obtain ⟨y0, y1, y2, y3, y4, y5, y6⟩ := HBOX.out _ (kdx_b hx)
          clear hwb hx hrd he hss hsx HX1 HSZ HBX HX
          go_wp2_with fail
          refine (HRD.out).mono ?_
          rintro e we ⟨rfl, hb⟩
          have HX3 := Lib.hid (kdx_below HX2.out hb)
          clear hb y0 y1 y2 y3 y4 y5 y6 HX2 HRD hq hq2
          have HBE := Lib.hid (show Below we.heap.size we we.drew from (Below.refl _ _).drew)
          have HSZ3 := Lib.hid (fun V (hb : Below we.heap.size we V) => (show Calls Try.prog 12 #[.pointer (some ⟨g, 0, none⟩), .int .i64 f] V fun e w' => e = .returned (.int .i64 (max (L : Int) ((p : Int) + m))) ∧ V = w' from by have := kd_size (kdx_kd (kdx_below HX3.out hb)) f; rw [HWB.out.s1] at this; exact this))
          have HBX3 := Lib.hid (fun V (hb : Below we.heap.size we V) => (HBOX.out V (bj (kdx_b HX3.out) hb)).2.2.1)
          obtain ⟨MX, hMX⟩ : ∃ MX, max (L : Int) ((p : Int) + m) = MX := ⟨_, rfl⟩
          rw [hMX] at HSZ3
          have hwpm : IntKind.i64.wrap ((p : Int) + m) = (p : Int) + m := by have := HM.out; have := HP.out; rw [IntKind.wrap_i64]; omega
          go_wp2_with fail
          go_region_held3 (fun V => V.cell? ⟨q0, 2, none⟩ = some (.int .i64 p))
            (first | exact HBX3.out _ HBE.out)
            ((go_at_call 12; (with_reducible refine (HSZ3.out _ HBE.out).mono ?_); rintro e wf ⟨rfl, rfl⟩))
          all_goals
            have HX4 := Lib.hid (kdx_below HX3.out HBE.out)
            generalize we.drew = wf at *
            clear HSZ3 HBX3 HBE HX3 hMX hwpm
            go_wp2
            go_loopw [123] (fun v wr => ∃ j : Nat, j ≤ 8 ∧ v = .int .i64 j ∧ KdX W3 g E (0 + n + 1) q 60 (wasA D 8) wr) (fun v _ => 8 - (intOf v).toNat)
            case atStart => exact ⟨0, by omega, rfl, HX4.out⟩
            case round =>
              obtain ⟨j, hj, rfl, hk⟩ := hrel
              by_cases hj8 : j < 8
              · have hjI : (j : Int) < 8 := by omega
                have h0j : (0 : Int) ≤ j := by omega
                have hwj : IntKind.i64.wrap ((j : Int) + 1) = j + 1 := by rw [IntKind.wrap_i64]; omega
                have hal := all_any (kdx_kd hk) (j : Int)
                have HK := Lib.hid hk
                by_cases hjf : (j : Int) = f
                · subst hjf
                  have hNs := HWB.out.z2
                  have hWs := HWB.out.z1
                  have hsec := HWB.out.sec
                  obtain ⟨M, hM⟩ : ∃ M, min L 300 = M := ⟨_, rfl⟩
                  obtain ⟨M2, hM2⟩ : ∃ M2, min (max L (p + m)) 300 = M2 := ⟨_, rfl⟩
                  have HCB := Lib.hid (fun (V : World) (h : KdX W3 g E (0 + n + 1) q 60 (wasA D 8) V) => (show V.cell? ⟨q, j, none⟩ = some (.string (allF D (j : Int))) from by rw [(kdx_blk h).cell, wasA_get _ _ hj8, if_pos hj8]))
                  generalize allF E (j : Int) = NOW at *
                  generalize allF D (j : Int) = WAS at *
                  have HSEC := Lib.hid hsec
                  have HMM := Lib.hid (And.intro hM hM2)
                  have HAL := Lib.hid hal
                  rw [hM2] at hNs
                  rw [hM] at hWs
                  have hMI : min (L : Int) 300 = (M : Int) := by omega
                  have hN64 : (NOW.size : Int) / 64 = (M2 : Int) := by omega
                  have hwM2 : IntKind.i64.wrap (M2 : Int) = (M2 : Int) := by rw [IntKind.wrap_i64]; omega
                  have HNW := Lib.hid (And.intro hNs hWs)
                  have HMB := Lib.hid (show M ≤ 300 ∧ M ≤ M2 from by omega)
                  clear hsec hk hal hM hM2 hNs hWs
                  go_wp2_with fail
                  refine (HAL.out).mono ?_
                  rintro e wx ⟨rfl, hb⟩
                  have HK2 := Lib.hid (kdx_below HK.out hb)
                  clear hb
                  go_wp2
                  go_loopw [17] (fun v wr => ∃ k : Nat, k ≤ M ∧ v = .int .i64 k ∧ KdX W3 g E (0 + n + 1) q 60 (wasA D 8) wr) (fun v _ => M - (intOf v).toNat)
                  case atStart => exact ⟨0, by omega, rfl, HK2.out⟩
                  case round =>
                    obtain ⟨k, hk, rfl, hkx⟩ := hrel
                    have h0k : (0 : Int) ≤ k := by omega
                    by_cases hkM : k < M
                    · have hkI : (k : Int) < M := by omega
                      have hkI2 : (k : Int) < M2 := by have := HMB.out; omega
                      obtain ⟨lo, hlo⟩ : ∃ lo, k * 64 = lo := ⟨_, rfl⟩
                      obtain ⟨hi, hhi⟩ : ∃ hi, (k + 1) * 64 = hi := ⟨_, rfl⟩
                      have hkb : k < 300 := by have := HMB.out; omega
                      have hwk : IntKind.i64.wrap ((k : Int) + 1) = (k : Int) + 1 := by rw [IntKind.wrap_i64]; omega
                      have hwlo : IntKind.i64.wrap ((k : Int) * 64) = (lo : Int) := by rw [IntKind.wrap_i64]; omega
                      have hwhi : IntKind.i64.wrap (((k : Int) + 1) * 64) = (hi : Int) := by rw [IntKind.wrap_i64]; omega
                      have hwpm : IntKind.i64.wrap ((p : Int) + m) = (p : Int) + m := by have := HM.out; have := HP.out; rw [IntKind.wrap_i64]; omega
                      have hlh : (lo : Int) ≤ hi := by omega
                      have hlh2 : lo ≤ hi := by omega
                      have h0lo : (0 : Int) ≤ lo := by omega
                      have h0hi : (0 : Int) ≤ hi := by omega
                      have hhN2 : hi ≤ NOW.size := by have := HNW.out; have := HMB.out; omega
                      have hhW2 : hi ≤ WAS.size := by have := HNW.out; have := HMB.out; omega
                      have hhN : (hi : Int) ≤ NOW.size := by omega
                      have hhW : (hi : Int) ≤ WAS.size := by omega
                      have hcl := HCB.out _ hkx
                      have z2 := (HBOX.out _ (kdx_b hkx)).2.2.1
                      have HKX := Lib.hid (fun nq => kdx_below hkx (below_drewN (Below.refl wr.heap.size wr) nq))
                      have HSE := Lib.hid (show (k < p ∨ p + m ≤ k) → NOW.extract lo hi = WAS.extract lo hi from fun h => by subst hlo hhi; exact HSEC.out k (by have := HMM.out; omega) hkb h)
                      clear hkx hlo hhi hkb
                      by_cases hkp : k < p
                      · have hd1 : decide ((k : Int) < p) = true := decide_eq_true (by omega)
                        have hd1n : decide (k < p) = true := decide_eq_true hkp
                        have hE := HSE.out (.inl hkp)
                        go_wp2_with fail
                        go_big_quiet (fail)
                        go_wp2
                        go_roundw
                        case rel => exact ⟨k + 1, by omega, by go_num, HKX.out _⟩
                        case measure => simp [intOf]; omega
                      · have hd1 : decide ((k : Int) < p) = false := decide_eq_false (by omega)
                        have hd1n : decide (k < p) = false := decide_eq_false hkp
                        by_cases hkq : p + m ≤ k
                        · have hd2 : decide ((p : Int) + m ≤ k) = true := decide_eq_true (by omega)
                          have hE := HSE.out (.inr hkq)
                          go_wp2_with fail
                          go_big_quiet (fail)
                          go_wp2
                          go_roundw
                          case rel => exact ⟨k + 1, by omega, by go_num, HKX.out _⟩
                          case measure => simp [intOf]; omega
                        · have hd2 : decide ((p : Int) + m ≤ k) = false := decide_eq_false (by omega)
                          go_wp2_with fail
                          go_big_quiet (fail)
                          go_wp2
                          go_roundw
                          case rel => exact ⟨k + 1, by omega, by go_num, HKX.out _⟩
                          case measure => simp [intOf]; omega
                    · obtain rfl : k = M := by omega
                      have HKX := Lib.hid hkx
                      clear hkx
                      go_wp2
                      go_roundw
                      case rel => exact ⟨j + 1, by omega, by go_num, HKX.out⟩
                      case measure => simp [intOf]; omega
                · have hjb : ((j : Int) == f) = false := by simpa using hjf
                  rw [HWB.out.others j hj8 hjf] at hal
                  have hcb : ∀ (V : World) (h : KdX W3 g E (0 + n + 1) q 60 (wasA D 8) V), V.cell? ⟨q, j, none⟩ = some (.string (allF D (j : Int))) := fun V h => by rw [(kdx_blk h).cell, wasA_get _ _ hj8, if_pos hj8]
                  generalize allF D (j : Int) = WAS at *
                  have HAL := Lib.hid hal
                  have HCB := Lib.hid hcb
                  clear hal hcb hk
                  go_wp2_with fail
                  refine (HAL.out).mono ?_
                  rintro e wx ⟨rfl, hb⟩
                  have HK2 := Lib.hid (kdx_below HK.out hb)
                  have hcl := HCB.out _ HK2.out
                  clear hb
                  go_wp2
                  go_loopw [17] (fun v wr => v = .int .i64 0 ∧ wx = wr) (fun _ _ => 0)
                  case atStart => exact ⟨rfl, rfl⟩
                  case round =>
                    obtain ⟨rfl, rfl⟩ := hrel
                    go_wp2
                    go_roundw
                    case rel => exact ⟨j + 1, by omega, by go_num, HK2.out⟩
                    case measure => simp [intOf]; omega
              · have HEND := Lib.hid (bj HW3.out (kdx_b hk))
                clear hk
                go_wp2
                go_ret
                exact ⟨by first | rfl | simp, HEND.out⟩
end Go.Proofs.Ytffojihhjiogpaa
