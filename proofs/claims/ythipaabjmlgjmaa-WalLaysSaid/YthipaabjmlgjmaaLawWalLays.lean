/- Layer 5: the walk of WalLays. No condition but the door's. -/
import Derived.Test.YthipaabjmlgjmaaMwX
namespace Go.Proofs.Ythipaabjmlgjmaa
open Go.RowKit Go Go.Maps
set_option linter.unusedVariables false
set_option linter.unusedSimpArgs false
set_option maxRecDepth 100000 in
set_option maxHeartbeats 16000000 in
theorem walLays_walk (A : Option Addr) (l : List Wop) (n c : Nat) (hn : n = l.length) (hm : n ≤ maxLen) (hfit : ∀ x ∈ l, FitW x) (w : World) (hO : Wops w w.heap.size A l) :
    Calls Try.prog 6 #[.slice A n c] w fun e w' => e = .returned (.bool true) ∧ Below w.heap.size w w' := by
  have HW := Lib.hid works_lg
  have HHV := Lib.hid (fun W (hb : Below w.heap.size w W) => heavy_wal A l n c W (wops_mono (wops_below hO hb) hb.size) hn hm)
  have HWD := Lib.hid (fun W (hb : Below w.heap.size w W) => wide_any A l n c W (wops_mono (wops_below hO hb) hb.size) hn hm)
  have HO := Lib.hid hO
  have HN := Lib.hid hn
  have HF := Lib.hid hfit
  clear hO hn hfit
  go_enter Try.func6, Try.ntmps6
  go_wp2_with fail
  refine (HW.out w).mono ?_
  rintro e w1 ⟨rfl, hb1⟩
  have HB1 := Lib.hid hb1
  clear hb1 HW
  go_wp2_with fail
  refine (HHV.out _ HB1.out).mono ?_
  rintro e w2 ⟨⟨r, rfl, hr⟩, hb2⟩
  have HB2 := Lib.hid (bj HB1.out hb2)
  have HR := Lib.hid hr
  clear hb2 hr HB1 HHV
  cases r with
  | true =>
    go_wp2_with fail
    go_ret
    exact ⟨rfl, HB2.out⟩
  | false =>
    go_wp2_with fail
    refine (HWD.out _ HB2.out).mono ?_
    rintro e w3 ⟨⟨r, rfl, hr⟩, hb3⟩
    have HB3 := Lib.hid (bj HB2.out hb3)
    have HRW := Lib.hid hr
    clear hb3 hr HB2 HWD
    cases r with
    | true =>
      go_wp2_with fail
      go_ret
      exact ⟨rfl, HB3.out⟩
    | false =>
      have HL := Lib.hid (HR.out (by first | rfl | trivial))
      have HWI := Lib.hid (HRW.out (by first | rfl | trivial))
      clear HR HRW
      go_wp2_with fail
      refine (kd_new HB3.out).mono ?_
      rintro e w4 ⟨rfl, hk⟩
      have H4 := Lib.hid (hk)
      generalize w3.heap.size + 1 = g at *
      clear hk HB3
      go_wp2_with fail
      refine (kl_open_as H4.out rfl open_new).mono ?_
      rintro e w5 ⟨-, -, q, rfl, hk⟩
      have H5 := Lib.hid hk
      clear hk H4
      have hmI : (n : Int) ≤ 80 := by have := HL.out.1; have := HN.out; omega
      clear hm
      go_wp2_with fail
      go_loopw [32, 8, 9, 10, 11, 12, 13] (fun i a0 a1 a2 a3 a4 a5 W => ∃ (j N : Nat) (d : Dk) (k : Lg), j ≤ n ∧ i = .int .i64 j ∧ N ≤ 260 * j ∧ Good d k ∧ Kl w g q d N k W) (fun i _ _ _ _ _ _ _ => n - (intOf i).toNat)
      case atStart => exact ⟨0, 0, newD, newL, by omega, rfl, by omega, good_new, H5.out⟩
      case round =>
        clear H5
        obtain ⟨j, N, d, k, hj, rfl, hN, hg, hk⟩ := hrel
        have HG := Lib.hid hg
        have HK := Lib.hid hk
        clear hg hk
        by_cases hjn : j < n
        rotate_left
        · obtain rfl : j = n := by omega
          go_wp2_with fail
          go_ret
          exact ⟨rfl, kl_b HK.out⟩
        · have hjl : j < l.length := by have := HN.out; omega
          obtain ⟨b, o, rfl, hbl, hc⟩ := wops_get HO.out (fun e => by rw [e] at hjl; simp at hjl)
          obtain ⟨⟨a0, a1, a2, a3, a4, a5, a6, a7⟩, hims, _⟩ := hc _ (kl_b HK.out) j l[j] (List.getElem?_eq_getElem hjl)
          have HX := Lib.hid (And.intro (HF.out l[j] (List.getElem_mem hjl)) (And.intro (HL.out.2 l[j] (List.getElem_mem hjl)) (HWI.out l[j] (List.getElem_mem hjl))))
          clear hc
          generalize l[j] = x at *
          obtain ⟨xk, xp, xn, xf, xA, xc, xi, xs, yA, yc, xks, xt⟩ := x
          simp only at a0 a1 a2 a3 a4 a5 a6 a7
          have hjI : (j : Int) < n := by omega
          have h0j : (0 : Int) ≤ j := by omega
          have hwj : IntKind.i64.wrap ((j : Int) + 1) = j + 1 := by rw [IntKind.wrap_i64]; omega
          have HI := Lib.hid hims
          clear hims
          have HB6 := Lib.hid (show Below wr.heap.size wr (wr.alloc (.cells #[.int .i64 xk, .int .i64 xp, .int .i64 xn, .int .i64 xf, .slice xA xi.length xc, .bool xs, .slice yA xks.length yc, .string xt] 50)) from allocB)
          have HBK := Lib.hid (Blk.new wr 50 #[.int .i64 xk, .int .i64 xp, .int .i64 xn, .int .i64 xf, .slice xA xi.length xc, .bool xs, .slice yA xks.length yc, .string xt])
          by_cases hk0 : xk = 0
          · subst hk0
            have HIM := Lib.hid (fun W (hb : Below wr.heap.size wr W) => images_any (w := W) (.int .i64 0) (.int .i64 xp) (.int .i64 xn) (.int .i64 xf) (.bool xs) (.slice yA xks.length yc) (.string xt) xA xi.length xc xi (puB_at (puB_below HI.out (hb.mono (kl_b HK.out).size)) (Nat.le_trans (kl_b HK.out).size hb.size)) rfl (by have := HX.out.2.1.1; simp only at this; omega) HX.out.1.2.2)
            go_upto_region 13 with fail
            generalize wr.alloc (.cells #[.int .i64 0, .int .i64 xp, .int .i64 xn, .int .i64 xf, .slice xA xi.length xc, .bool xs, .slice yA xks.length yc, .string xt] 50) = W6 at *
            have HCL := Lib.hid (fun W (hb : Below W6.heap.size W6 W) => show W.cell? ⟨wr.heap.size, 1, none⟩ = some (.int .i64 xp) from (blk_step HBK.out hb).cell 1)
            have z1 : W6.cell? ⟨wr.heap.size, 1, none⟩ = some (.int .i64 xp) := HCL.out _ (Below.refl _ _)
            have y0 : W6.cell? ⟨wr.heap.size, 0, none⟩ = some (.int .i64 0) := HBK.out.cell 0
            have y2 : W6.cell? ⟨wr.heap.size, 2, none⟩ = some (.int .i64 xn) := HBK.out.cell 2
            have y3 : W6.cell? ⟨wr.heap.size, 3, none⟩ = some (.int .i64 xf) := HBK.out.cell 3
            have y4 : W6.cell? ⟨wr.heap.size, 4, none⟩ = some (.slice xA xi.length xc) := HBK.out.cell 4
            have y5 : W6.cell? ⟨wr.heap.size, 5, none⟩ = some (.bool xs) := HBK.out.cell 5
            have y6 : W6.cell? ⟨wr.heap.size, 6, none⟩ = some (.slice yA xks.length yc) := HBK.out.cell 6
            have y7 : W6.cell? ⟨wr.heap.size, 7, none⟩ = some (.string xt) := HBK.out.cell 7
            clear a0 a1 a2 a3 a4 a5 a6 a7
            have HKB := Lib.hid (fun W (hb : Below wr.heap.size wr W) => kl_below HK.out hb)
            have HNB := Lib.hid (show N + 4 ≤ 1000000 by omega)
            have HLN := Lib.hid (show xi.length ≤ 100000 from by have := HX.out.2.1.1; simp only at this; omega)
            have HGA := Lib.hid (good_app (ims := xi.map imOf) HG.out (show xp ≤ 40 from HX.out.2.2.2))
            go_region_with (first
              | (go_at_call 21; (refine (HIM.out _ (bj HB6.out (Below.refl _ _).drew)).mono ?_); rintro e w7 ⟨A7, c7, rfl, hrow7, hb7⟩; (have HB7 := Lib.hid (bj (Below.refl W6.heap.size W6).drew hb7)); (have z7 : w7.cell? ⟨wr.heap.size, 1, none⟩ = some (.int .i64 xp) := HCL.out w7 HB7.out); (have HR7 := Lib.hid (im_row hrow7 (by rw [List.length_map]))); clear hrow7 hb7)
              | (go_at_call 14; (refine (kl_append (HKB.out _ (bj HB6.out HB7.out)) HG.out.tolf.off HG.out.tolf.torn xp A7 xi.length c7 (xi.map imOf) HR7.out (by rw [List.length_map]) HLN.out (fun x hx => by obtain ⟨p, _, rfl⟩ := List.mem_map.1 hx; have := imOf_sz p; omega) HNB.out).mono ?_); rintro e w8 ⟨rfl, hk8⟩; (have H8 := Lib.hid hk8); clear hk8))
            all_goals
              go_wp2_with fail
              go_roundw
              case rel => exact ⟨j + 1, N + 4, _, _, by omega, by first | rfl | (rw [hwj]; rfl) | simp, by omega, HGA.out, H8.out⟩
              case measure => first | (simp [intOf]; done) | (simp [intOf]; omega)
          · have hkb : (xk == 0) = false := by simp [hk0]
            have HNB := Lib.hid (show N + 260 ≤ 1000000 by omega)
            have HP := Lib.hid (show k.P ≤ 256 by have := HG.out.pgs; omega)
            obtain ⟨d2, k2, e2, hg2, hst, hfs, hn1, hn2⟩ := good_chk HG.out
            have HE2 := Lib.hid e2
            have HG2 := Lib.hid hg2
            have HGG := Lib.hid hg2
            have HS2 := Lib.hid (And.intro hst (state_ok HG.out))
            have HFS := Lib.hid hfs
            have HN1 := Lib.hid hn1
            have HN2 := Lib.hid hn2
            have HP2 := Lib.hid (show k2.P ≤ 256 by have := HG2.out.pgs; omega)
            clear e2 hg2 hst hfs hn1 hn2
            have HKW := Lib.hid (kl_below HK.out HB6.out)
            go_wp2_with fail
            clear a0 a1 a2 a3 a4 a5 a6 a7 HI HX
            generalize wr.alloc (.cells #[.int .i64 xk, .int .i64 xp, .int .i64 xn, .int .i64 xf, .slice xA xi.length xc, .bool xs, .slice yA xks.length yc, .string xt] 50) = W6 at *
            obtain ⟨SD, hSD⟩ : ∃ SD, stateD d k = SD := ⟨_, rfl⟩
            have HSD := Lib.hid hSD
            clear hSD HBK
            refine (kl_state HKW.out HP.out).mono ?_
            rintro e w7 ⟨rfl, hk7⟩
            have H7 := Lib.hid hk7
            clear hk7 HKW HB6
            rw [HSD.out]
            have hsd2 : SD.2 = true := by rw [← HSD.out]; exact HS2.out.2
            obtain ⟨ST, SB⟩ := SD
            simp only at hsd2
            subst hsd2
            go_wp2_with fail
            refine (kl_mark H7.out).mono ?_
            rintro e w8 ⟨rfl, rfl⟩
            go_wp2_with fail
            refine (kl_number H7.out).mono ?_
            rintro e w8 ⟨rfl, rfl⟩
            go_wp2_with fail
            refine (kd_ops (kl_kd H7.out)).mono ?_
            rintro e w8 ⟨rfl, rfl⟩
            go_wp2_with fail
            refine (kl_check_as H7.out HG.out.tolf.off HG.out.tolf.torn HNB.out HE2.out).mono ?_
            rintro e w8 ⟨rfl, hk8⟩
            have H8 := Lib.hid hk8
            clear hk8 H7 HK
            go_wp2_with fail
            refine (kl_state H8.out HP2.out).mono ?_
            rintro e w9 ⟨rfl, hk9⟩
            have H9 := Lib.hid hk9
            clear hk9 H8
            rw [HS2.out.1, HSD.out]
            go_wp2_with fail
            refine (kl_mark H9.out).mono ?_
            rintro e w10 ⟨rfl, rfl⟩
            rw [HFS.out]
            by_cases h0 : k.fs = []
            · obtain ⟨rfl, rfl⟩ := HN2.out h0
              have hF : ((k2.fs.length : Nat) : Int) = 0 := by rw [h0]; rfl
              have hF0 : ((([] : List Fx).length : Nat) : Int) = 0 := rfl
              rw [hF0, hF]
              clear HN1 HN2 HG HG2
              go_wp2_with fail
              refine (kl_number H9.out).mono ?_
              rintro e w10 ⟨rfl, rfl⟩
              go_wp2_with fail
              refine (kd_ops (kl_kd H9.out)).mono ?_
              rintro e w10 ⟨rfl, rfl⟩
              go_wp2_with fail
              go_roundw
              case rel => exact ⟨j + 1, N + 260, _, _, by omega, by first | rfl | (rw [hwj]; rfl) | simp, by omega, HGG.out, H9.out⟩
              case measure => first | (simp [intOf]; done) | (simp [intOf]; omega)
            · have hF0 : ((([] : List Fx).length : Nat) : Int) = 0 := rfl
              have hlp : 0 < k.fs.length := List.length_pos_iff.2 h0
              obtain ⟨F, hF⟩ : ∃ F : Int, ((k.fs.length : Nat) : Int) = F := ⟨_, rfl⟩
              have hFp : 0 < F := by omega
              have hFd : decide (0 < F) = true := decide_eq_true hFp
              have hFb : (F == 0) = false := by simp; omega
              rw [hF0, hF]
              have hN1 := HN1.out h0
              have hwn : IntKind.u64.wrap ((k.N : Int) + 1) = ((nxt k.N : Nat) : Int) := by
                unfold nxt
                rw [IntKind.wrap_u64]; omega
              clear HN1 HN2 HG HG2 hF hlp
              go_wp2_with fail
              refine (kl_number H9.out).mono ?_
              rintro e w10 ⟨rfl, rfl⟩
              rw [hN1]
              go_wp2_with fail
              go_roundw
              case rel => exact ⟨j + 1, N + 260, _, _, by omega, by first | rfl | (rw [hwj]; rfl) | simp, by omega, HGG.out, H9.out⟩
              case measure => first | (simp [intOf]; done) | (simp [intOf]; omega)
end Go.Proofs.Ythipaabjmlgjmaa
