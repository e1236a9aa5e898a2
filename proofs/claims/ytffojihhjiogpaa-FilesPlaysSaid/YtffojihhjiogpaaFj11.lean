/- Layer 3: ref03's Crash. Conditions: those of each lemma. -/
import Derived.Test.YtffojihhjiogpaaFj10
namespace Go.Proofs.Ytffojihhjiogpaa
open Go.RowKit Go Go.Maps
set_option linter.unusedVariables false
set_option linter.unusedSimpArgs false
def crW (d : Dk) (ks : List Bool) (j : Nat) : Dk := doneAll 1 d (kept ks (d.loose.take j))
theorem crW_zero (d : Dk) (ks : List Bool) : crW d ks 0 = d := by
  unfold crW
  rw [List.take_zero]
  cases ks <;> rfl
theorem crW_loose (d : Dk) (ks : List Bool) (j : Nat) : (crW d ks j).loose = d.loose := (doneAll_rest 1 _ d).1
theorem crW_no (d : Dk) (ks : List Bool) {j : Nat} (hj : j < d.loose.length) (hk : ks.getD j false = false) : crW d ks (j + 1) = crW d ks j := by
  unfold crW
  rw [take_snoc (List.getElem?_eq_getElem hj), kept_snoc, List.length_take, Nat.min_eq_left (by omega), hk]
  simp
theorem crW_yes (d : Dk) (ks : List Bool) {j : Nat} (hj : j < d.loose.length) (hk : ks.getD j false = true) : crW d ks (j + 1) = (crW d ks j).setF (8 + (d.loose[j]).file) (doneF ((crW d ks j).fl (8 + (d.loose[j]).file)) d.loose[j]) := by
  unfold crW
  rw [take_snoc (List.getElem?_eq_getElem hj), kept_snoc, List.length_take, Nat.min_eq_left (by omega), hk, if_pos rfl, doneAll_snoc]
  unfold doneA
  rw [Nat.mul_one]
def now8 (d : Dk) : Dk := ((((((((d.setF 0 (d.fl 8)).setF 1 (d.fl 9)).setF 2 (d.fl 10)).setF 3 (d.fl 11)).setF 4 (d.fl 12)).setF 5 (d.fl 13)).setF 6 (d.fl 14)).setF 7 (d.fl 15))
def Rm.now8 (m : Rm) : Rm := ((((((((m.file 0 (m.V 8) (m.vc 8)).file 1 (m.V 9) (m.vc 9)).file 2 (m.V 10) (m.vc 10)).file 3 (m.V 11) (m.vc 11)).file 4 (m.V 12) (m.vc 12)).file 5 (m.V 13) (m.vc 13)).file 6 (m.V 14) (m.vc 14)).file 7 (m.V 15) (m.vc 15))
theorem rk_now8 {W : World} {S : Nat → Prop} {g : Nat} {m : Rm} {d : Dk} {al : List (Int × Int)} {N : Nat} (h : RkAt W S g m d al N) : RkAt ((((((((W.setCell ⟨g, 0, none⟩ (.slice (m.V 8) (d.fl 8).length (m.vc 8))).setCell ⟨g, 1, none⟩ (.slice (m.V 9) (d.fl 9).length (m.vc 9))).setCell ⟨g, 2, none⟩ (.slice (m.V 10) (d.fl 10).length (m.vc 10))).setCell ⟨g, 3, none⟩ (.slice (m.V 11) (d.fl 11).length (m.vc 11))).setCell ⟨g, 4, none⟩ (.slice (m.V 12) (d.fl 12).length (m.vc 12))).setCell ⟨g, 5, none⟩ (.slice (m.V 13) (d.fl 13).length (m.vc 13))).setCell ⟨g, 6, none⟩ (.slice (m.V 14) (d.fl 14).length (m.vc 14))).setCell ⟨g, 7, none⟩ (.slice (m.V 15) (d.fl 15).length (m.vc 15))) S g m.now8 (now8 d) al N := by
  have h0 := rk_file (c := m.vc 8) h (show 0 < 16 by omega) rfl (fun b hb => hb) h.p.lt (h.p.fl 8 (by omega)) (h.p.vs 8 (by omega)) (h.p.ok 8 (by omega))
  have h1 := rk_file (c := m.vc 9) h0 (show 1 < 16 by omega) rfl (fun b hb => hb) h0.p.lt (h0.p.fl 9 (by omega)) (h0.p.vs 9 (by omega)) (h0.p.ok 9 (by omega))
  have h2 := rk_file (c := m.vc 10) h1 (show 2 < 16 by omega) rfl (fun b hb => hb) h1.p.lt (h1.p.fl 10 (by omega)) (h1.p.vs 10 (by omega)) (h1.p.ok 10 (by omega))
  have h3 := rk_file (c := m.vc 11) h2 (show 3 < 16 by omega) rfl (fun b hb => hb) h2.p.lt (h2.p.fl 11 (by omega)) (h2.p.vs 11 (by omega)) (h2.p.ok 11 (by omega))
  have h4 := rk_file (c := m.vc 12) h3 (show 4 < 16 by omega) rfl (fun b hb => hb) h3.p.lt (h3.p.fl 12 (by omega)) (h3.p.vs 12 (by omega)) (h3.p.ok 12 (by omega))
  have h5 := rk_file (c := m.vc 13) h4 (show 5 < 16 by omega) rfl (fun b hb => hb) h4.p.lt (h4.p.fl 13 (by omega)) (h4.p.vs 13 (by omega)) (h4.p.ok 13 (by omega))
  have h6 := rk_file (c := m.vc 14) h5 (show 6 < 16 by omega) rfl (fun b hb => hb) h5.p.lt (h5.p.fl 14 (by omega)) (h5.p.vs 14 (by omega)) (h5.p.ok 14 (by omega))
  have h7 := rk_file (c := m.vc 15) h6 (show 7 < 16 by omega) rfl (fun b hb => hb) h6.p.lt (h6.p.fl 15 (by omega)) (h6.p.vs 15 (by omega)) (h6.p.ok 15 (by omega))
  exact h7
theorem now8_crash (d : Dk) : ({ now8 d with loose := [], armed := fun _ => 0, off := false, power := -1 } : Dk) = crash1 d := by
  unfold crash1
  rw [Dk.mk.injEq]
  refine ⟨?_, rfl, rfl, rfl, rfl, rfl⟩
  funext i
  show (if i = 7 then d.fl 15 else if i = 6 then d.fl 14 else if i = 5 then d.fl 13 else if i = 4 then d.fl 12 else if i = 3 then d.fl 11 else if i = 2 then d.fl 10 else if i = 1 then d.fl 9 else if i = 0 then d.fl 8 else d.fl i) = if i < 8 then d.fl (8 + i) else d.fl i
  by_cases h : i < 8
  · have : i = 0 ∨ i = 1 ∨ i = 2 ∨ i = 3 ∨ i = 4 ∨ i = 5 ∨ i = 6 ∨ i = 7 := by omega
    rcases this with rfl | rfl | rfl | rfl | rfl | rfl | rfl | rfl <;> rfl
  · rw [if_neg (by omega), if_neg (by omega), if_neg (by omega), if_neg (by omega), if_neg (by omega), if_neg (by omega), if_neg (by omega), if_neg (by omega), if_neg h]
theorem rk_noarm {W : World} {S : Nat → Prop} {g : Nat} {m : Rm} {d : Dk} {al : List (Int × Int)} {N : Nat} (h : RkAt W S g m d al N) : RkAt (W.setCell ⟨g, 17, none⟩ (.slice none 0 0)) S g (m.arm none 0) { d with armed := fun _ => 0 } [] N :=
  rk_make (d := d) (al := al) (m := m) h.blk 17 _ (rkc_arm d al [] m none 0 0 rfl) { fl := h.p.fl, loo := h.p.loo, ard := ⟨rfl, fun h => absurd h (Nat.lt_irrefl 0)⟩, vs := h.p.vs, ars := fun h => absurd rfl h, ls := h.p.ls, sg := h.p.sg, lt := h.p.lt, rel := fun n hn => rfl, ok := h.p.ok, chs := h.p.chs, cN := ⟨h.p.cN.1, h.p.cN.2.1, Nat.zero_le _, h.p.cN.2.2.2⟩, pw := h.p.pw }
theorem rk_noloose {W : World} {S : Nat → Prop} {g : Nat} {m : Rm} {d : Dk} {al : List (Int × Int)} {N : Nat} (h : RkAt W S g m d al N) : RkAt (W.setCell ⟨g, 16, none⟩ (.slice none 0 0)) S g (m.lo none 0) { d with loose := [] } al N :=
  rk_make (d := d) (al := al) (m := m) h.blk 16 _ (rkc_lo d al m [] none 0 0 rfl) { fl := h.p.fl, loo := World.ownsRow_nil _ _ _ _, ard := h.p.ard, vs := fun i hi hne a ha => ⟨(h.p.vs i hi hne a ha).1, (h.p.vs i hi hne a ha).2.1, fun z hz => (by cases hz)⟩, ars := fun hne a ha => ⟨(h.p.ars hne a ha).1, (h.p.ars hne a ha).2.1, fun z hz => (by cases hz)⟩, ls := fun z hz => (by cases hz), sg := h.p.sg, lt := h.p.lt, rel := h.p.rel, ok := h.p.ok, chs := fun c hc => (by cases hc), cN := ⟨h.p.cN.1, Nat.zero_le _, h.p.cN.2.2⟩, pw := h.p.pw }
theorem rk_on {W : World} {S : Nat → Prop} {g : Nat} {m : Rm} {d : Dk} {al : List (Int × Int)} {N : Nat} (h : RkAt W S g m d al N) : RkAt (W.setCell ⟨g, 20, none⟩ (.bool false)) S g m { d with off := false } al N :=
  rk_make h.blk 20 _ (rkc_off d al m false) ⟨h.p.fl, h.p.loo, h.p.ard, h.p.vs, h.p.ars, h.p.ls, h.p.sg, h.p.lt, h.p.rel, h.p.ok, h.p.chs, h.p.cN, h.p.pw⟩
theorem rk_never {W : World} {S : Nat → Prop} {g : Nat} {m : Rm} {d : Dk} {al : List (Int × Int)} {N : Nat} (h : RkAt W S g m d al N) : RkAt (W.setCell ⟨g, 19, none⟩ (.int .i64 (-1))) S g m { d with power := -1 } al N :=
  rk_make h.blk 19 _ (rkc_power d al m (-1)) ⟨h.p.fl, h.p.loo, h.p.ard, h.p.vs, h.p.ars, h.p.ls, h.p.sg, h.p.lt, h.p.rel, h.p.ok, h.p.chs, h.p.cN, ⟨by show (-1 : Int) ≤ -1; omega, by show (-1 : Int) ≤ 2000000000000; omega⟩⟩
theorem fr_g {S : Nat → Prop} {u w : World} {g : Nat} (h : Fr S u w) (hg : S g ∨ u.heap.size ≤ g) (j : Nat) (v : Value) : Fr S u (w.setCell ⟨g, j, none⟩ v) := fr_set (p := ⟨g, j, none⟩) h hg v
set_option maxRecDepth 100000 in
set_option maxHeartbeats 8000000 in
theorem rcrash_any (S : Nat → Prop) (g : Nat) (d : Dk) (N : Nat) (K : Option Addr) (ks : List Bool) (kn kc : Nat) (hkn : kn = ks.length) (w : World) (hK : BsAt w K ks) (hKS : ks ≠ [] → ∀ a, K = some a → ¬ S a.block) (hk0 : kn ≤ 9223372036854775807) (h : RkS w S g d N) :
    Calls Try.prog 33 #[.pointer (some ⟨g, 0, none⟩), .slice K kn kc] w fun e w' => e = .returned (.tuple #[]) ∧ RkR w S g (crashD d ks) N w' := by
  have HR0 := Lib.hid (rkR_refl h)
  have hnL : d.loose.length ≤ 8192000000 := by obtain ⟨m, al, hm⟩ := h; have := hm.p.cN; omega
  have hnLI : (d.loose.length : Int) ≤ 8192000000 := by omega
  have hknI : (kn : Int) ≤ 9223372036854775807 := by omega
  have HKN := Lib.hid hkn
  have HK := Lib.hid (And.intro hK hKS)
  obtain ⟨len, hlen⟩ : ∃ len, d.loose.length = len := ⟨_, rfl⟩
  rw [hlen] at hnL hnLI
  have HLEN := Lib.hid hlen
  clear h hkn hK hKS hlen
  go_enter Try.func33, Try.ntmps33
  go_wp2
  go_loopw [4] (fun v wr => ∃ j : Nat, j ≤ len ∧ v = .int .i64 j ∧ RkR w S g (crW d ks j) N wr) (fun v _ => len - (intOf v).toNat)
  case atStart => exact ⟨0, by omega, rfl, by rw [crW_zero]; exact HR0.out⟩
  case round =>
    obtain ⟨j, hj, rfl, hrj⟩ := hrel
    have h0j : (0 : Int) ≤ j := by omega
    have hwj : IntKind.i64.wrap ((j : Int) + 1) = (j : Int) + 1 := by rw [IntKind.wrap_i64]; omega
    obtain ⟨S1, ⟨m1, al1, hm1⟩, hf1, hs1⟩ := hrj
    have d16 : wr.cell? ⟨g, 16, none⟩ = some (.slice m1.L len m1.lc) := by
      have h := (rkAt_cells hm1).1
      rw [crW_loose, HLEN.out] at h
      exact h
    by_cases hjl : j < len
    · have hjI : (j : Int) < len := by omega
      have hjL : j < d.loose.length := by have := HLEN.out; omega
      obtain ⟨b, hA, hcs⟩ := loo_at hm1.p (show j < (crW d ks j).loose.length by rw [crW_loose]; exact hjL)
      rw [hA] at d16
      obtain ⟨a0, a1, a2, a3⟩ := hcs j d.loose[j] (by rw [crW_loose]; exact List.getElem?_eq_getElem hjL)
      have hck := hm1.p.chs d.loose[j] (by rw [crW_loose]; exact List.getElem_mem hjL)
      have HNO := Lib.hid (crW_no d ks hjL)
      have HYE := Lib.hid (crW_yes d ks hjL)
      have HKA := Lib.hid (fun (hjk : j < ks.length) => (show ∃ b2 o2, K = some ⟨b2, o2, none⟩ ∧ b2 < wr.heap.size ∧ wr.cell? ⟨b2, o2 + j, none⟩ = some (.bool (ks.getD j false)) from by
        have hbs := bs_fr HK.out.1 hf1 HK.out.2
        rcases hbs with h | ⟨b2, o2, hA2, hlt, hc⟩
        · rw [h] at hjk; simp at hjk
        · refine ⟨b2, o2, hA2, hlt, hc j _ ?_⟩
          rw [List.getD_eq_getElem?_getD, List.getElem?_eq_getElem hjk]
          rfl))
      generalize d.loose[j] = x at *
      generalize crW d ks j = D at *
      generalize hxs : chS x = xs at *
      have hrc : rcC x = #[.int .i64 x.file, .int .i64 x.pl, .bool x.cut, .string xs] := by unfold rcC; rw [hxs]
      have HRC := Lib.hid (And.intro hrc hxs)
      have HJ := Lib.hid (And.intro hf1 (And.intro hs1 hck))
      have HM1 := Lib.hid hm1
      have HGQ := Lib.hid (show g < wr.heap.size from hm1.p.lt _ hm1.p.sg)
      have HOUT := Lib.hid (show RkR w S g D N (wr.alloc (.cells #[.int .i64 x.file, .int .i64 x.pl, .bool x.cut, .string xs] 94)) from rkR_of (rkAt_below hm1 one_alloc) (fr_step hf1 one_alloc) hs1)
      clear hxs hrc hck hm1 hf1 hs1 hcs hA
      by_cases hjk : j < ks.length
      · have hjkI : (j : Int) < kn := by have := HKN.out; omega
        obtain ⟨b2, o2, rfl, hb2, hkc⟩ := HKA.out hjk
        have hkca : ∀ o, (wr.alloc o).cell? ⟨b2, o2 + j, none⟩ = some (.bool (ks.getD j false)) := fun o => by rw [World.cell?_alloc_lt _ _ _ hb2]; exact hkc
        clear HKA
        cases hkv : ks.getD j false with
        | false =>
          rw [hkv] at hkca hkc
          have HE := Lib.hid (HNO.out hkv)
          clear hb2
          go_wp2
          go_roundw
          case rel => exact ⟨j + 1, by omega, by go_num, by rw [HE.out]; exact HOUT.out⟩
          case measure => simp [intOf]; omega
        | true =>
          rw [hkv] at hkca hkc
          have HE := Lib.hid (HYE.out hkv)
          clear hb2 HOUT
          go_wp2_with fail
          have hq := Blk.new wr 94 (rcC x)
          have hm2 := rkAt_below HM1.out (one_alloc (o := .cells (rcC x) 94))
          rw [HRC.out.1] at hq hm2
          have hb2 := one_alloc (w := wr) (o := .cells #[.int .i64 x.file, .int .i64 x.pl, .bool x.cut, .string xs] 94)
          generalize wr.alloc (.cells #[.int .i64 x.file, .int .i64 x.pl, .bool x.cut, .string xs] 94) = W2 at hq hm2 hb2 ⊢
          have hx8 := HJ.out.2.2.1
          have hx8I : (x.file : Int) < 8 := by omega
          have h0x : (0 : Int) ≤ x.file := by omega
          have HB2 := Lib.hid hb2
          have cf2 := rk_now hm2 (show 8 + x.file < 16 by omega)
          obtain ⟨q0, q1, q2, q3⟩ := cell4J hq
          have HM2 := Lib.hid hm2
          have HQ := Lib.hid hq
          have HDO := Lib.hid (fun V (hb : Below W2.heap.size W2 V) => (show Calls Try.prog 52 #[.slice (m1.V (8 + x.file)) (D.fl (8 + x.file)).length (m1.vc (8 + x.file)), .agg #[.int .i64 x.file, .int .i64 x.pl, .bool x.cut, .string xs]] V (DoP V (doneF (D.fl (8 + x.file)) x)) from by
            have h := does_any (m1.V (8 + x.file)) (D.fl (8 + x.file)) (D.fl (8 + x.file)).length (m1.vc (8 + x.file)) x V rfl (hm2.p.ok _ (by omega)) HJ.out.2.2 (rdS_below (hm2.p.fl _ (by omega)) hb)
            rw [HRC.out.1] at h
            exact h))
          have HBD := Lib.hid (show Below W2.heap.size W2 W2.drew from (Below.refl _ _).drew)
          clear hm2 hq hb2 hkca hkc
          go_region_with
            ((go_at_call 52; (with_reducible refine (HDO.out _ HBD.out).mono ?_); rintro e w3 ⟨A3, k3, rfl, hrd3, hfr3, hb3⟩; (have HB3 := Lib.hid (bj HBD.out hb3)); (have z3 := (rkAt_cell (rkAt_below HM2.out HB3.out) (show 8 + x.file < 21 by omega)).2); (have y3 := rk_now (rkAt_below HM2.out HB3.out) (show 8 + x.file < 16 by omega)); (obtain ⟨r0, r1, r2, r3⟩ := cell4J (blk_step HQ.out HB3.out)); (have HP3 := Lib.hid (And.intro hrd3 (And.intro hfr3 hb3))); clear hrd3 hfr3 hb3))
          all_goals
            have hfp := file_put (k := k3) HM2.out (show 8 + x.file < 16 by omega) (doneF_ok (HM2.out.p.ok _ (by omega)) HJ.out.2.2) HP3.out
            have HEND := Lib.hid (show RkR w S g (crW d ks (j + 1)) N _ from by
              rw [HE.out]
              exact rkR_join (fr_step HJ.out.1 HB2.out) HJ.out.2.1 (rkR_of hfp.1 hfp.2 (fun b hb => hb.imp id (·.2))))
            clear hfp
            go_wp2
            go_roundw
            case rel => exact ⟨j + 1, by omega, by go_num, HEND.out⟩
            case measure => simp [intOf]; omega
      · have hjkI : (kn : Int) ≤ j := by have := HKN.out; omega
        have hjkI2 : ¬ ((j : Int) < kn) := by omega
        have HE := Lib.hid (HNO.out (by rw [List.getD_eq_getElem?_getD, List.getElem?_eq_none (by omega)]; rfl))
        clear HKA
        go_wp2
        go_roundw
        case rel => exact ⟨j + 1, by omega, by go_num, by rw [HE.out]; exact HOUT.out⟩
        case measure => simp [intOf]; omega
    · obtain rfl : j = len := by omega
      have hDe : crashD d ks = crash1 (crW d ks j) := by
        unfold crashD crW
        rw [List.take_of_length_le (by have := HLEN.out; omega)]
      have HDE := Lib.hid hDe
      generalize crW d ks j = D at *
      have hend := rk_never (rk_on (rk_noarm (rk_noloose (rk_now8 hm1))))
      have hsg := hs1 g hm1.p.sg
      have HEND := Lib.hid (show RkR w S g (crashD d ks) N ((((((((((((wr.setCell ⟨g, 0, none⟩ (.slice (m1.V 8) (D.fl 8).length (m1.vc 8))).setCell ⟨g, 1, none⟩ (.slice (m1.V 9) (D.fl 9).length (m1.vc 9))).setCell ⟨g, 2, none⟩ (.slice (m1.V 10) (D.fl 10).length (m1.vc 10))).setCell ⟨g, 3, none⟩ (.slice (m1.V 11) (D.fl 11).length (m1.vc 11))).setCell ⟨g, 4, none⟩ (.slice (m1.V 12) (D.fl 12).length (m1.vc 12))).setCell ⟨g, 5, none⟩ (.slice (m1.V 13) (D.fl 13).length (m1.vc 13))).setCell ⟨g, 6, none⟩ (.slice (m1.V 14) (D.fl 14).length (m1.vc 14))).setCell ⟨g, 7, none⟩ (.slice (m1.V 15) (D.fl 15).length (m1.vc 15))).setCell ⟨g, 16, none⟩ (.slice none 0 0)).setCell ⟨g, 17, none⟩ (.slice none 0 0)).setCell ⟨g, 20, none⟩ (.bool false)).setCell ⟨g, 19, none⟩ (.int .i64 (-1))) from by
        rw [HDE.out, ← now8_crash D]
        exact rkR_of hend (fr_g (fr_g (fr_g (fr_g (fr_g (fr_g (fr_g (fr_g (fr_g (fr_g (fr_g (fr_g hf1 hsg _ _) hsg _ _) hsg _ _) hsg _ _) hsg _ _) hsg _ _) hsg _ _) hsg _ _) hsg _ _) hsg _ _) hsg _ _) hsg _ _) hs1)
      have y0 := rk_now hm1 (show 0 < 16 by omega)
      have y1 := rk_now hm1 (show 1 < 16 by omega)
      have y2 := rk_now hm1 (show 2 < 16 by omega)
      have y3 := rk_now hm1 (show 3 < 16 by omega)
      have y4 := rk_now hm1 (show 4 < 16 by omega)
      have y5 := rk_now hm1 (show 5 < 16 by omega)
      have y6 := rk_now hm1 (show 6 < 16 by omega)
      have y7 := rk_now hm1 (show 7 < 16 by omega)
      have y8 := rk_now hm1 (show 8 < 16 by omega)
      have y9 := rk_now hm1 (show 9 < 16 by omega)
      have y10 := rk_now hm1 (show 10 < 16 by omega)
      have y11 := rk_now hm1 (show 11 < 16 by omega)
      have y12 := rk_now hm1 (show 12 < 16 by omega)
      have y13 := rk_now hm1 (show 13 < 16 by omega)
      have y14 := rk_now hm1 (show 14 < 16 by omega)
      have y15 := rk_now hm1 (show 15 < 16 by omega)
      have f0 := (rkAt_cell hm1 (show 0 < 21 by omega)).2
      have f1 := (rkAt_cell hm1 (show 1 < 21 by omega)).2
      have f2 := (rkAt_cell hm1 (show 2 < 21 by omega)).2
      have f3 := (rkAt_cell hm1 (show 3 < 21 by omega)).2
      have f4 := (rkAt_cell hm1 (show 4 < 21 by omega)).2
      have f5 := (rkAt_cell hm1 (show 5 < 21 by omega)).2
      have f6 := (rkAt_cell hm1 (show 6 < 21 by omega)).2
      have f7 := (rkAt_cell hm1 (show 7 < 21 by omega)).2
      have f16 := (rkAt_cell hm1 (show 16 < 21 by omega)).2
      have f17 := (rkAt_cell hm1 (show 17 < 21 by omega)).2
      have f19 := (rkAt_cell hm1 (show 19 < 21 by omega)).2
      have f20 := (rkAt_cell hm1 (show 20 < 21 by omega)).2
      have y17 := (rkAt_cells hm1).2.1
      have y19 := (rkAt_cells hm1).2.2.2.1
      have y20 := (rkAt_cells hm1).2.2.2.2
      clear hm1 hend hDe hf1 hs1 hsg
      go_wp2
      refine bodyPost_end (v := .tuple #[]) (by simp [results, Try.results33, go_sem]) rfl ⟨rfl, ?_⟩
      exact HEND.out
end Go.Proofs.Ytffojihhjiogpaa
