/- Layer 13: number. Conditions: those of each lemma. -/
import Derived.Test.YtibnmkjabpoppaaGreatDoorLx17
import Derived.Test.YtibnmkjabpoppaaGreatDoorPu
import Derived.Lib.ParseIntB
import Derived.Lib.AtoiErrMem
namespace Go.Proofs.YtibnmkjabpoppaaGreatDoor
open Go Go.RowKit
set_option linter.unusedVariables false
set_option linter.unusedSimpArgs false

/-- the variable of the error of too great a number holds an error -/
def Er (W : World) : Prop := ∃ te pe, W.cell? ⟨7, 0, none⟩ = some (.iface te pe)
theorem er_lt {W : World} (h : Er W) : 7 < W.heap.size := by
  obtain ⟨te, pe, h⟩ := h
  exact Lib.lt_of_cell h
theorem er_step {W W' : World} (h : Er W) (hb : Below W.heap.size W W') : Er W' := by
  have hl := er_lt h
  obtain ⟨te, pe, h⟩ := h
  exact ⟨te, pe, (hb.cell (show (⟨7, 0, none⟩ : Addr).block < W.heap.size from hl)).trans h⟩
theorem er_bx {W W' : World} {g : Nat} (h : Er W) (k : Bx g W W') (hg : g ≠ 7) : Er W' := by
  have hl := er_lt h
  obtain ⟨te, pe, h⟩ := h
  refine ⟨te, pe, ?_⟩
  have e := k.2.2.2.2 7 hl (fun e => hg e.symm)
  unfold World.cell? at h ⊢
  simp only at h ⊢
  rw [e]
  exact h
theorem dig_nat {c : Nat} (h : digB (c : Int) = true) : 48 ≤ c ∧ c ≤ 57 := by
  unfold digB at h
  simp at h
  omega
theorem par_dig : ∀ (l : List UInt8) (acc : Nat), (∀ c ∈ l.map UInt8.toNat, digB (c : Int) = true) → acc ≤ 18446744073709551615 → Lib.parseUintM 18446744073709551615 acc l = if vd acc (l.map UInt8.toNat) ≤ 18446744073709551615 then .ok (vd acc (l.map UInt8.toNat)) else .range
  | [], acc, _, ha => by
    unfold Lib.parseUintM
    have : vd acc (([] : List UInt8).map UInt8.toNat) = acc := rfl
    rw [this, if_pos ha]
  | c :: l, acc, h, ha => by
    have hd := dig_nat (h c.toNat (by simp))
    have hv : vd acc ((c :: l).map UInt8.toNat) = vd (10 * acc + (c.toNat - 48)) (l.map UInt8.toNat) := by rw [List.map_cons, vd_cons]
    have hge := vd_ge (l.map UInt8.toNat) (10 * acc + (c.toNat - 48))
    rw [hv]
    unfold Lib.parseUintM
    rw [if_pos hd]
    by_cases h1 : 1844674407370955162 ≤ acc
    · rw [if_pos h1, if_neg (by omega)]
    · rw [if_neg h1]
      by_cases h2 : 18446744073709551615 < acc * 10 + (c.toNat - 48)
      · rw [if_pos h2, if_neg (by omega)]
      · rw [if_neg h2, par_dig l _ (fun x hx => h x (by simp only [List.map_cons, List.mem_cons]; exact .inr hx)) (by omega), show acc * 10 + (c.toNat - 48) = 10 * acc + (c.toNat - 48) by omega]
def ParP (v : Nat) (w : World) (e : Ending) (w' : World) : Prop := Below w.heap.size w w' ∧ ((v ≤ 18446744073709551615 ∧ e = .returned (.tuple #[.int .u64 v, .nilIface])) ∨ (18446744073709551615 < v ∧ ∃ (t : TypeId) (q : Value) (n : Int), e = .returned (.tuple #[.int .u64 n, .iface t q])))
theorem par_any (x : ByteArray) (w : World) (hE : Er w) (h0 : 0 < x.size) (hd : ∀ c ∈ bts x, digB (c : Int) = true) (hs : x.size ≤ 140737488351232) : Calls Tryz.prog 63 #[.string x, .int .i64 10, .int .i64 64] w (ParP (vd 0 (bts x)) w) := by
  have hpar : Lib.parseUintB 64 x.data.toList = if vd 0 (bts x) ≤ 18446744073709551615 then .ok (vd 0 (bts x)) else .range := by
    unfold Lib.parseUintB
    rw [if_neg (by intro e; have := bts_length x; unfold bts at this; rw [e] at this; simp at this; omega)]
    exact par_dig x.data.toList 0 hd (Nat.zero_le _)
  generalize vd 0 (bts x) = v at *
  obtain ⟨te, pe, hv⟩ := hE
  by_cases hle : v ≤ 18446744073709551615
  · rw [if_pos hle] at hpar
    refine (Any.strconv_ParseUint_10_at64_ok Tryz.laysPu14 x (by omega) v hpar w).mono ?_
    rintro e w' ⟨rfl, hw⟩
    refine ⟨?_, .inl ⟨hle, rfl⟩⟩
    rcases hw with rfl | rfl
    · exact Below.refl _ _
    · exact Lib.bytesWorld_below _ _ _
  · rw [if_neg hle] at hpar
    refine (Any.strconv_ParseUint_10_at64_range Tryz.laysPu14 x (by omega) hpar _ w hv (.inr ⟨_, _, rfl⟩)).mono ?_
    rintro e w' ⟨N, rfl, -, -, hb⟩
    exact ⟨hb, .inr ⟨by omega, _, _, _, rfl⟩⟩
theorem dl_all : ∀ l : List Nat, ∀ c ∈ l.take (dl l), digB (c : Int) = true
  | [], c, h => by simp at h
  | a :: l, c, h => by
    cases hd : digB (a : Int) with
    | true =>
      rw [dl_yes hd, Nat.add_comm, List.take_succ_cons] at h
      rcases List.mem_cons.1 h with rfl | h
      · exact hd
      · exact dl_all l c h
    | false =>
      rw [dl_no hd, List.take_zero] at h
      simp at h
theorem dl_le (l : List Nat) : dl l ≤ l.length := List.IsPrefix.length_le (List.takeWhile_prefix _)
set_option maxRecDepth 100000 in
set_option maxHeartbeats 8000000 in
theorem number_any (g : Nat) (S : ByteArray) (p : Nat) (w : World) (h : Rd w g S p) (hEr : Er w) (hg : g ≠ 7) (hp : p < S.size) (hd0 : digB (atB S p : Int) = true) (hS : S.size ≤ 140737488351232) : Calls Tryz.prog 48 #[.pointer (some ⟨g, 0, none⟩)] w fun r w' => r = .returned (anT (numA S p)) ∧ (∃ q, Rd w' g S q ∧ ∀ m, anQ (numA S p) = some m → q = m) ∧ Bx g w w' := by
  have hle := dl_le ((bts S).drop p)
  rw [List.length_drop, bts_length] at hle
  have hpos : 1 ≤ dl ((bts S).drop p) := by rw [drop_at S p hp, dl_yes hd0]; omega
  have hex := bts_ex S p (dl ((bts S).drop p))
  have hall := dl_all ((bts S).drop p)
  have hfirst : atB (S.extract p (p + dl ((bts S).drop p))) 0 = atB S p := by
    have h1 := drop_hd S p
    unfold atB at h1 ⊢
    rw [hex, ← h1]
    simp only [List.getD_eq_getElem?_getD]
    rw [List.getElem?_take_of_lt (by omega)]
  unfold numA
  rw [← hex]
  rw [← hex] at hall
  obtain ⟨R, hR⟩ : ∃ R, p + dl ((bts S).drop p) = R := ⟨_, rfl⟩
  have HR := Lib.hid hR
  have hRle : R ≤ S.size := by omega
  have hRp : p < R := by omega
  rw [hR] at hall hfirst ⊢
  have HALL := Lib.hid hall
  clear hR hle hpos hex hall hd0
  have hxs : (S.extract p R).size = R - p := by rw [ByteArray.size_extract]; omega
  obtain ⟨x, hX⟩ : ∃ x, S.extract p R = x := ⟨_, rfl⟩
  have HX := Lib.hid hX
  rw [hX] at HALL hfirst hxs ⊢
  have hx0 := atB_at x 0 (by omega)
  rw [hfirst] at hx0
  have PAR := Lib.hid (fun W hE => par_any x W hE (by omega) HALL.out (by omega))
  obtain ⟨v, hv⟩ : ∃ v, vd 0 (bts x) = v := ⟨_, rfl⟩
  rw [hv] at PAR ⊢
  generalize hc0 : atB S p = c at *
  clear hX hv hfirst HALL hc0
  have HX0 := Lib.hid hx0
  clear hx0
  have HN := Lib.hid (fun q W hr => next_any g S q W hr)
  have HDG := Lib.hid ldig_any
  have hSI : (S.size : Int) ≤ 140737488351232 := by omega
  have hlt := Blk.lt h
  have hne : w.heap.size ≠ g := by omega
  have hne2 : w.heap.size + 1 ≠ g := by omega
  have HW := Lib.hid (bj13 (one_alloc (w := w) (o := tokA)) (one_alloc (o := spotA)))
  have HD := Lib.hid (rd_step h HW.out)
  obtain ⟨hA, hB⟩ := two_blk w (.int .u8 0) (.string ⟨#[]⟩) (.int .u64 0) (.int .i64 0) (.int .i64 0) (.int .i64 0) 34 29
  have HA := Lib.hid hA
  have HB := Lib.hid hB
  clear hA hB h
  have HER := Lib.hid (er_step hEr HW.out)
  have hpI : (p : Int) < S.size := by omega
  obtain ⟨c0, c1, f0, f1⟩ := rd_cells HD.out
  clear hEr
  go_enter Tryz.func48, Tryz.ntmps48
  go_wp2
  go_loopw [] (fun wr => ∃ q : Nat, p ≤ q ∧ q ≤ S.size ∧ q + dl ((bts S).drop q) = R ∧ Rd wr g S q ∧ Bx g ((w.alloc tokA).alloc spotA) wr) (fun wr => S.size - rdAt g wr)
  case atStart => exact ⟨p, Nat.le_refl _, by omega, HR.out, HD.out, bx_refl _ _⟩
  case round =>
    clear HR HD c0 c1 f0 f1
    obtain ⟨q, hq1, hq2, hE, hr, hb⟩ := hrel
    have HE := Lib.hid hE
    have HRD := Lib.hid hr
    have HB0 := Lib.hid hb
    have M0 := Lib.hid (rd_at hr)
    clear hE hr hb
    obtain ⟨b, hb⟩ : ∃ b, digB (atB S q : Int) = b := ⟨_, rfl⟩
    go_wp2_with fail
    refine (HN.out q _ HRD.out).mono ?_
    rintro e w1 ⟨rfl, hb1⟩
    have HRD1 := Lib.hid (rd_step HRD.out hb1)
    have HB1 := Lib.hid (bx_later HB0.out hb1)
    clear hb1
    go_wp2_with fail
    refine (HDG.out _ _).mono ?_
    rintro e w2 ⟨rfl, rfl⟩
    rw [hb]
    obtain ⟨c0, c1, f0, f1⟩ := rd_cells HRD1.out
    cases b with
    | true =>
      have hqs : q < S.size := by
        refine Nat.lt_of_not_le fun hh => ?_
        rw [atB_end S q hh] at hb
        revert hb
        decide
      have HQ := Lib.hid (show q + 1 + dl ((bts S).drop (q + 1)) = R by rw [← HE.out, drop_at S q hqs, dl_yes hb]; omega)
      clear hb
      have hI : (q : Int) < S.size := by omega
      have HR2 := Lib.hid (rd_set HRD1.out (q + 1))
      go_wp2
      go_roundw
      case rel => exact ⟨q + 1, by omega, by omega, HQ.out, HR2.out, bx_trans HB1.out (bx_set _ _ _ _)⟩
      case measure =>
        rw [M0.out]
        have h2 := rd_at HR2.out
        exact Nat.lt_of_lt_of_eq (Nat.lt_of_le_of_lt (Nat.le_of_eq (congrArg (S.size - ·) h2)) (by omega)) rfl
    | false =>
      obtain rfl : q = R := by
        rw [← HE.out]
        rcases Nat.lt_or_ge q S.size with hh | hh
        · rw [drop_at S q hh, dl_no hb]; rfl
        · rw [dl_end S q hh]; rfl
      clear hb HE hq1 hq2
      have hI : (q : Int) ≤ S.size := by omega
      have hI2 : (p : Int) ≤ q := by omega
      have HER1 := Lib.hid (er_bx HER.out (bx_drew HB1.out) hg)
      have HD8 := Lib.hid (rd_drew HRD1.out)
      have HA8 := Lib.hid (bx_blk HA.out (bx_drew HB1.out) hne)
      have HB8 := Lib.hid (bx_blk HB.out (bx_drew HB1.out) hne2)
      have HX8 := Lib.hid (bx_trans (bx_of HW.out rfl) (bx_drew HB1.out))
      have hx0 := HX0.out
      have hxx := HX.out
      have hxI0 : (0 : Int) < x.size := by omega
      clear HB1 HRD HRD1 HB0
      by_cases hz : c = 48 ∧ p + 1 < q
      · obtain ⟨rfl, hz2⟩ := hz
        have HRES := Lib.hid (show anT (numR p q v ((48 : Nat) == 48)) = .tuple #[tokV 0 ⟨#[]⟩ 0 0, spotV 6 ((p : Int) + 1)] by
          have : numR p q v ((48 : Nat) == 48) = .bad 6 (p + 1) := if_pos ⟨rfl, hz2⟩
          rw [this]; rfl)
        have HRN := Lib.hid (show ∀ m, anQ (numR p q v ((48 : Nat) == 48)) = some m → q = m by
          have : numR p q v ((48 : Nat) == 48) = .bad 6 (p + 1) := if_pos ⟨rfl, hz2⟩
          rw [this]; intro m hm; cases hm)
        have hxI : (1 : Int) < x.size := by omega
        go_wp2_with fail
        go_region
        all_goals
          clear c0 c1 f0 f1
          go_wp2_with fail
          refine (wrong_any 6 ((p : Int) + 1) _).mono ?_
          rintro e w9 ⟨rfl, hb9⟩
          have HA9 := Lib.hid (Blk.below HA8.out hb9 (Blk.lt HA8.out))
          have HB9 := Lib.hid (Blk.below HB8.out hb9 (Blk.lt HB8.out))
          have HD9 := Lib.hid (rd_step HD8.out hb9)
          have HX9 := Lib.hid (bx_later HX8.out hb9)
          clear hb9
          obtain ⟨d0, d1, d2, d3⟩ := cell2b HB9.out
          obtain ⟨b0, b1, b2, b3⟩ := cell4b HA9.out
          have e0 := (HA9.out).frozen 0
          have e1 := (HA9.out).frozen 1
          have e2 := (HA9.out).frozen 2
          have e3 := (HA9.out).frozen 3
          unfold tokV spotV
          go_wp2
          obtain ⟨hA, hB⟩ := two_set HA9.out HB9.out (by omega) (.int .u8 0) (.string ⟨#[]⟩) (.int .u64 0) (.int .i64 0) (.int .i64 6) (.int .i64 ((p : Int) + 1))
          have HB6 := two_below (g := w.heap.size) (h := w.heap.size + 1) (Below.refl w.heap.size w9) (Nat.le_refl _) (Nat.le_succ _) (.int .u8 0) (.string ⟨#[]⟩) (.int .u64 0) (.int .i64 0) (.int .i64 6) (.int .i64 ((p : Int) + 1))
          clear d0 d1 d2 d3 b0 b1 b2 b3 e0 e1 e2 e3
          obtain ⟨d0, d1, _, _⟩ := cell2b hB
          obtain ⟨c0, c1, c2, c3⟩ := cell4b hA
          exact bodyPost_ret (v := .tuple #[tokV 0 ⟨#[]⟩ 0 0, spotV 6 ((p : Int) + 1)]) (by simp [results, Tryz.results48, go_sem, c0, c1, c2, c3, d0, d1, tokV, spotV]) rfl ⟨by rw [HRES.out], ⟨_, Blk.below (HD9).out HB6 hlt, HRN.out⟩, bx_more (HX9).out HB6⟩

      · have hzr : ¬ ((c == 48) = true ∧ p + 1 < q) := fun hh => hz ⟨by simpa using hh.1, hh.2⟩
        have HNUM := Lib.hid (show numR p q v (c == 48) = if 9223372036854775808 < v then .bad 5 p else .ok 3 ⟨#[]⟩ v p q from if_neg hzr)
        clear hzr
        by_cases h1 : 1 < x.size
        · have h1I : (1 : Int) < x.size := by omega
          have hcb : ((c : Int) == 48) = false := beq_no13 (fun e => hz ⟨by omega, by omega⟩)
          clear hz h1
          go_wp2_with fail
          go_region
          all_goals
            clear c0 c1 f0 f1
            go_wp2_with fail
            refine (PAR.out _ HER1.out).mono ?_
            rintro e w3 ⟨hb3, ⟨hv, rfl⟩ | ⟨hv, t, q0, n0, rfl⟩⟩
            · have HA8' := Lib.hid (Blk.below HA8.out hb3 (Blk.lt HA8.out))
              have HB8' := Lib.hid (Blk.below HB8.out hb3 (Blk.lt HB8.out))
              have HD8' := Lib.hid (rd_step HD8.out hb3)
              have HX8' := Lib.hid (bx_later HX8.out hb3)
              clear hb3 HA8 HB8 HD8 HX8
              by_cases hv63 : 9223372036854775808 < v
              · have hvI : (9223372036854775808 : Int) < v := by omega
                have HRES := Lib.hid (show anT (numR p q v (c == 48)) = .tuple #[tokV 0 ⟨#[]⟩ 0 0, spotV 5 p] by rw [HNUM.out, if_pos hv63]; rfl)
                have HRN := Lib.hid (show ∀ m, anQ (numR p q v (c == 48)) = some m → q = m by rw [HNUM.out, if_pos hv63]; intro m hm; cases hm)
                clear hv63 hv
                go_wp2_with fail
                refine (wrong_any 5 p _).mono ?_
                rintro e w9 ⟨rfl, hb9⟩
                have HA9 := Lib.hid (Blk.below HA8'.out hb9 (Blk.lt HA8'.out))
                have HB9 := Lib.hid (Blk.below HB8'.out hb9 (Blk.lt HB8'.out))
                have HD9 := Lib.hid (rd_step HD8'.out hb9)
                have HX9 := Lib.hid (bx_later HX8'.out hb9)
                clear hb9
                obtain ⟨d0, d1, d2, d3⟩ := cell2b HB9.out
                obtain ⟨b0, b1, b2, b3⟩ := cell4b HA9.out
                have e0 := (HA9.out).frozen 0
                have e1 := (HA9.out).frozen 1
                have e2 := (HA9.out).frozen 2
                have e3 := (HA9.out).frozen 3
                unfold tokV spotV
                go_wp2
                obtain ⟨hA, hB⟩ := two_set HA9.out HB9.out (by omega) (.int .u8 0) (.string ⟨#[]⟩) (.int .u64 0) (.int .i64 0) (.int .i64 5) (.int .i64 p)
                have HB6 := two_below (g := w.heap.size) (h := w.heap.size + 1) (Below.refl w.heap.size w9) (Nat.le_refl _) (Nat.le_succ _) (.int .u8 0) (.string ⟨#[]⟩) (.int .u64 0) (.int .i64 0) (.int .i64 5) (.int .i64 p)
                clear d0 d1 d2 d3 b0 b1 b2 b3 e0 e1 e2 e3
                obtain ⟨d0, d1, _, _⟩ := cell2b hB
                obtain ⟨c0, c1, c2, c3⟩ := cell4b hA
                exact bodyPost_ret (v := .tuple #[tokV 0 ⟨#[]⟩ 0 0, spotV 5 p]) (by simp [results, Tryz.results48, go_sem, c0, c1, c2, c3, d0, d1, tokV, spotV]) rfl ⟨by rw [HRES.out], ⟨_, Blk.below (HD9).out HB6 hlt, HRN.out⟩, bx_more (HX9).out HB6⟩
              · have hvI : ¬ (9223372036854775808 : Int) < v := by omega
                have HRES := Lib.hid (show anT (numR p q v (c == 48)) = .tuple #[tokV 3 ⟨#[]⟩ v p, spotV 0 0] by rw [HNUM.out, if_neg hv63]; rfl)
                have HRN := Lib.hid (show ∀ m, anQ (numR p q v (c == 48)) = some m → q = m by rw [HNUM.out, if_neg hv63]; intro m hm; exact Option.some.inj hm)
                clear hv63 hv
                obtain ⟨d0, d1, d2, d3⟩ := cell2b HB8'.out
                obtain ⟨b0, b1, b2, b3⟩ := cell4b HA8'.out
                have e0 := (HA8'.out).frozen 0
                have e1 := (HA8'.out).frozen 1
                have e2 := (HA8'.out).frozen 2
                have e3 := (HA8'.out).frozen 3
                go_wp2
                obtain ⟨hA, hB⟩ := two_set HA8'.out HB8'.out (by omega) (.int .u8 3) (.string ⟨#[]⟩) (.int .u64 v) (.int .i64 p) (.int .i64 0) (.int .i64 0)
                have HB6 := two_below (g := w.heap.size) (h := w.heap.size + 1) (Below.refl w.heap.size w3) (Nat.le_refl _) (Nat.le_succ _) (.int .u8 3) (.string ⟨#[]⟩) (.int .u64 v) (.int .i64 p) (.int .i64 0) (.int .i64 0)
                clear d0 d1 d2 d3 b0 b1 b2 b3 e0 e1 e2 e3
                obtain ⟨d0, d1, _, _⟩ := cell2b hB
                obtain ⟨c0, c1, c2, c3⟩ := cell4b hA
                exact bodyPost_ret (v := .tuple #[tokV 3 ⟨#[]⟩ v p, spotV 0 0]) (by simp [results, Tryz.results48, go_sem, c0, c1, c2, c3, d0, d1, tokV, spotV]) rfl ⟨by rw [HRES.out], ⟨_, Blk.below (HD8').out HB6 hlt, HRN.out⟩, bx_more (HX8').out HB6⟩
            · have HA8' := Lib.hid (Blk.below HA8.out hb3 (Blk.lt HA8.out))
              have HB8' := Lib.hid (Blk.below HB8.out hb3 (Blk.lt HB8.out))
              have HD8' := Lib.hid (rd_step HD8.out hb3)
              have HX8' := Lib.hid (bx_later HX8.out hb3)
              clear hb3 HA8 HB8 HD8 HX8
              have hv63 : 9223372036854775808 < v := by omega
              have HRES := Lib.hid (show anT (numR p q v (c == 48)) = .tuple #[tokV 0 ⟨#[]⟩ 0 0, spotV 5 p] by rw [HNUM.out, if_pos hv63]; rfl)
              have HRN := Lib.hid (show ∀ m, anQ (numR p q v (c == 48)) = some m → q = m by rw [HNUM.out, if_pos hv63]; intro m hm; cases hm)
              clear hv63 hv
              go_wp2_with fail
              refine (wrong_any 5 p _).mono ?_
              rintro e w9 ⟨rfl, hb9⟩
              have HA9 := Lib.hid (Blk.below HA8'.out hb9 (Blk.lt HA8'.out))
              have HB9 := Lib.hid (Blk.below HB8'.out hb9 (Blk.lt HB8'.out))
              have HD9 := Lib.hid (rd_step HD8'.out hb9)
              have HX9 := Lib.hid (bx_later HX8'.out hb9)
              clear hb9
              obtain ⟨d0, d1, d2, d3⟩ := cell2b HB9.out
              obtain ⟨b0, b1, b2, b3⟩ := cell4b HA9.out
              have e0 := (HA9.out).frozen 0
              have e1 := (HA9.out).frozen 1
              have e2 := (HA9.out).frozen 2
              have e3 := (HA9.out).frozen 3
              unfold tokV spotV
              go_wp2
              obtain ⟨hA, hB⟩ := two_set HA9.out HB9.out (by omega) (.int .u8 0) (.string ⟨#[]⟩) (.int .u64 0) (.int .i64 0) (.int .i64 5) (.int .i64 p)
              have HB6 := two_below (g := w.heap.size) (h := w.heap.size + 1) (Below.refl w.heap.size w9) (Nat.le_refl _) (Nat.le_succ _) (.int .u8 0) (.string ⟨#[]⟩) (.int .u64 0) (.int .i64 0) (.int .i64 5) (.int .i64 p)
              clear d0 d1 d2 d3 b0 b1 b2 b3 e0 e1 e2 e3
              obtain ⟨d0, d1, _, _⟩ := cell2b hB
              obtain ⟨c0, c1, c2, c3⟩ := cell4b hA
              exact bodyPost_ret (v := .tuple #[tokV 0 ⟨#[]⟩ 0 0, spotV 5 p]) (by simp [results, Tryz.results48, go_sem, c0, c1, c2, c3, d0, d1, tokV, spotV]) rfl ⟨by rw [HRES.out], ⟨_, Blk.below (HD9).out HB6 hlt, HRN.out⟩, bx_more (HX9).out HB6⟩
        · have h1I : ¬ (1 : Int) < x.size := by omega
          clear hz h1
          go_wp2_with fail
          go_region
          all_goals
            clear c0 c1 f0 f1
            go_wp2_with fail
            refine (PAR.out _ HER1.out).mono ?_
            rintro e w3 ⟨hb3, ⟨hv, rfl⟩ | ⟨hv, t, q0, n0, rfl⟩⟩
            · have HA8' := Lib.hid (Blk.below HA8.out hb3 (Blk.lt HA8.out))
              have HB8' := Lib.hid (Blk.below HB8.out hb3 (Blk.lt HB8.out))
              have HD8' := Lib.hid (rd_step HD8.out hb3)
              have HX8' := Lib.hid (bx_later HX8.out hb3)
              clear hb3 HA8 HB8 HD8 HX8
              by_cases hv63 : 9223372036854775808 < v
              · have hvI : (9223372036854775808 : Int) < v := by omega
                have HRES := Lib.hid (show anT (numR p q v (c == 48)) = .tuple #[tokV 0 ⟨#[]⟩ 0 0, spotV 5 p] by rw [HNUM.out, if_pos hv63]; rfl)
                have HRN := Lib.hid (show ∀ m, anQ (numR p q v (c == 48)) = some m → q = m by rw [HNUM.out, if_pos hv63]; intro m hm; cases hm)
                clear hv63 hv
                go_wp2_with fail
                refine (wrong_any 5 p _).mono ?_
                rintro e w9 ⟨rfl, hb9⟩
                have HA9 := Lib.hid (Blk.below HA8'.out hb9 (Blk.lt HA8'.out))
                have HB9 := Lib.hid (Blk.below HB8'.out hb9 (Blk.lt HB8'.out))
                have HD9 := Lib.hid (rd_step HD8'.out hb9)
                have HX9 := Lib.hid (bx_later HX8'.out hb9)
                clear hb9
                obtain ⟨d0, d1, d2, d3⟩ := cell2b HB9.out
                obtain ⟨b0, b1, b2, b3⟩ := cell4b HA9.out
                have e0 := (HA9.out).frozen 0
                have e1 := (HA9.out).frozen 1
                have e2 := (HA9.out).frozen 2
                have e3 := (HA9.out).frozen 3
                unfold tokV spotV
                go_wp2
                obtain ⟨hA, hB⟩ := two_set HA9.out HB9.out (by omega) (.int .u8 0) (.string ⟨#[]⟩) (.int .u64 0) (.int .i64 0) (.int .i64 5) (.int .i64 p)
                have HB6 := two_below (g := w.heap.size) (h := w.heap.size + 1) (Below.refl w.heap.size w9) (Nat.le_refl _) (Nat.le_succ _) (.int .u8 0) (.string ⟨#[]⟩) (.int .u64 0) (.int .i64 0) (.int .i64 5) (.int .i64 p)
                clear d0 d1 d2 d3 b0 b1 b2 b3 e0 e1 e2 e3
                obtain ⟨d0, d1, _, _⟩ := cell2b hB
                obtain ⟨c0, c1, c2, c3⟩ := cell4b hA
                exact bodyPost_ret (v := .tuple #[tokV 0 ⟨#[]⟩ 0 0, spotV 5 p]) (by simp [results, Tryz.results48, go_sem, c0, c1, c2, c3, d0, d1, tokV, spotV]) rfl ⟨by rw [HRES.out], ⟨_, Blk.below (HD9).out HB6 hlt, HRN.out⟩, bx_more (HX9).out HB6⟩
              · have hvI : ¬ (9223372036854775808 : Int) < v := by omega
                have HRES := Lib.hid (show anT (numR p q v (c == 48)) = .tuple #[tokV 3 ⟨#[]⟩ v p, spotV 0 0] by rw [HNUM.out, if_neg hv63]; rfl)
                have HRN := Lib.hid (show ∀ m, anQ (numR p q v (c == 48)) = some m → q = m by rw [HNUM.out, if_neg hv63]; intro m hm; exact Option.some.inj hm)
                clear hv63 hv
                obtain ⟨d0, d1, d2, d3⟩ := cell2b HB8'.out
                obtain ⟨b0, b1, b2, b3⟩ := cell4b HA8'.out
                have e0 := (HA8'.out).frozen 0
                have e1 := (HA8'.out).frozen 1
                have e2 := (HA8'.out).frozen 2
                have e3 := (HA8'.out).frozen 3
                go_wp2
                obtain ⟨hA, hB⟩ := two_set HA8'.out HB8'.out (by omega) (.int .u8 3) (.string ⟨#[]⟩) (.int .u64 v) (.int .i64 p) (.int .i64 0) (.int .i64 0)
                have HB6 := two_below (g := w.heap.size) (h := w.heap.size + 1) (Below.refl w.heap.size w3) (Nat.le_refl _) (Nat.le_succ _) (.int .u8 3) (.string ⟨#[]⟩) (.int .u64 v) (.int .i64 p) (.int .i64 0) (.int .i64 0)
                clear d0 d1 d2 d3 b0 b1 b2 b3 e0 e1 e2 e3
                obtain ⟨d0, d1, _, _⟩ := cell2b hB
                obtain ⟨c0, c1, c2, c3⟩ := cell4b hA
                exact bodyPost_ret (v := .tuple #[tokV 3 ⟨#[]⟩ v p, spotV 0 0]) (by simp [results, Tryz.results48, go_sem, c0, c1, c2, c3, d0, d1, tokV, spotV]) rfl ⟨by rw [HRES.out], ⟨_, Blk.below (HD8').out HB6 hlt, HRN.out⟩, bx_more (HX8').out HB6⟩
            · have HA8' := Lib.hid (Blk.below HA8.out hb3 (Blk.lt HA8.out))
              have HB8' := Lib.hid (Blk.below HB8.out hb3 (Blk.lt HB8.out))
              have HD8' := Lib.hid (rd_step HD8.out hb3)
              have HX8' := Lib.hid (bx_later HX8.out hb3)
              clear hb3 HA8 HB8 HD8 HX8
              have hv63 : 9223372036854775808 < v := by omega
              have HRES := Lib.hid (show anT (numR p q v (c == 48)) = .tuple #[tokV 0 ⟨#[]⟩ 0 0, spotV 5 p] by rw [HNUM.out, if_pos hv63]; rfl)
              have HRN := Lib.hid (show ∀ m, anQ (numR p q v (c == 48)) = some m → q = m by rw [HNUM.out, if_pos hv63]; intro m hm; cases hm)
              clear hv63 hv
              go_wp2_with fail
              refine (wrong_any 5 p _).mono ?_
              rintro e w9 ⟨rfl, hb9⟩
              have HA9 := Lib.hid (Blk.below HA8'.out hb9 (Blk.lt HA8'.out))
              have HB9 := Lib.hid (Blk.below HB8'.out hb9 (Blk.lt HB8'.out))
              have HD9 := Lib.hid (rd_step HD8'.out hb9)
              have HX9 := Lib.hid (bx_later HX8'.out hb9)
              clear hb9
              obtain ⟨d0, d1, d2, d3⟩ := cell2b HB9.out
              obtain ⟨b0, b1, b2, b3⟩ := cell4b HA9.out
              have e0 := (HA9.out).frozen 0
              have e1 := (HA9.out).frozen 1
              have e2 := (HA9.out).frozen 2
              have e3 := (HA9.out).frozen 3
              unfold tokV spotV
              go_wp2
              obtain ⟨hA, hB⟩ := two_set HA9.out HB9.out (by omega) (.int .u8 0) (.string ⟨#[]⟩) (.int .u64 0) (.int .i64 0) (.int .i64 5) (.int .i64 p)
              have HB6 := two_below (g := w.heap.size) (h := w.heap.size + 1) (Below.refl w.heap.size w9) (Nat.le_refl _) (Nat.le_succ _) (.int .u8 0) (.string ⟨#[]⟩) (.int .u64 0) (.int .i64 0) (.int .i64 5) (.int .i64 p)
              clear d0 d1 d2 d3 b0 b1 b2 b3 e0 e1 e2 e3
              obtain ⟨d0, d1, _, _⟩ := cell2b hB
              obtain ⟨c0, c1, c2, c3⟩ := cell4b hA
              exact bodyPost_ret (v := .tuple #[tokV 0 ⟨#[]⟩ 0 0, spotV 5 p]) (by simp [results, Tryz.results48, go_sem, c0, c1, c2, c3, d0, d1, tokV, spotV]) rfl ⟨by rw [HRES.out], ⟨_, Blk.below (HD9).out HB6 hlt, HRN.out⟩, bx_more (HX9).out HB6⟩

end Go.Proofs.YtibnmkjabpoppaaGreatDoor
