/- record.Take's row lies in a block of values. Conditions: those of each lemma. -/
import Derived.Test.YtocbdehcjcggeaaRecT3
namespace Go.Proofs.Ytocbdehcjcggeaa
open Go.RowKit Go
set_option linter.unusedVariables false
/-- a row that is not empty lies in a block of values -/
def ValT (W : World) (A : Option Addr) (l : List Val) : Prop := l = [] ∨ ∃ b o cs, A = some ⟨b, o, none⟩ ∧ Blk W b 56 cs
def TakeT (L : List Nat) (w : World) (e : Ending) (w' : World) : Prop :=
  ∃ (A : Option Addr) (n c : Nat) (er : Int) (l : List Val), e = .returned (.tuple #[.slice A n c, .int .i64 er]) ∧ Vals w' w'.heap.size A l ∧ n = l.length ∧ n ≤ 16 ∧ (∀ x ∈ l, Fits x) ∧ Below w.heap.size w w' ∧
    ((takeR L = none ∧ l = [] ∧ er = 7) ∨ (takeR L = some l ∧ er = 0)) ∧ ValT w' A l
theorem takeT_none {L : List Nat} {w w' : World} (h : takeR L = none) (hb : Below w.heap.size w w') : TakeT L w (.returned (.tuple #[.slice none 0 0, .int .i64 7])) w' :=
  ⟨none, 0, 0, 7, [], rfl, .inl rfl, rfl, by omega, (fun x hx => by cases hx), hb, .inl ⟨h, rfl, rfl⟩, .inl rfl⟩
theorem takeT_some {L : List Nat} {w w' : World} {g m : Nat} {l : List Val} (h : takeR L = some l) (hr : RowB w' g l) (hm : m = l.length) (h16 : m ≤ 16) (hf : ∀ x ∈ l, Fits x) (hb : Below w.heap.size w w') : TakeT L w (.returned (.tuple #[.slice (some ⟨g, 0, none⟩) m m, .int .i64 0])) w' :=
  ⟨_, m, m, 0, l, rfl, rowB_vals hr, hm, h16, hf, hb, .inr ⟨h, rfl⟩, .inr (hr.elim fun cs hcs => ⟨g, 0, cs, rfl, hcs.1⟩)⟩
set_option maxRecDepth 100000 in
set_option maxHeartbeats 1000000 in
theorem take_emptyT (w : World) : Calls Try.prog 66 #[.string ⟨#[]⟩] w (TakeT [] w) := by
  have HP := Lib.hid (takeT_none (w := w) (w' := w) (takeR_head (L := []) (.inl rfl)) (Below.refl _ _))
  go_enter Try.func66, Try.ntmps66
  go_wp2
  go_ret2
  exact HP.out
set_option maxRecDepth 100000 in
set_option maxHeartbeats 1000000 in
theorem take_headT (s : ByteArray) (m : Nat) (w : World) (h1 : 1 ≤ s.size) (hm : (bts s).getD 0 0 = m) (h : 16 < m ∨ m ≤ 16 ∧ 4000 < s.size) :
    Calls Try.prog 66 #[.string s] w (TakeT (bts s) w) := by
  have HP := Lib.hid (takeT_none (w := w) (w' := w) (takeR_head (L := bts s) (by rw [hm, bts_length]; omega)) (Below.refl _ _))
  have h0I : 0 < s.size := by omega
  have hb0 := byte_at s 0 h0I
  rw [hm] at hb0
  have hs1 := str_no (s := s) (by omega)
  have hs2 : s.toList.isEmpty = false := by
    cases hh : s.toList with
    | nil => exact absurd hh hs1
    | cons a l => rfl
  have h1I : (1 : Int) ≤ s.size := by omega
  rcases h with h | ⟨h, h'⟩
  · have hI : (16 : Int) < m := by omega
    clear h hm h1
    go_enter Try.func66, Try.ntmps66
    go_wp2
    go_ret2
    exact HP.out
  · have hI : (m : Int) ≤ 16 := by omega
    have h'I : (4000 : Int) < s.size := by omega
    clear h h' hm h1
    go_enter Try.func66, Try.ntmps66
    go_wp2
    go_ret2
    exact HP.out
set_option maxRecDepth 100000 in
set_option maxHeartbeats 8000000 in
theorem take_mainT (s : ByteArray) (m : Nat) (w : World) (h1 : 1 ≤ s.size) (hm : (bts s).getD 0 0 = m) (h16 : m ≤ 16) (h4 : s.size ≤ 4000) :
    Calls Try.prog 66 #[.string s] w (TakeT (bts s) w) := by
  have HH : Hid (¬ (bts s = [] ∨ 16 < (bts s).getD 0 0 ∨ 4000 < (bts s).length)) := Lib.hid (by
    rw [hm, bts_length]
    rintro (h | h | h)
    · have := bts_length s; rw [h] at this; simp at this; omega
    · omega
    · omega)
  have h0I : 0 < s.size := by omega
  have hb0 := byte_at s 0 h0I
  rw [hm] at hb0
  have hs1 := str_no (s := s) (by omega)
  have hs2 : s.toList.isEmpty = false := by
    cases hh : s.toList with
    | nil => exact absurd hh hs1
    | cons a l => rfl
  have h1I : (1 : Int) ≤ s.size := by omega
  have hI : (m : Int) ≤ 16 := by omega
  have h4I : (s.size : Int) ≤ 4000 := by omega
  have HM := Lib.hid hm
  obtain ⟨iu, hu1, hu2, hu3, hu4⟩ := info_parts (show (Try.prog.info? 53).map (fun i => (i.zero, i.size, i.bytes)) = some (some (.int .u64 0), 1, 8) by kernel_rfl)
  obtain ⟨iv, hv1, hv2, hv3, hv4⟩ := info_parts (show (Try.prog.info? 56).map (fun i => (i.zero, i.size, i.bytes)) = some (some (.agg #[.int .u8 0, .int .i64 0, .string ⟨#[]⟩]), 3, 32) by kernel_rfl)
  have hmk1 : ∀ W, (Instr.makeSlice 104 (.int .u8 m) (.int .u8 m)).run Try.prog W = .ok (.slice (some ⟨W.heap.size, 0, none⟩) m m) (W.alloc (.cells (tagC (List.replicate m 0)) 53)) := fun W => by
    have hr := run_make (P := Try.prog) W 104 53 iu (.int .u64 0) Try.underlying104 hu1 hu2 .u8 .u8 m m (by omega) (Int.le_refl _) (by rw [hu4]; omega) (by omega)
    rw [hu3] at hr
    simp only [Int.toNat_natCast, Nat.mul_one] at hr
    rw [hr, show (Value.int .u64 0).cells = #[.int .u64 0] from rfl, tagC_new]
  have hmk2 : ∀ W, (Instr.makeSlice 31 (.int .i64 m) (.int .i64 m)).run Try.prog W = .ok (.slice (some ⟨W.heap.size, 0, none⟩) m m) (W.alloc (.cells (madeCells #[.int .u8 0, .int .i64 0, .string ⟨#[]⟩] (m * 3)) 56)) := fun W => by
    have hr := run_make (P := Try.prog) W 31 56 iv _ Try.underlying31 hv1 hv2 .i64 .i64 m m (by omega) (Int.le_refl _) (by rw [hv4]; omega) (by omega)
    rw [hv3] at hr
    simp only [Int.toNat_natCast] at hr
    exact hr
  have hst : St1 w m ((bts s).drop 1) 0 (s.extract 1 s.size) true (List.replicate m 0) (((w.alloc (.cells #[.string (s.extract 1 s.size)] 9)).alloc (.cells #[.bool true] 4)).alloc (.cells (tagC (List.replicate m 0)) 53)) := by
    refine ⟨tk_step (W := (w.alloc (.cells #[.string (s.extract 1 s.size)] 9)).alloc (.cells #[.bool true] 4)) ⟨(Blk.new _ _ _).alloc _, blk_new _ _ _ _ (by simp), hb2, Nat.le_refl _, by omega, by omega⟩ ((Below.refl _ _).alloc (Nat.le_refl _) _), blk_new _ _ _ _ (by simp), by simp, by rw [ByteArray.size_extract]; omega, fun t ht => by rw [(List.mem_replicate.1 ht).2]; omega, ⟨fun _ => by rw [bts_cutr]; simp, fun e => by simp at e⟩⟩
  have HST := Lib.hid hst
  have HMK2 := Lib.hid hmk2
  clear hst hm h1 h16 h4 hmk2
  go_enter Try.func66, Try.ntmps66
  go_wp2
  go_loopw [34] (fun i wr => ∃ (j : Nat) (x : ByteArray) (b : Bool) (ts : List Nat), j ≤ m ∧ i = .int .i64 j ∧ St1 w m ((bts s).drop 1) j x b ts wr) (fun i _ => m - (intOf i).toNat)
  case atStart => exact ⟨0, _, _, _, by omega, rfl, HST.out⟩
  case round =>
    clear HST
    obtain ⟨j, x, b, ts, hj, rfl, hs⟩ := hrel
    by_cases hjm : j < m
    · obtain ⟨n, x', b', hn, hc⟩ := st1_short hs hjm
      have HC := Lib.hid hc
      have HNL := Lib.hid hn
      clear hc hs hn
      go_wp2_with fail
      refine (HC.out).mono ?_
      rintro e w2 ⟨rfl, ⟨c1, f1⟩, h2⟩
      have H2 := Lib.hid h2
      clear h2
      go_wp2
      go_roundw
      case rel => exact ⟨j + 1, x', b', _, by omega, by go_num, H2.out⟩
      case measure => simp [intOf]; omega
    · obtain rfl : j = m := by omega
      have hmk := HMK2.out wr
      have hts : ts.length = j := hs.2.2.1
      have htl := hs.2.2.2.2.1
      have hgr : w.heap.size + 1 + 1 < wr.heap.size := hs.2.1.lt
      have HS2 := Lib.hid (st2_start hs HM.out)
      have HGR := Lib.hid hgr
      have HTS := Lib.hid hts
      have HTL := Lib.hid htl
      clear hs hgr hts htl HMK2 hmk1 hjm hj
      go_wp2
      go_loopw [48] (fun i W => ∃ (k : Nat) (x : ByteArray) (b : Bool) (l : List Val), k ≤ j ∧ i = .int .i64 k ∧ St2 w j (bts s) ts wr.heap.size k x b l W) (fun i _ => j - (intOf i).toNat)
      case atStart => exact ⟨0, _, _, _, by omega, rfl, HS2.out⟩
      case round =>
        clear HS2 hmk
        obtain ⟨k, x, b, l, hk, rfl, hs⟩ := hrel
        by_cases hkm : k < j
        · have ctag := st2_tag hs hkm HTS.out
          have htl : ts.getD k 0 < 18446744073709551616 := by
            rw [List.getD_eq_getElem?_getD, List.getElem?_eq_getElem (by rw [HTS.out]; exact hkm)]
            exact HTL.out _ (List.getElem_mem _)
          have HTJ := Lib.hid (rfl : ts.getD k 0 = ts.getD k 0)
          generalize htt : ts.getD k 0 = t at ctag htl
          by_cases t0 : t = 0
          · subst t0
            have HS := Lib.hid (st2_zero hs hkm HTS.out htt)
            clear hs htt htl HTJ
            go_wp2
            go_roundw
            case rel => exact ⟨k + 1, x, b, l, by omega, by go_num, HS.out⟩
            case measure => simp [intOf]; omega
          · by_cases t1 : t = 1
            · subst t1
              obtain ⟨n, x', b', l', hn, hc⟩ := st2_short hs hkm HGR.out HTS.out htt
              have HC := Lib.hid hc
              have hu := fun W => unfold_any n W hn
              generalize unfoldZ n = z at *
              have HU := Lib.hid hu
              clear hs htt htl HTJ hc hn hu t0
              go_wp2_with fail
              refine (HC.out).mono ?_
              rintro e w2 ⟨rfl, ⟨va, vb, vc, c1, c2, c3, f1, f2, f3⟩, h2⟩
              have H2 := Lib.hid h2
              clear h2
              go_wp2_with fail
              refine (HU.out _).mono ?_
              rintro e w3 ⟨rfl, rfl⟩
              go_wp2
              go_roundw
              case rel => exact ⟨k + 1, x', b', l', by omega, by go_num, H2.out⟩
              case measure => simp [intOf]; omega
            · obtain ⟨Y, x', b', l', hc⟩ := st2_bytes hs hkm HGR.out HTS.out htt (by omega) rfl
              have HC := Lib.hid hc
              have e0 : ((t : Int) == 0) = false := by rw [beq_eq_false_iff_ne]; omega
              have e1 : ((t : Int) == 1) = false := by rw [beq_eq_false_iff_ne]; omega
              have t2 : (2 : Int) ≤ t := by omega
              by_cases hp : t % 2 = 0
              · have e2 : ((t : Int) % 2 == 0) = true := by rw [beq_iff_eq]; omega
                have e3 : ((t : Int) - 2) / 2 = ((t / 2 - 1 : Nat) : Int) := by omega
                have ev : ((2 + t % 2 : Nat) : Int) = 2 := by omega
                rw [ev] at HC
                have HTL3 := Lib.hid htl
                generalize ((t / 2 - 1 : Nat) : Int) = K at *
                generalize hT : (t : Int) = T at *
                have tT : T < 18446744073709551616 := by have := HTL3.out; omega
                clear hs htt htl HTJ hc t0 t1 hp ev HTL3 hT
                go_wp2_with fail
                refine (HC.out).mono ?_
                rintro e w2 ⟨rfl, ⟨va, vb, vc, c1, c2, c3, f1, f2, f3⟩, h2⟩
                have H2 := Lib.hid h2
                clear h2
                go_wp2
                go_roundw
                case rel => exact ⟨k + 1, x', b', l', by omega, by go_num, H2.out⟩
                case measure => simp [intOf]; omega
              · have e2 : ((t : Int) % 2 == 0) = false := by rw [beq_eq_false_iff_ne]; omega
                have e3 : ((t : Int) - 3) / 2 = ((t / 2 - 1 : Nat) : Int) := by omega
                have t3 : (3 : Int) ≤ t := by omega
                have ev : ((2 + t % 2 : Nat) : Int) = 3 := by omega
                rw [ev] at HC
                have HTL3 := Lib.hid htl
                generalize ((t / 2 - 1 : Nat) : Int) = K at *
                generalize hT : (t : Int) = T at *
                have tT : T < 18446744073709551616 := by have := HTL3.out; omega
                clear hs htt htl HTJ hc t0 t1 hp ev HTL3 hT
                go_wp2_with fail
                refine (HC.out).mono ?_
                rintro e w2 ⟨rfl, ⟨va, vb, vc, c1, c2, c3, f1, f2, f3⟩, h2⟩
                have H2 := Lib.hid h2
                clear h2
                go_wp2
                go_roundw
                case rel => exact ⟨k + 1, x', b', l', by omega, by go_num, H2.out⟩
                case measure => simp [intOf]; omega
        · obtain rfl : k = j := by omega
          have hlen : l.length = k := hs.2.2.2.1
          have hend := takeR_end (by rw [hlen]; exact hs.2.2.2.2.2) (by rw [hlen]; exact HTS.out) HH.out
          have hbel := hs.1.2.2.1
          obtain ⟨c1, c2, _, _⟩ := tkS hs.1
          have hrow := hs.2.2.1
          have hfit := hs.2.2.2.2.2.2.2
          have hck := rcheck_any _ l k k _ (rowB_vals hrow) hlen.symm hfit
          have HCK := Lib.hid hck
          have HB := Lib.hid hbel
          have HROW := Lib.hid hrow
          have HFIT := Lib.hid hfit
          have HL := Lib.hid hlen
          cases b
          · have HT := Lib.hid (takeT_none (w := w) (by rw [hend]; simp) hbel)
            clear hend hbel hrow hfit hck hlen hs
            go_wp2
            go_ret2
            exact HT.out
          · by_cases hx : x.size = 0
            · obtain rfl := empty_of hx
              rw [show (bstr [] : ByteArray) = ⟨#[]⟩ from rfl] at *
              have h16 : k ≤ 16 := by omega
              have hcc : chkR l = chkL l := by unfold chkR; rw [if_neg (by omega)]
              by_cases hc : chkR l = 0
              · have HT := Lib.hid (show takeR (bts s) = some l by rw [hend, if_pos ⟨rfl, rfl, by rw [← hcc]; exact hc⟩])
                rw [hc] at HCK
                clear hend hbel hrow hfit hck hlen hs hx hc hcc
                go_wp2_with fail
                refine (HCK.out).mono ?_
                rintro e w2 ⟨rfl, hb2⟩
                go_wp2
                go_ret2
                exact takeT_some HT.out (rowB_step HROW.out hb2) HL.out.symm h16 HFIT.out (bj HB.out hb2)
              · have HT := Lib.hid (show takeR (bts s) = none by rw [hend, if_neg (fun h => hc (by rw [hcc]; exact h.2.2))])
                have hne : (chkR l != 0) = true := by rw [bne_iff_ne]; exact hc
                generalize chkR l = E at *
                clear hend hbel hrow hfit hck hlen hs hx hc hcc
                go_wp2_with fail
                refine (HCK.out).mono ?_
                rintro e w2 ⟨rfl, hb2⟩
                go_wp2
                go_ret2
                exact takeT_none HT.out (bj HB.out hb2)
            · have HT := Lib.hid (takeT_none (w := w) (by rw [hend, if_neg (fun h => hx h.2.1)]) hbel)
              have e1 := str_no hx
              have e2 : x.toList.isEmpty = false := by
                cases hh : x.toList with
                | nil => exact absurd hh e1
                | cons a l => rfl
              clear hend hbel hrow hfit hck hlen hs hx
              go_wp2
              go_ret2
              exact HT.out
theorem rtake_t (s : ByteArray) (w : World) : Calls Try.prog 66 #[.string s] w (TakeT (bts s) w) := by
  by_cases h0 : s.size = 0
  · obtain rfl := empty_of h0
    exact take_emptyT w
  · by_cases hm : (bts s).getD 0 0 ≤ 16
    · by_cases h4 : s.size ≤ 4000
      · exact take_mainT s _ w (by omega) rfl hm h4
      · exact take_headT s _ w (by omega) rfl (.inr ⟨hm, by omega⟩)
    · exact take_headT s _ w (by omega) rfl (.inl (by omega))
end Go.Proofs.Ytocbdehcjcggeaa
