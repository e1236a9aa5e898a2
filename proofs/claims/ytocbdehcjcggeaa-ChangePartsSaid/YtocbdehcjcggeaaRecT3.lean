/- record.Take. Condition: the text is no longer than a machine has addresses. -/
import Derived.Test.YtocbdehcjcggeaaProg
import Derived.Test.YtocbdehcjcggeaaRecT2
import Derived.Test.YtocbdehcjcggeaaNumFold
namespace Go.Proofs.Ytocbdehcjcggeaa
open Go.RowKit
set_option linter.unusedVariables false
set_option maxRecDepth 100000 in
set_option maxHeartbeats 1000000 in
theorem take_empty (w : World) : Calls Try.prog 66 #[.string ⟨#[]⟩] w (TakeP [] w) := by
  have HP := Lib.hid (takeP_none (w := w) (w' := w) (takeR_head (L := []) (.inl rfl)) (Below.refl _ _))
  go_enter Try.func66, Try.ntmps66
  go_wp2
  go_ret2
  exact HP.out
set_option maxRecDepth 100000 in
set_option maxHeartbeats 1000000 in
theorem take_head (s : ByteArray) (m : Nat) (w : World) (h1 : 1 ≤ s.size) (hm : (bts s).getD 0 0 = m) (h : 16 < m ∨ m ≤ 16 ∧ 4000 < s.size) :
    Calls Try.prog 66 #[.string s] w (TakeP (bts s) w) := by
  have HP := Lib.hid (takeP_none (w := w) (w' := w) (takeR_head (L := bts s) (by rw [hm, bts_length]; omega)) (Below.refl _ _))
  have h0I : 0 < s.size := by omega
  have hb0 := byte_at s 0 h0I
  rw [hm] at hb0
  have hs1 := str_no (s := s) (by omega)
  have hs2 : s.toList.isEmpty = false := by
    cases hh : s.toList with
    | nil => exact absurd hh hs1
    | cons a l => rfl
  have h1I : (1 : Int) ≤ s.size := by omega
  rcases h with h | ⟨h, h'⟩
  · have hI : (16 : Int) < m := by omega
    clear h hm h1
    go_enter Try.func66, Try.ntmps66
    go_wp2
    go_ret2
    exact HP.out
  · have hI : (m : Int) ≤ 16 := by omega
    have h'I : (4000 : Int) < s.size := by omega
    clear h h' hm h1
    go_enter Try.func66, Try.ntmps66
    go_wp2
    go_ret2
    exact HP.out
theorem tk_far {w W : World} {gl gk g : Nat} {x : ByteArray} {b : Bool} (i : Nat) (v : Value) (h : Tk w gl gk x b W) (h1 : g ≠ gl) (h2 : g ≠ gk) (h3 : w.heap.size ≤ g) : Tk w gl gk x b (W.setCell ⟨g, i, none⟩ v) :=
  ⟨h.1.far (by simpa using fun e => h1 e.symm) _, h.2.1.far (by simpa using fun e => h2 e.symm) _, h.2.2.1.setCell h3 _, h.2.2.2⟩
def St1 (w : World) (m : Nat) (L1 : List Nat) (j : Nat) (x : ByteArray) (b : Bool) (ts : List Nat) (W : World) : Prop :=
  Tk w w.heap.size (w.heap.size + 1) x b W ∧ Blk W (w.heap.size + 1 + 1) 53 (tagC ts) ∧ ts.length = m ∧ x.size ≤ 4000 ∧ (∀ t ∈ ts, t < 18446744073709551616) ∧ PT m L1 j x b ts
def St2 (w : World) (m : Nat) (L ts : List Nat) (gr j : Nat) (x : ByteArray) (b : Bool) (l : List Val) (W : World) : Prop :=
  Tk w w.heap.size (w.heap.size + 1) x b W ∧ Blk W (w.heap.size + 1 + 1) 53 (tagC ts) ∧ RowB W gr l ∧ l.length = m ∧ x.size ≤ 4000 ∧ PB L ts j x b l
theorem extract_le (x : ByteArray) (k : Nat) (h : x.size ≤ 4000) : (x.extract k x.size).size ≤ 4000 := by rw [ByteArray.size_extract]; omega
theorem st1_short {w W : World} {m j : Nat} {L1 : List Nat} {x : ByteArray} {b : Bool} {ts : List Nat} (h : St1 w m L1 j x b ts W) (hj : j < m) :
    ∃ (n : Nat) (x' : ByteArray) (b' : Bool), n < 18446744073709551616 ∧ Calls Try.prog 90 #[.pointer (some ⟨w.heap.size, 0, none⟩), .pointer (some ⟨w.heap.size + 1, 0, none⟩)] W fun e w' => e = .returned (.int .u64 n) ∧
      (w'.cell? ⟨w.heap.size + 1 + 1, j, none⟩ = some (.int .u64 (ts.getD j 0 : Nat)) ∧ w'.frozen? ⟨w.heap.size + 1 + 1, j, none⟩ = false) ∧ St1 w m L1 (j + 1) x' b' (ts.set j n) (w'.setCell ⟨w.heap.size + 1 + 1, j, none⟩ (.int .u64 n)) := by
  obtain ⟨h1, h2, h3, h4, h5, h6⟩ := h
  have hb := takeS_le (bts_lt x)
  refine ⟨_, x.extract (takeS (bts x)).2.1 x.size, b && decide ((takeS (bts x)).2.2 = 0), hb.2, (short_tk h1 h4).mono fun e w' he => ⟨he.1, ?_, ?_⟩⟩
  · have hb2 := he.2.2.2 _ _ _ (by omega) (by omega) h2
    refine ⟨?_, hb2.frozen _⟩
    rw [hb2.cell, tagC_get ts j (by omega)]
    simp [List.getD_eq_getElem?_getD, show j < ts.length from by omega]
  · have hb2 := he.2.2.2 _ _ _ (by omega) (by omega) h2
    refine ⟨tk_far _ _ he.2.1 (by omega) (by omega) (by omega), ?_, by simpa using h3, extract_le _ _ h4, fun t ht => ?_, pt_step h6 hj h3⟩
    · have h := hb2.set_ j (.int .u64 ((takeS (bts x)).1 : Nat))
      rwa [tagC_set] at h
    · rcases List.mem_or_eq_of_mem_set ht with ht | rfl
      · exact h5 t ht
      · exact hb.2
/-- behind a closure's call, the row's element may be stored -/
def Af (w : World) (m : Nat) (L ts : List Nat) (gr j : Nat) (x' : ByteArray) (b' : Bool) (l' : List Val) (v : Val) (w' : World) : Prop :=
  (∃ a b c, w'.cell? ⟨gr, j * 3, none⟩ = some (.int .u8 a) ∧ w'.cell? ⟨gr, j * 3 + 1, none⟩ = some (.int .i64 b) ∧ w'.cell? ⟨gr, j * 3 + 2, none⟩ = some (.string c) ∧
    w'.frozen? ⟨gr, j * 3, none⟩ = false ∧ w'.frozen? ⟨gr, j * 3 + 1, none⟩ = false ∧ w'.frozen? ⟨gr, j * 3 + 2, none⟩ = false) ∧ St2 w m L ts gr (j + 1) x' b' l' (set3 w' gr (j * 3) v)
theorem af_of {w W w' : World} {m gr j : Nat} {L ts : List Nat} {x x' : ByteArray} {b b' : Bool} {l : List Val} {v : Val} (h : St2 w m L ts gr j x b l W) (hj : j < m) (hgr : w.heap.size + 1 + 1 < gr)
    (ht : Tk w w.heap.size (w.heap.size + 1) x' b' w') (hk : Kp w.heap.size (w.heap.size + 1) W w') (hx : x'.size ≤ 4000) (hp : PB L ts (j + 1) x' b' (l.set j v)) : Af w m L ts gr j x' b' (l.set j v) v w' := by
  obtain ⟨h1, h2, h3, h4, h5, h6⟩ := h
  have hr := rowB_kp h3 hk (by omega) (by omega)
  have hb := hk.2 _ _ _ (by omega) (by omega) h2
  exact ⟨rowB_at hr (by omega), tk_set3 _ _ ht (by omega) (by omega) (by omega), set3_kp _ _ _ _ hb (by omega), rowB_set v hr (by omega), by simpa using h4, hx, hp⟩
theorem st2_short {w W : World} {m gr j : Nat} {L ts : List Nat} {x : ByteArray} {b : Bool} {l : List Val} (h : St2 w m L ts gr j x b l W) (hj : j < m) (hgr : w.heap.size + 1 + 1 < gr) (hts : ts.length = m) (h1 : ts.getD j 0 = 1) :
    ∃ (n : Nat) (x' : ByteArray) (b' : Bool) (l' : List Val), n < 18446744073709551616 ∧ Calls Try.prog 90 #[.pointer (some ⟨w.heap.size, 0, none⟩), .pointer (some ⟨w.heap.size + 1, 0, none⟩)] W fun e w' => e = .returned (.int .u64 n) ∧
      Af w m L ts gr j x' b' l' (1, unfoldZ n, ⟨#[]⟩) w' := by
  have hl := h.2.2.2.1
  refine ⟨_, _, _, _, (takeS_le (bts_lt x)).2, (short_tk h.1 h.2.2.2.2.1).mono fun e w' he => ⟨he.1, af_of h hj hgr he.2.1 he.2.2 (extract_le _ _ h.2.2.2.2.1) (pb_short h.2.2.2.2.2 (by omega) (by omega) ?_)⟩⟩
  rw [← h1]
  simp [List.getD_eq_getElem?_getD, show j < ts.length from by omega]
theorem st2_bytes {w W : World} {m gr j t k : Nat} {L ts : List Nat} {x : ByteArray} {b : Bool} {l : List Val} (h : St2 w m L ts gr j x b l W) (hj : j < m) (hgr : w.heap.size + 1 + 1 < gr) (hts : ts.length = m) (h1 : ts.getD j 0 = t) (h2 : 2 ≤ t) (hk : t / 2 - 1 = k) :
    ∃ (Y : ByteArray) (x' : ByteArray) (b' : Bool) (l' : List Val), Calls Try.prog 91 #[.int .u64 k, .pointer (some ⟨w.heap.size, 0, none⟩), .pointer (some ⟨w.heap.size + 1, 0, none⟩)] W fun e w' => e = .returned (.string Y) ∧
      Af w m L ts gr j x' b' l' (((2 + t % 2 : Nat) : Int), 0, Y) w' := by
  subst hk
  have hl := h.2.2.2.1
  have htj : ts[j]'(by omega) = t := by
    rw [← h1]
    simp [List.getD_eq_getElem?_getD, show j < ts.length from by omega]
  by_cases hn : t / 2 - 1 ≤ x.size
  · exact ⟨_, _, _, _, (bytes_tk _ h.1 h.2.2.2.2.1 hn).mono fun e w' he => ⟨he.1, af_of h hj hgr he.2.1 he.2.2 (extract_le _ _ h.2.2.2.2.1) (pb_bytes h.2.2.2.2.2 (by omega) (by omega) htj h2 hn)⟩⟩
  · exact ⟨_, _, _, _, (bytes_no _ h.1 h.2.2.2.2.1 (by omega)).mono fun e w' he => ⟨he.1, af_of h hj hgr he.2.1 he.2.2 h.2.2.2.2.1 (pb_none h.2.2.2.2.2 (by omega) (by omega) htj h2 (by omega))⟩⟩
theorem st2_zero {w W : World} {m gr j : Nat} {L ts : List Nat} {x : ByteArray} {b : Bool} {l : List Val} (h : St2 w m L ts gr j x b l W) (hj : j < m) (hts : ts.length = m) (h1 : ts.getD j 0 = 0) : St2 w m L ts gr (j + 1) x b l W := by
  have hl := h.2.2.2.1
  refine ⟨h.1, h.2.1, h.2.2.1, h.2.2.2.1, h.2.2.2.2.1, pb_zero h.2.2.2.2.2 (by omega) (by omega) ?_⟩
  rw [← h1]
  simp [List.getD_eq_getElem?_getD, show j < ts.length from by omega]
theorem st2_tag {w W : World} {m gr j : Nat} {L ts : List Nat} {x : ByteArray} {b : Bool} {l : List Val} (h : St2 w m L ts gr j x b l W) (hj : j < m) (hts : ts.length = m) : W.cell? ⟨w.heap.size + 1 + 1, j, none⟩ = some (.int .u64 (ts.getD j 0 : Nat)) := by
  rw [h.2.1.cell, tagC_get ts j (by omega)]
  simp [List.getD_eq_getElem?_getD, show j < ts.length from by omega]
theorem st2_start {w W : World} {m : Nat} {s x : ByteArray} {b : Bool} {ts : List Nat} (h : St1 w m ((bts s).drop 1) m x b ts W) (hm : (bts s).getD 0 0 = m) :
    St2 w m (bts s) ts W.heap.size 0 x b (List.replicate m zeroV) (W.alloc (.cells (madeCells #[.int .u8 0, .int .i64 0, .string ⟨#[]⟩] (m * 3)) 56)) := by
  obtain ⟨h1, h2, h3, h4, h5, h6⟩ := h
  exact ⟨tk_step h1 ((Below.refl _ _).alloc (Nat.le_refl _) _), h2.alloc _, rowB_new W m, by simp, h4, pb_start hm h6 h3⟩
set_option maxRecDepth 100000 in
set_option maxHeartbeats 8000000 in
theorem take_main (s : ByteArray) (m : Nat) (w : World) (h1 : 1 ≤ s.size) (hm : (bts s).getD 0 0 = m) (h16 : m ≤ 16) (h4 : s.size ≤ 4000) :
    Calls Try.prog 66 #[.string s] w (TakeP (bts s) w) := by
  have HH : Hid (¬ (bts s = [] ∨ 16 < (bts s).getD 0 0 ∨ 4000 < (bts s).length)) := Lib.hid (by
    rw [hm, bts_length]
    rintro (h | h | h)
    · have := bts_length s; rw [h] at this; simp at this; omega
    · omega
    · omega)
  have h0I : 0 < s.size := by omega
  have hb0 := byte_at s 0 h0I
  rw [hm] at hb0
  have hs1 := str_no (s := s) (by omega)
  have hs2 : s.toList.isEmpty = false := by
    cases hh : s.toList with
    | nil => exact absurd hh hs1
    | cons a l => rfl
  have h1I : (1 : Int) ≤ s.size := by omega
  have hI : (m : Int) ≤ 16 := by omega
  have h4I : (s.size : Int) ≤ 4000 := by omega
  have HM := Lib.hid hm
  obtain ⟨iu, hu1, hu2, hu3, hu4⟩ := info_parts (show (Try.prog.info? 53).map (fun i => (i.zero, i.size, i.bytes)) = some (some (.int .u64 0), 1, 8) by kernel_rfl)
  obtain ⟨iv, hv1, hv2, hv3, hv4⟩ := info_parts (show (Try.prog.info? 56).map (fun i => (i.zero, i.size, i.bytes)) = some (some (.agg #[.int .u8 0, .int .i64 0, .string ⟨#[]⟩]), 3, 32) by kernel_rfl)
  have hmk1 : ∀ W, (Instr.makeSlice 104 (.int .u8 m) (.int .u8 m)).run Try.prog W = .ok (.slice (some ⟨W.heap.size, 0, none⟩) m m) (W.alloc (.cells (tagC (List.replicate m 0)) 53)) := fun W => by
    have hr := run_make (P := Try.prog) W 104 53 iu (.int .u64 0) Try.underlying104 hu1 hu2 .u8 .u8 m m (by omega) (Int.le_refl _) (by rw [hu4]; omega) (by omega)
    rw [hu3] at hr
    simp only [Int.toNat_natCast, Nat.mul_one] at hr
    rw [hr, show (Value.int .u64 0).cells = #[.int .u64 0] from rfl, tagC_new]
  have hmk2 : ∀ W, (Instr.makeSlice 31 (.int .i64 m) (.int .i64 m)).run Try.prog W = .ok (.slice (some ⟨W.heap.size, 0, none⟩) m m) (W.alloc (.cells (madeCells #[.int .u8 0, .int .i64 0, .string ⟨#[]⟩] (m * 3)) 56)) := fun W => by
    have hr := run_make (P := Try.prog) W 31 56 iv _ Try.underlying31 hv1 hv2 .i64 .i64 m m (by omega) (Int.le_refl _) (by rw [hv4]; omega) (by omega)
    rw [hv3] at hr
    simp only [Int.toNat_natCast] at hr
    exact hr
  have hst : St1 w m ((bts s).drop 1) 0 (s.extract 1 s.size) true (List.replicate m 0) (((w.alloc (.cells #[.string (s.extract 1 s.size)] 9)).alloc (.cells #[.bool true] 4)).alloc (.cells (tagC (List.replicate m 0)) 53)) := by
    refine ⟨tk_step (W := (w.alloc (.cells #[.string (s.extract 1 s.size)] 9)).alloc (.cells #[.bool true] 4)) ⟨(Blk.new _ _ _).alloc _, blk_new _ _ _ _ (by simp), hb2, Nat.le_refl _, by omega, by omega⟩ ((Below.refl _ _).alloc (Nat.le_refl _) _), blk_new _ _ _ _ (by simp), by simp, by rw [ByteArray.size_extract]; omega, fun t ht => by rw [(List.mem_replicate.1 ht).2]; omega, ⟨fun _ => by rw [bts_cutr]; simp, fun e => by simp at e⟩⟩
  have HST := Lib.hid hst
  have HMK2 := Lib.hid hmk2
  clear hst hm h1 h16 h4 hmk2
  go_enter Try.func66, Try.ntmps66
  go_wp2
  go_loopw [34] (fun i wr => ∃ (j : Nat) (x : ByteArray) (b : Bool) (ts : List Nat), j ≤ m ∧ i = .int .i64 j ∧ St1 w m ((bts s).drop 1) j x b ts wr) (fun i _ => m - (intOf i).toNat)
  case atStart => exact ⟨0, _, _, _, by omega, rfl, HST.out⟩
  case round =>
    clear HST
    obtain ⟨j, x, b, ts, hj, rfl, hs⟩ := hrel
    by_cases hjm : j < m
    · obtain ⟨n, x', b', hn, hc⟩ := st1_short hs hjm
      have HC := Lib.hid hc
      have HNL := Lib.hid hn
      clear hc hs hn
      go_wp2_with fail
      refine (HC.out).mono ?_
      rintro e w2 ⟨rfl, ⟨c1, f1⟩, h2⟩
      have H2 := Lib.hid h2
      clear h2
      go_wp2
      go_roundw
      case rel => exact ⟨j + 1, x', b', _, by omega, by go_num, H2.out⟩
      case measure => simp [intOf]; omega
    · obtain rfl : j = m := by omega
      have hmk := HMK2.out wr
      have hts : ts.length = j := hs.2.2.1
      have htl := hs.2.2.2.2.1
      have hgr : w.heap.size + 1 + 1 < wr.heap.size := hs.2.1.lt
      have HS2 := Lib.hid (st2_start hs HM.out)
      have HGR := Lib.hid hgr
      have HTS := Lib.hid hts
      have HTL := Lib.hid htl
      clear hs hgr hts htl HMK2 hmk1 hjm hj
      go_wp2
      go_loopw [48] (fun i W => ∃ (k : Nat) (x : ByteArray) (b : Bool) (l : List Val), k ≤ j ∧ i = .int .i64 k ∧ St2 w j (bts s) ts wr.heap.size k x b l W) (fun i _ => j - (intOf i).toNat)
      case atStart => exact ⟨0, _, _, _, by omega, rfl, HS2.out⟩
      case round =>
        clear HS2 hmk
        obtain ⟨k, x, b, l, hk, rfl, hs⟩ := hrel
        by_cases hkm : k < j
        · have ctag := st2_tag hs hkm HTS.out
          have htl : ts.getD k 0 < 18446744073709551616 := by
            rw [List.getD_eq_getElem?_getD, List.getElem?_eq_getElem (by rw [HTS.out]; exact hkm)]
            exact HTL.out _ (List.getElem_mem _)
          have HTJ := Lib.hid (rfl : ts.getD k 0 = ts.getD k 0)
          generalize htt : ts.getD k 0 = t at ctag htl
          by_cases t0 : t = 0
          · subst t0
            have HS := Lib.hid (st2_zero hs hkm HTS.out htt)
            clear hs htt htl HTJ
            go_wp2
            go_roundw
            case rel => exact ⟨k + 1, x, b, l, by omega, by go_num, HS.out⟩
            case measure => simp [intOf]; omega
          · by_cases t1 : t = 1
            · subst t1
              obtain ⟨n, x', b', l', hn, hc⟩ := st2_short hs hkm HGR.out HTS.out htt
              have HC := Lib.hid hc
              have hu := fun W => unfold_any n W hn
              generalize unfoldZ n = z at *
              have HU := Lib.hid hu
              clear hs htt htl HTJ hc hn hu t0
              go_wp2_with fail
              refine (HC.out).mono ?_
              rintro e w2 ⟨rfl, ⟨va, vb, vc, c1, c2, c3, f1, f2, f3⟩, h2⟩
              have H2 := Lib.hid h2
              clear h2
              go_wp2_with fail
              refine (HU.out _).mono ?_
              rintro e w3 ⟨rfl, rfl⟩
              go_wp2
              go_roundw
              case rel => exact ⟨k + 1, x', b', l', by omega, by go_num, H2.out⟩
              case measure => simp [intOf]; omega
            · obtain ⟨Y, x', b', l', hc⟩ := st2_bytes hs hkm HGR.out HTS.out htt (by omega) rfl
              have HC := Lib.hid hc
              have e0 : ((t : Int) == 0) = false := by rw [beq_eq_false_iff_ne]; omega
              have e1 : ((t : Int) == 1) = false := by rw [beq_eq_false_iff_ne]; omega
              have t2 : (2 : Int) ≤ t := by omega
              by_cases hp : t % 2 = 0
              · have e2 : ((t : Int) % 2 == 0) = true := by rw [beq_iff_eq]; omega
                have e3 : ((t : Int) - 2) / 2 = ((t / 2 - 1 : Nat) : Int) := by omega
                have ev : ((2 + t % 2 : Nat) : Int) = 2 := by omega
                rw [ev] at HC
                have HTL3 := Lib.hid htl
                generalize ((t / 2 - 1 : Nat) : Int) = K at *
                generalize hT : (t : Int) = T at *
                have tT : T < 18446744073709551616 := by have := HTL3.out; omega
                clear hs htt htl HTJ hc t0 t1 hp ev HTL3 hT
                go_wp2_with fail
                refine (HC.out).mono ?_
                rintro e w2 ⟨rfl, ⟨va, vb, vc, c1, c2, c3, f1, f2, f3⟩, h2⟩
                have H2 := Lib.hid h2
                clear h2
                go_wp2
                go_roundw
                case rel => exact ⟨k + 1, x', b', l', by omega, by go_num, H2.out⟩
                case measure => simp [intOf]; omega
              · have e2 : ((t : Int) % 2 == 0) = false := by rw [beq_eq_false_iff_ne]; omega
                have e3 : ((t : Int) - 3) / 2 = ((t / 2 - 1 : Nat) : Int) := by omega
                have t3 : (3 : Int) ≤ t := by omega
                have ev : ((2 + t % 2 : Nat) : Int) = 3 := by omega
                rw [ev] at HC
                have HTL3 := Lib.hid htl
                generalize ((t / 2 - 1 : Nat) : Int) = K at *
                generalize hT : (t : Int) = T at *
                have tT : T < 18446744073709551616 := by have := HTL3.out; omega
                clear hs htt htl HTJ hc t0 t1 hp ev HTL3 hT
                go_wp2_with fail
                refine (HC.out).mono ?_
                rintro e w2 ⟨rfl, ⟨va, vb, vc, c1, c2, c3, f1, f2, f3⟩, h2⟩
                have H2 := Lib.hid h2
                clear h2
                go_wp2
                go_roundw
                case rel => exact ⟨k + 1, x', b', l', by omega, by go_num, H2.out⟩
                case measure => simp [intOf]; omega
        · obtain rfl : k = j := by omega
          have hlen : l.length = k := hs.2.2.2.1
          have hend := takeR_end (by rw [hlen]; exact hs.2.2.2.2.2) (by rw [hlen]; exact HTS.out) HH.out
          have hbel := hs.1.2.2.1
          obtain ⟨c1, c2, _, _⟩ := tkS hs.1
          have hrow := hs.2.2.1
          have hfit := hs.2.2.2.2.2.2.2
          have hck := rcheck_any _ l k k _ (rowB_vals hrow) hlen.symm hfit
          have HCK := Lib.hid hck
          have HB := Lib.hid hbel
          have HROW := Lib.hid hrow
          have HFIT := Lib.hid hfit
          have HL := Lib.hid hlen
          cases b
          · have HT := Lib.hid (takeP_none (w := w) (by rw [hend]; simp) hbel)
            clear hend hbel hrow hfit hck hlen hs
            go_wp2
            go_ret2
            exact HT.out
          · by_cases hx : x.size = 0
            · obtain rfl := empty_of hx
              rw [show (bstr [] : ByteArray) = ⟨#[]⟩ from rfl] at *
              have h16 : k ≤ 16 := by omega
              have hcc : chkR l = chkL l := by unfold chkR; rw [if_neg (by omega)]
              by_cases hc : chkR l = 0
              · have HT := Lib.hid (show takeR (bts s) = some l by rw [hend, if_pos ⟨rfl, rfl, by rw [← hcc]; exact hc⟩])
                rw [hc] at HCK
                clear hend hbel hrow hfit hck hlen hs hx hc hcc
                go_wp2_with fail
                refine (HCK.out).mono ?_
                rintro e w2 ⟨rfl, hb2⟩
                go_wp2
                go_ret2
                exact takeP_some HT.out (rowB_step HROW.out hb2) HL.out.symm h16 HFIT.out (bj HB.out hb2)
              · have HT := Lib.hid (show takeR (bts s) = none by rw [hend, if_neg (fun h => hc (by rw [hcc]; exact h.2.2))])
                have hne : (chkR l != 0) = true := by rw [bne_iff_ne]; exact hc
                generalize chkR l = E at *
                clear hend hbel hrow hfit hck hlen hs hx hc hcc
                go_wp2_with fail
                refine (HCK.out).mono ?_
                rintro e w2 ⟨rfl, hb2⟩
                go_wp2
                go_ret2
                exact takeP_none HT.out (bj HB.out hb2)
            · have HT := Lib.hid (takeP_none (w := w) (by rw [hend, if_neg (fun h => hx h.2.1)]) hbel)
              have e1 := str_no hx
              have e2 : x.toList.isEmpty = false := by
                cases hh : x.toList with
                | nil => exact absurd hh e1
                | cons a l => rfl
              clear hend hbel hrow hfit hck hlen hs hx
              go_wp2
              go_ret2
              exact HT.out
theorem rtake_any (s : ByteArray) (w : World) : Calls Try.prog 66 #[.string s] w (TakeP (bts s) w) := by
  by_cases h0 : s.size = 0
  · obtain rfl := empty_of h0
    exact take_empty w
  · by_cases hm : (bts s).getD 0 0 ≤ 16
    · by_cases h4 : s.size ≤ 4000
      · exact take_main s _ w (by omega) rfl hm h4
      · exact take_head s _ w (by omega) rfl (.inr ⟨hm, by omega⟩)
    · exact take_head s _ w (by omega) rfl (.inl (by omega))
end Go.Proofs.Ytocbdehcjcggeaa
