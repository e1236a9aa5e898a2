/- The document's own bytes of a ship. Conditions: those of each lemma. -/
import Derived.Test.YtkocdaillkhkfaaShipRefMay2
import Derived.Test.YtkocdaillkhkfaaRefFixed
import Derived.Test.YtkocdaillkhkfaaSumRef2
import Derived.Deep.RegionHeld3
namespace Go.Proofs.Ytkocdaillkhkfaa
open Go.RowKit
set_option linter.unusedVariables false
set_option maxRecDepth 100000 in
set_option maxHeartbeats 8000000 in
theorem refMay_any (kind ep K pages : Int) (full : Bool) (A : Option Addr) (l : List (Int × ByteArray)) (n c : Nat) (w : World) (hI : Imgs w w.heap.size A l) (hn : n = l.length) (hm : n ≤ maxLen) :
    Calls Try.prog 31 #[.agg #[.int .u8 kind, .int .u64 ep, .int .u64 K, .bool full, .int .i64 pages, .slice A n c]] w fun e w' => e = .returned (.bool (shipOk kind K full pages l)) ∧ Below w.heap.size w w' := by
  by_cases hk : kind = 2
  · have hs0 := sb_new w kind ep K pages full A n c
    have e2 : (kind == 2) = true := by simpa using hk
    have hb : shipOk kind K full pages l = (!full && decide (pages = 0) && decide (n = 0)) := by
      unfold shipOk
      rw [if_neg (by omega), if_pos hk, hn]
    rw [hb]
    have HS := Lib.hid hs0
    clear hb hk hI hn hm hs0
    cases full
    · by_cases h1 : pages = 0
      · have h1' : (pages == 0) = true := by simpa using h1
        have H1 := Lib.hid h1
        clear h1
        by_cases h2 : n = 0
        · have h2' : ((n : Int) == 0) = true := by rw [h2]; rfl
          have H2 := Lib.hid h2
          clear h2
          go_enter Try.func31, Try.ntmps31
          go_wp2
          go_ret
          exact ⟨rbool (by rw [decide_eq_true H1.out, decide_eq_true H2.out]; rfl), HS.out.2⟩
        · have h2' : ((n : Int) == 0) = false := int_zero h2
          have H2 := Lib.hid h2
          clear h2
          go_enter Try.func31, Try.ntmps31
          go_wp2
          go_ret
          exact ⟨rbool (by rw [decide_eq_false (show ¬ n = 0 from by have := H2.out; omega), Bool.and_false]), HS.out.2⟩
      · have h1' := beq_no h1
        have H1 := Lib.hid h1
        clear h1
        go_enter Try.func31, Try.ntmps31
        go_wp2
        go_ret
        exact ⟨rbool (by rw [decide_eq_false (show ¬ pages = 0 from by have := H1.out; omega), Bool.and_false, Bool.false_and]), HS.out.2⟩
    · go_enter Try.func31, Try.ntmps31
      go_wp2
      go_ret
      exact ⟨rbool rfl, HS.out.2⟩
  · refine (refMay_one kind ep K pages full A l n c w hI hn hm hk).mono fun e w' he => ⟨?_, he.2⟩
    rw [he.1]
    refine rbool ?_
    by_cases k1 : kind = 1
    · subst k1
      rw [← ref_ok, hn]
      rfl
    · have e : shipOk kind K full pages l = false := by
        unfold shipOk
        rw [if_neg k1, if_neg hk]
      rw [e]
      unfold Mb
      rw [decide_eq_false k1]
      rfl
theorem reight_any (n : Nat) (w : World) (hn : n < 18446744073709551616) :
    Calls Try.prog 32 #[.int .u64 n] w fun e w' => e = .returned (.string (bstr (eightL n))) ∧ Below w.heap.size w w' := by
  have h := fun W => refFixed_any n 8 W hn (by omega) (by omega)
  rw [fixL_eight] at h
  have H := Lib.hid h
  clear h
  go_enter Try.func32, Try.ntmps32
  go_wp2_with fail
  refine (H.out _).mono ?_
  rintro e w1 ⟨rfl, hb1⟩
  go_wp2
  go_ret
  exact ⟨rfl, hb1⟩
set_option maxRecDepth 100000 in
set_option maxHeartbeats 8000000 in
theorem refPut_bad (kind ep K pages : Int) (full : Bool) (A : Option Addr) (l : List (Int × ByteArray)) (n c : Nat) (w : World) (hI : Imgs w w.heap.size A l) (hn : n = l.length) (hm : n ≤ maxLen) (hok : shipOk kind K full pages l = false) :
    Calls Try.prog 15 #[.agg #[.int .u8 kind, .int .u64 ep, .int .u64 K, .bool full, .int .i64 pages, .slice A n c]] w fun e w' => e = .returned (.tuple #[.string ⟨#[]⟩, .int .i64 2]) ∧ Below w.heap.size w w' := by
  have hs0 := sb_new w kind ep K pages full A n c
  have hM := refMay_any kind ep K pages full A l n c _ (sb_imgs hs0 hI) hn hm
  rw [hok] at hM
  have HM := Lib.hid hM
  have HS := Lib.hid hs0
  clear hM hs0 hI hn hm hok
  go_enter Try.func15, Try.ntmps15
  go_wp2_with fail
  refine (HM.out).mono ?_
  rintro e w1 ⟨rfl, hb1⟩
  go_wp2
  go_ret2
  exact ⟨rfl, (sb_step hb1 HS.out).2⟩
theorem sb_drew {w W : World} {kind ep K pages : Int} {full : Bool} {A : Option Addr} {n c : Nat} (h : Sb w kind ep K pages full A n c W) : Sb w kind ep K pages full A n c W.drew := sb_drewN 1 h
theorem sbS5 {w W : World} {kind ep K pages : Int} {full : Bool} {A : Option Addr} {n c : Nat} (h : Sb w kind ep K pages full A n c W) : W.cell? ⟨w.heap.size, 0, none⟩ = some (.int .u8 kind) ∧ W.cell? ⟨w.heap.size, 1, none⟩ = some (.int .u64 ep) ∧ W.cell? ⟨w.heap.size, 2, none⟩ = some (.int .u64 K) ∧ W.cell? ⟨w.heap.size, 4, none⟩ = some (.int .i64 pages) ∧ W.cell? ⟨w.heap.size, 5, none⟩ = some (.slice A n c) :=
  ⟨h.1.cell 0, h.1.cell 1, h.1.cell 2, h.1.cell 4, h.1.cell 5⟩
def S3 (b o j : Nat) (A : Option Addr) (n c g : Nat) (p : Int) (d : ByteArray) (W : World) : Prop := W.cell? ⟨g, 5, none⟩ = some (.slice A n c) ∧ W.cell? ⟨b, o + j * 2, none⟩ = some (.int .i64 p) ∧ W.cell? ⟨b, o + j * 2 + 1, none⟩ = some (.string d)
theorem s3_of {w W : World} {kind ep K pages : Int} {full : Bool} {A : Option Addr} {n c b o j : Nat} {p : Int} {d : ByteArray} (h : Sb w kind ep K pages full A n c W) (hb : b < w.heap.size) (h1 : w.cell? ⟨b, o + j * 2, none⟩ = some (.int .i64 p)) (h2 : w.cell? ⟨b, o + j * 2 + 1, none⟩ = some (.string d)) :
    W.cell? ⟨w.heap.size, 5, none⟩ = some (.slice A n c) ∧ W.cell? ⟨b, o + j * 2, none⟩ = some (.int .i64 p) ∧ W.cell? ⟨b, o + j * 2 + 1, none⟩ = some (.string d) :=
  ⟨h.1.cell 5, (h.2.cell (p := ⟨b, o + j * 2, none⟩) hb).trans h1, (h.2.cell (p := ⟨b, o + j * 2 + 1, none⟩) hb).trans h2⟩
set_option maxRecDepth 100000 in
set_option maxHeartbeats 16000000 in
theorem refPut_good (kind ep K pages : Nat) (full : Bool) (A : Option Addr) (l : List (Int × ByteArray)) (n c : Nat) (w : World) (hI : Imgs w w.heap.size A l) (hn : n = l.length) (hep : ep < 18446744073709551616) (hK : K < 18446744073709551616) (hok : shipOk kind K full pages l = true) :
    Calls Try.prog 15 #[.agg #[.int .u8 kind, .int .u64 ep, .int .u64 K, .bool full, .int .i64 pages, .slice A n c]] w fun e w' => e = .returned (.tuple #[.string (bstr (shipL kind ep K full pages l)), .int .i64 0]) ∧ Below w.heap.size w w' := by
  obtain ⟨b1, b2, b3, b4, b5, b6⟩ := ok_bounds hok
  have hs0 := sb_new w kind ep K pages full A n c
  have hM := refMay_any kind ep K pages full A l n c _ (sb_imgs hs0 hI) hn (by unfold maxLen; omega)
  rw [hok] at hM
  have h1 := fun W => reight_any kind W (by omega)
  have h2 := fun W => reight_any ep W hep
  have h3 := fun W => reight_any K W hK
  have h4 : ∀ W, Calls Try.prog 32 #[.int .u64 (if full then 1 else 0)] W fun e w' => e = .returned (.string (bstr (eightL (if full then 1 else 0)))) ∧ Below W.heap.size W w' := fun W => by
    cases full
    · exact reight_any 0 W (by omega)
    · exact reight_any 1 W (by omega)
  have h5 := fun W => reight_any pages W (by omega)
  have h6 := fun W => reight_any n W (by omega)
  have hcat : bstr (eightL kind) ++ bstr (eightL ep) ++ bstr (eightL K) ++ bstr (eightL (if full then 1 else 0)) ++ bstr (eightL pages) ++ bstr (eightL n) = bstr (shipH kind ep K full pages n) := by
    rw [bstr_append, bstr_append, bstr_append, bstr_append, bstr_append]
    simp [shipH, flat8, List.append_assoc]
  have z1 := eight_size kind
  have z2 := eight_size ep
  have z3 := eight_size K
  have z4 := eight_size (if full then 1 else 0)
  have z5 := eight_size pages
  have z6 := eight_size n
  have hkI : (kind : Int) ≤ 2 := b2
  have hpI : (pages : Int) ≤ 256 := b4
  have hnI : n ≤ 256 := by omega
  have wk : IntKind.u64.wrap (kind : Int) = kind := by simp [IntKind.wrap, IntKind.bits, IntKind.signed]; omega
  have wp : IntKind.u64.wrap (pages : Int) = pages := by simp [IntKind.wrap, IntKind.bits, IntKind.signed]; omega
  have wn : IntKind.u64.wrap (n : Int) = n := by simp [IntKind.wrap, IntKind.bits, IntKind.signed]; omega
  have HW := Lib.hid (And.intro wk (And.intro wp wn))
  clear wk wp wn
  generalize bstr (eightL kind) = X1 at *
  generalize bstr (eightL ep) = X2 at *
  generalize bstr (eightL K) = X3 at *
  generalize hX4 : bstr (eightL (if full then 1 else 0)) = X4 at *
  generalize bstr (eightL pages) = X5 at *
  generalize bstr (eightL n) = X6 at *
  have hct1 := fun w => run_string_add_sum (P := Try.prog) w X1 X2 (by omega)
  have hct2 := fun w => run_string_add_sum (P := Try.prog) w (X1 ++ X2) X3 (by rw [ByteArray.size_append]; omega)
  have hct3 := fun w => run_string_add_sum (P := Try.prog) w (X1 ++ X2 ++ X3) X4 (by rw [ByteArray.size_append, ByteArray.size_append]; omega)
  have hct4 := fun w => run_string_add_sum (P := Try.prog) w (X1 ++ X2 ++ X3 ++ X4) X5 (by rw [ByteArray.size_append, ByteArray.size_append, ByteArray.size_append]; omega)
  have hct5 := fun w => run_string_add_sum (P := Try.prog) w (X1 ++ X2 ++ X3 ++ X4 ++ X5) X6 (by rw [ByteArray.size_append, ByteArray.size_append, ByteArray.size_append, ByteArray.size_append]; omega)
  have HM := Lib.hid hM
  have H1 := Lib.hid h1
  have H2 := Lib.hid h2
  have H3 := Lib.hid h3
  have H4 := Lib.hid h4
  have H5 := Lib.hid h5
  have H6 := Lib.hid h6
  have HCAT := Lib.hid hcat
  have HZ := Lib.hid (And.intro z1 (And.intro z2 (And.intro z3 (And.intro z4 (And.intro z5 z6)))))
  have HS := Lib.hid hs0
  have HI := Lib.hid hI
  have HN := Lib.hid hn
  have HC := Lib.hid (And.intro hct1 (And.intro hct2 (And.intro hct3 (And.intro hct4 hct5))))
  have H6x := Lib.hid b6
  clear hM h1 h2 h3 h4 h5 h6 hcat z1 z2 z3 z4 z5 z6 hs0 hI hn hct1 hct2 hct3 hct4 hct5 hok b1 b2 b3 b4 b5 b6 hX4
  go_enter Try.func15, Try.ntmps15
  go_wp2_with fail
  refine (HM.out).mono ?_
  rintro e w1 ⟨rfl, hb1⟩
  have hs1 := sb_step hb1 HS.out
  obtain ⟨r0, r1, r2, r3, r4, r5⟩ := sbS hs1
  clear hb1 HM HS
  cases full
  · simp only [Bool.false_eq_true, if_false] at H4
    go_wp2_with fail
    obtain ⟨hct1, hct2, hct3, hct4, hct5⟩ := HC.out
    obtain ⟨wk, wp, wn⟩ := HW.out
    have k0 := sb_drew hs1
    go_region_held3 (fun W => W.cell? ⟨w.heap.size, 0, none⟩ = some (.int .u8 kind) ∧ W.cell? ⟨w.heap.size, 1, none⟩ = some (.int .u64 ep) ∧ W.cell? ⟨w.heap.size, 2, none⟩ = some (.int .u64 K) ∧ W.cell? ⟨w.heap.size, 4, none⟩ = some (.int .i64 pages) ∧ W.cell? ⟨w.heap.size, 5, none⟩ = some (.slice A n c))
      (with_reducible first | exact sbS5 k0 | exact sbS5 k1 | exact sbS5 k2 | exact sbS5 k3 | exact sbS5 k4 | exact sbS5 k5 | exact sbS5 k6)
      (first
        | (go_at_call 32; (with_reducible refine (H1.out _).mono ?_); rintro e v1 ⟨rfl, hv1⟩; (have k1 := sb_step hv1 k0))
        | (go_at_call 32; (with_reducible refine (H2.out _).mono ?_); rintro e v2 ⟨rfl, hv2⟩; (have k2 := sb_step hv2 k1))
        | (go_at_call 32; (with_reducible refine (H3.out _).mono ?_); rintro e v3 ⟨rfl, hv3⟩; (have k3 := sb_step hv3 k2))
        | (go_at_call 32; (with_reducible refine (H4.out _).mono ?_); rintro e v4 ⟨rfl, hv4⟩; (have k4 := sb_step hv4 k3))
        | (go_at_call 32; (with_reducible refine (H5.out _).mono ?_); rintro e v5 ⟨rfl, hv5⟩; (have k5 := sb_step hv5 k4))
        | (go_at_call 32; (with_reducible refine (H6.out _).mono ?_); rintro e v6 ⟨rfl, hv6⟩; (have k6 := sb_step hv6 k5)))
    have K6 := Lib.hid k6
    have hcat := HCAT.out
    rw [hcat]
    clear k0 k1 k2 k3 k4 k5 k6 hv1 hv2 hv3 hv4 hv5 hv6 hs1 r0 r1 r2 r3 r4 r5 hct1 hct2 hct3 hct4 hct5 wk wp wn hcat HC HW HCAT HZ H1 H2 H3 H4 H5 H6
    go_wp2_with fail
    go_loopw [5, 6] (fun s i wr => ∃ (j : Nat) (T : ByteArray), j ≤ n ∧ i = .int .i64 j ∧ s = .string T ∧ bts T = shipH kind ep K false pages n ++ imgsL (l.take j) ∧ Sb w kind ep K pages false A n c wr) (fun _ i _ => n - (intOf i).toNat)
    case atStart =>
      refine ⟨0, _, by omega, rfl, rfl, ?_, K6.out⟩
      rw [List.take_zero, show imgsL [] = [] from rfl, List.append_nil]
      refine bts_bstr _ (fun x hx => ?_)
      unfold shipH flat8 at hx
      obtain ⟨y, _, hy⟩ := List.mem_flatMap.1 hx
      exact eight_lt y x hy
    case round =>
      obtain ⟨j, T, hj, rfl, rfl, hT, hs⟩ := hrel
      have hTs : T.size = 48 + 520 * j := by
        rw [← bts_length, hT, List.length_append, shipH_length, imgsL_length _ (fun x hx => (H6x.out x (List.mem_of_mem_take hx)).1), List.length_take, ← HN.out, Nat.min_eq_left hj]
      have HT := Lib.hid hT
      clear hT K6
      by_cases hlt : j < n
      · obtain ⟨b1, o1, rfl, l1, c1⟩ := imgs_get HI.out (fun e => by have := HN.out; rw [e] at this; simp at this; omega)
        have hjl : j < l.length := by rw [← HN.out]; exact hlt
        have g1 : l[j]? = some l[j] := List.getElem?_eq_getElem hjl
        have hx := H6x.out l[j] (List.getElem_mem hjl)
        have htk := imgsL_take l j hjl
        generalize l[j] = x at *
        obtain ⟨pz, d⟩ := x
        obtain ⟨p, rfl⟩ := Int.eq_ofNat_of_zero_le hx.2.1
        obtain ⟨a1, a2⟩ := c1 j _ g1
        simp only at a1 a2 hx
        have k0 := sb_drew hs
        have he := fun W => reight_any p W (by omega)
        have z8 := eight_size p
        have hres : bts (T ++ bstr (eightL p) ++ d) = bts T ++ imgL ((p : Int), d) := by
          rw [bts_app, bts_app, bts_eight, List.append_assoc]
          rfl
        generalize bstr (eightL p) = X at *
        have hct1 := fun w => run_string_add_sum (P := Try.prog) w T X (by omega)
        have hct2 := fun w => run_string_add_sum (P := Try.prog) w (T ++ X) d (by rw [ByteArray.size_append]; omega)
        have wq : IntKind.u64.wrap (p : Int) = p := by simp [IntKind.wrap, IntKind.bits, IntKind.signed]; omega
        have i1 : (0 : Int) ≤ (j : Int) := by omega
        have i2 : (j : Int) < (n : Int) := by omega
        have hres2 : bts (T ++ X ++ d) = shipH kind ep K false pages n ++ imgsL (l.take (j + 1)) := by rw [hres, HT.out, htk, List.append_assoc]
        have r5 := hs.1.cell 5
        simp only [List.getElem?_toArray, List.getElem?_cons_succ, List.getElem?_cons_zero] at r5
        have HE := Lib.hid he
        have HR := Lib.hid hres2
        have HS2 := Lib.hid hs
        have HA := Lib.hid (And.intro a1 a2)
        clear he hres hres2 hs g1 hx htk c1 z8 hTs a1 a2
        go_wp2_with fail
        go_region_held3 (fun W => W.cell? ⟨w.heap.size, 5, none⟩ = some (.slice (some ⟨b1, o1, none⟩) n c) ∧ W.cell? ⟨b1, o1 + j * 2, none⟩ = some (.int .i64 p) ∧ W.cell? ⟨b1, o1 + j * 2 + 1, none⟩ = some (.string d))
          (with_reducible first | exact s3_of k0 l1 HA.out.1 HA.out.2 | exact s3_of k1 l1 HA.out.1 HA.out.2)
          (first | (go_at_call 32; (with_reducible refine (HE.out _).mono ?_); rintro e v1 ⟨rfl, hv1⟩; (have k1 := sb_step hv1 k0)))
        have K1 := Lib.hid k1
        clear k0 k1 hv1 hct1 hct2 wq
        go_wp2_with fail
        go_roundw
        case rel => exact ⟨j + 1, _, by omega, by go_num, rfl, HR.out, K1.out⟩
        case measure => simp [intOf]; omega
      · obtain rfl : j = n := by omega
        have hB : bts T = shipB kind ep K false pages l := by
          have h := HT.out
          rw [List.take_of_length_le (by rw [← HN.out]; exact Nat.le_refl _)] at h
          unfold shipB
          rw [← HN.out]
          exact h
        have ha := fun W => refAdd_any 0 0 T W fit0 (by omega)
        rw [hB] at ha
        have htx := fun W => refText_any (addL (shipB kind ep K false pages l) (0, 0)).1 (addL (shipB kind ep K false pages l) (0, 0)).2 W (fit_addL fit0)
        have hres : bstr (textL (addL (shipB kind ep K false pages l) (0, 0)).1 (addL (shipB kind ep K false pages l) (0, 0)).2) ++ T = bstr (shipL kind ep K false pages l) := by
          rw [show T = bstr (shipB kind ep K false pages l) from by rw [← hB, bstr_bts], bstr_append]
          rfl
        have z8 := text_size (addL (shipB kind ep K false pages l) (0, 0)).1 (addL (shipB kind ep K false pages l) (0, 0)).2
        generalize bstr (textL (addL (shipB kind ep K false pages l) (0, 0)).1 (addL (shipB kind ep K false pages l) (0, 0)).2) = Y at *
        generalize (addL (shipB kind ep K false pages l) (0, 0)).1 = Q1 at *
        generalize (addL (shipB kind ep K false pages l) (0, 0)).2 = Q2 at *
        have r5 := hs.1.cell 5
        simp only [List.getElem?_toArray, List.getElem?_cons_succ, List.getElem?_cons_zero] at r5
        have z1 : ¬ (9223372036854775807 < Y.size + T.size) := by omega
        have HA := Lib.hid ha
        have HX := Lib.hid htx
        have HR := Lib.hid hres
        have HS2 := Lib.hid hs
        clear ha htx hres hs hB z8 hTs
        go_wp2_with fail
        refine (HA.out _).mono ?_
        rintro e v1 ⟨rfl, hv1⟩
        go_wp2_with fail
        refine (HX.out _).mono ?_
        rintro e v2 ⟨rfl, hv2⟩
        go_wp2
        go_ret2
        exact ⟨by rw [← HR.out]; rfl, bj (bj HS2.out.2 hv1) hv2⟩
  · simp only [if_true] at H4
    go_wp2_with fail
    obtain ⟨hct1, hct2, hct3, hct4, hct5⟩ := HC.out
    obtain ⟨wk, wp, wn⟩ := HW.out
    have k0 := sb_drew hs1
    go_region_held3 (fun W => W.cell? ⟨w.heap.size, 0, none⟩ = some (.int .u8 kind) ∧ W.cell? ⟨w.heap.size, 1, none⟩ = some (.int .u64 ep) ∧ W.cell? ⟨w.heap.size, 2, none⟩ = some (.int .u64 K) ∧ W.cell? ⟨w.heap.size, 4, none⟩ = some (.int .i64 pages) ∧ W.cell? ⟨w.heap.size, 5, none⟩ = some (.slice A n c))
      (with_reducible first | exact sbS5 k0 | exact sbS5 k1 | exact sbS5 k2 | exact sbS5 k3 | exact sbS5 k4 | exact sbS5 k5 | exact sbS5 k6)
      (first
        | (go_at_call 32; (with_reducible refine (H1.out _).mono ?_); rintro e v1 ⟨rfl, hv1⟩; (have k1 := sb_step hv1 k0))
        | (go_at_call 32; (with_reducible refine (H2.out _).mono ?_); rintro e v2 ⟨rfl, hv2⟩; (have k2 := sb_step hv2 k1))
        | (go_at_call 32; (with_reducible refine (H3.out _).mono ?_); rintro e v3 ⟨rfl, hv3⟩; (have k3 := sb_step hv3 k2))
        | (go_at_call 32; (with_reducible refine (H4.out _).mono ?_); rintro e v4 ⟨rfl, hv4⟩; (have k4 := sb_step hv4 k3))
        | (go_at_call 32; (with_reducible refine (H5.out _).mono ?_); rintro e v5 ⟨rfl, hv5⟩; (have k5 := sb_step hv5 k4))
        | (go_at_call 32; (with_reducible refine (H6.out _).mono ?_); rintro e v6 ⟨rfl, hv6⟩; (have k6 := sb_step hv6 k5)))
    have K6 := Lib.hid k6
    have hcat := HCAT.out
    rw [hcat]
    clear k0 k1 k2 k3 k4 k5 k6 hv1 hv2 hv3 hv4 hv5 hv6 hs1 r0 r1 r2 r3 r4 r5 hct1 hct2 hct3 hct4 hct5 wk wp wn hcat HC HW HCAT HZ H1 H2 H3 H4 H5 H6
    go_wp2_with fail
    go_loopw [5, 6] (fun s i wr => ∃ (j : Nat) (T : ByteArray), j ≤ n ∧ i = .int .i64 j ∧ s = .string T ∧ bts T = shipH kind ep K true pages n ++ imgsL (l.take j) ∧ Sb w kind ep K pages true A n c wr) (fun _ i _ => n - (intOf i).toNat)
    case atStart =>
      refine ⟨0, _, by omega, rfl, rfl, ?_, K6.out⟩
      rw [List.take_zero, show imgsL [] = [] from rfl, List.append_nil]
      refine bts_bstr _ (fun x hx => ?_)
      unfold shipH flat8 at hx
      obtain ⟨y, _, hy⟩ := List.mem_flatMap.1 hx
      exact eight_lt y x hy
    case round =>
      obtain ⟨j, T, hj, rfl, rfl, hT, hs⟩ := hrel
      have hTs : T.size = 48 + 520 * j := by
        rw [← bts_length, hT, List.length_append, shipH_length, imgsL_length _ (fun x hx => (H6x.out x (List.mem_of_mem_take hx)).1), List.length_take, ← HN.out, Nat.min_eq_left hj]
      have HT := Lib.hid hT
      clear hT K6
      by_cases hlt : j < n
      · obtain ⟨b1, o1, rfl, l1, c1⟩ := imgs_get HI.out (fun e => by have := HN.out; rw [e] at this; simp at this; omega)
        have hjl : j < l.length := by rw [← HN.out]; exact hlt
        have g1 : l[j]? = some l[j] := List.getElem?_eq_getElem hjl
        have hx := H6x.out l[j] (List.getElem_mem hjl)
        have htk := imgsL_take l j hjl
        generalize l[j] = x at *
        obtain ⟨pz, d⟩ := x
        obtain ⟨p, rfl⟩ := Int.eq_ofNat_of_zero_le hx.2.1
        obtain ⟨a1, a2⟩ := c1 j _ g1
        simp only at a1 a2 hx
        have k0 := sb_drew hs
        have he := fun W => reight_any p W (by omega)
        have z8 := eight_size p
        have hres : bts (T ++ bstr (eightL p) ++ d) = bts T ++ imgL ((p : Int), d) := by
          rw [bts_app, bts_app, bts_eight, List.append_assoc]
          rfl
        generalize bstr (eightL p) = X at *
        have hct1 := fun w => run_string_add_sum (P := Try.prog) w T X (by omega)
        have hct2 := fun w => run_string_add_sum (P := Try.prog) w (T ++ X) d (by rw [ByteArray.size_append]; omega)
        have wq : IntKind.u64.wrap (p : Int) = p := by simp [IntKind.wrap, IntKind.bits, IntKind.signed]; omega
        have i1 : (0 : Int) ≤ (j : Int) := by omega
        have i2 : (j : Int) < (n : Int) := by omega
        have hres2 : bts (T ++ X ++ d) = shipH kind ep K true pages n ++ imgsL (l.take (j + 1)) := by rw [hres, HT.out, htk, List.append_assoc]
        have r5 := hs.1.cell 5
        simp only [List.getElem?_toArray, List.getElem?_cons_succ, List.getElem?_cons_zero] at r5
        have HE := Lib.hid he
        have HR := Lib.hid hres2
        have HS2 := Lib.hid hs
        have HA := Lib.hid (And.intro a1 a2)
        clear he hres hres2 hs g1 hx htk c1 z8 hTs a1 a2
        go_wp2_with fail
        go_region_held3 (fun W => W.cell? ⟨w.heap.size, 5, none⟩ = some (.slice (some ⟨b1, o1, none⟩) n c) ∧ W.cell? ⟨b1, o1 + j * 2, none⟩ = some (.int .i64 p) ∧ W.cell? ⟨b1, o1 + j * 2 + 1, none⟩ = some (.string d))
          (with_reducible first | exact s3_of k0 l1 HA.out.1 HA.out.2 | exact s3_of k1 l1 HA.out.1 HA.out.2)
          (first | (go_at_call 32; (with_reducible refine (HE.out _).mono ?_); rintro e v1 ⟨rfl, hv1⟩; (have k1 := sb_step hv1 k0)))
        have K1 := Lib.hid k1
        clear k0 k1 hv1 hct1 hct2 wq
        go_wp2_with fail
        go_roundw
        case rel => exact ⟨j + 1, _, by omega, by go_num, rfl, HR.out, K1.out⟩
        case measure => simp [intOf]; omega
      · obtain rfl : j = n := by omega
        have hB : bts T = shipB kind ep K true pages l := by
          have h := HT.out
          rw [List.take_of_length_le (by rw [← HN.out]; exact Nat.le_refl _)] at h
          unfold shipB
          rw [← HN.out]
          exact h
        have ha := fun W => refAdd_any 0 0 T W fit0 (by omega)
        rw [hB] at ha
        have htx := fun W => refText_any (addL (shipB kind ep K true pages l) (0, 0)).1 (addL (shipB kind ep K true pages l) (0, 0)).2 W (fit_addL fit0)
        have hres : bstr (textL (addL (shipB kind ep K true pages l) (0, 0)).1 (addL (shipB kind ep K true pages l) (0, 0)).2) ++ T = bstr (shipL kind ep K true pages l) := by
          rw [show T = bstr (shipB kind ep K true pages l) from by rw [← hB, bstr_bts], bstr_append]
          rfl
        have z8 := text_size (addL (shipB kind ep K true pages l) (0, 0)).1 (addL (shipB kind ep K true pages l) (0, 0)).2
        generalize bstr (textL (addL (shipB kind ep K true pages l) (0, 0)).1 (addL (shipB kind ep K true pages l) (0, 0)).2) = Y at *
        generalize (addL (shipB kind ep K true pages l) (0, 0)).1 = Q1 at *
        generalize (addL (shipB kind ep K true pages l) (0, 0)).2 = Q2 at *
        have r5 := hs.1.cell 5
        simp only [List.getElem?_toArray, List.getElem?_cons_succ, List.getElem?_cons_zero] at r5
        have z1 : ¬ (9223372036854775807 < Y.size + T.size) := by omega
        have HA := Lib.hid ha
        have HX := Lib.hid htx
        have HR := Lib.hid hres
        have HS2 := Lib.hid hs
        clear ha htx hres hs hB z8 hTs
        go_wp2_with fail
        refine (HA.out _).mono ?_
        rintro e v1 ⟨rfl, hv1⟩
        go_wp2_with fail
        refine (HX.out _).mono ?_
        rintro e v2 ⟨rfl, hv2⟩
        go_wp2
        go_ret2
        exact ⟨by rw [← HR.out]; rfl, bj (bj HS2.out.2 hv1) hv2⟩
end Go.Proofs.Ytkocdaillkhkfaa
