/- The document's own Put of rows. Conditions: the numbers fit their kinds, a text is no longer than a machine has addresses. -/
import Derived.Test.YtnnadlbimhnikaaProg
import Derived.Test.YtnnadlbimhnikaaRec4
namespace Go.Proofs.Ytnnadlbimhnikaa
open Go.RowKit
set_option linter.unusedVariables false
theorem concat_ok {X Y : ByteArray} {a b : Nat} (h1 : X.size ≤ a) (h2 : Y.size ≤ b) (h : a + b ≤ 1000000000) : X.size + Y.size ≤ 9223372036854775807 ∧ ¬ (9223372036854775807 < X.size + Y.size) ∧ (X.size : Int) + Y.size ≤ 9223372036854775807 := by omega
theorem bts_size {X : ByteArray} {L : List Nat} (h : bts X = L) : X.size = L.length := by rw [← h, bts_length]
set_option maxRecDepth 100000 in
set_option maxHeartbeats 4000000 in
theorem all_row (A : Option Addr) (l : List Val) (n c : Nat) (w : World) (hV : Vals w w.heap.size A l) (hn : n = l.length) (hf : ∀ x ∈ l, Fits x) (hc : chkR l = 0) :
    Calls Try.prog 17 #[.slice A n c] w fun e w' => e = .returned (.string (bstr (recL l))) ∧ Below w.heap.size w w' := by
  have h16 : n ≤ 16 := by rw [hn]; exact chkR_len hc
  have h16I : (n : Int) ≤ 16 := by omega
  have hm := chkL_mem (chkR_chkL hc)
  have HN := Lib.hid hn
  have HM := Lib.hid hm
  have HF := Lib.hid hf
  have HA : Hid (0 < n → ∃ b o, A = some ⟨b, o, none⟩ ∧ b < w.heap.size ∧ ∀ (j : Nat) x, l[j]? = some x → w.cell? ⟨b, o + j * 3, none⟩ = some (.int .u8 x.1) ∧ w.cell? ⟨b, o + j * 3 + 1, none⟩ = some (.int .i64 x.2.1) ∧ w.cell? ⟨b, o + j * 3 + 2, none⟩ = some (.string x.2.2)) :=
    Lib.hid fun h => vals_get hV (fun e => by rw [e] at hn; simp at hn; omega)
  have hw8 : IntKind.u8.wrap (n : Int) = n := by simp [IntKind.wrap, IntKind.bits, IntKind.signed]; omega
  have hcv := run_convert_bytes_arg (P := Try.prog) (w.alloc (.cells #[Value.int IntKind.u8 n] 5)) 44 5 Try.underlying44 Try.underlying5 w.heap.size 0 1 1 ([n].map Int.ofNat) rfl (fun i hi => by
    rw [World.cell?_alloc_mark]
    obtain rfl : i = 0 := by omega
    rfl) 9 Try.underlying9
  rw [bstr_nums] at hcv
  have e0 : bts (bstr [n]) = n :: tagsL (l.take 0) := bts_bstr _ (fun x hx => by rw [List.mem_singleton.1 hx]; omega)
  have HT1 : Hid (∀ j, (tagsL (l.take j)).length ≤ 9 * 16) := Lib.hid fun j => by
    have := tagsL_len (l.take j)
    have : (l.take j).length ≤ 16 := by rw [List.length_take]; omega
    omega
  have HD1 : Hid (∀ j, (bodsL (l.take j)).length ≤ 1000 * 16) := Lib.hid fun j => by
    have := bodsL_len (l.take j) (fun x hx => hm x (List.mem_of_mem_take hx))
    have : (l.take j).length ≤ 16 := by rw [List.length_take]; omega
    omega
  have E0 := Lib.hid e0
  have hb0 : Below w.heap.size w (w.alloc (.cells #[Value.int IntKind.u8 n] 5)) := (Below.refl _ _).alloc (Nat.le_refl _) _
  have HB0 := Lib.hid hb0
  clear hc hm hf hV hn e0 hb0
  go_enter Try.func17, Try.ntmps17
  go_wp2
  go_loopw [3, 4] (fun s i wr => ∃ (j : Nat) (T : ByteArray), j ≤ n ∧ i = .int .i64 j ∧ s = .string T ∧ bts T = n :: tagsL (l.take j) ∧ Below w.heap.size w wr) (fun _ i _ => n - (intOf i).toNat)
  case atStart => exact ⟨0, _, by omega, rfl, rfl, E0.out, HB0.out⟩
  case round =>
    obtain ⟨j, T, hj, rfl, rfl, hT, hb⟩ := hrel
    by_cases hjn : j < n
    · have hjl : j < l.length := by have := HN.out; omega
      obtain ⟨b, o, rfl, hbl, hcs⟩ := HA.out (by omega)
      obtain ⟨a1, a2, a3⟩ := hcs j l[j] (List.getElem?_eq_getElem hjl)
      have c1 := (hb.cell (p := ⟨b, o + j * 3, none⟩) hbl).trans a1
      have c2 := (hb.cell (p := ⟨b, o + j * 3 + 1, none⟩) hbl).trans a2
      have c3 := (hb.cell (p := ⟨b, o + j * 3 + 2, none⟩) hbl).trans a3
      have hfx := HF.out l[j] (List.getElem_mem hjl)
      have hcx := HM.out l[j] (List.getElem_mem hjl)
      have ht1 := tagsL_take l j hjl
      have hsT : T.size ≤ 200 := by rw [bts_size hT]; have := HT1.out j; simp; omega
      generalize l[j] = x at *
      obtain ⟨k1, k2, k3, k4⟩ := chk_of hcx
      have htg := fun W => refTag_any x W k4 hfx.1 k1
      have hpt := fun W => refPut_any (tagN x) W (tagN_lt (by omega))
      have hz1 : (bstr (putL (tagN x))).size ≤ 9 := by rw [bstr_size, putL_length]; exact (sz_le _).2
      have e1 : bts (bstr (putL (tagN x))) = putL (tagN x) := bts_bstr _ (putL_lt _)
      rw [← e1] at ht1
      have HT2 := Lib.hid (show bts (T ++ bstr (putL (tagN x))) = n :: tagsL (l.take (j + 1)) by rw [bts_app, hT, ht1]; rfl)
      generalize bstr (putL (tagN x)) = X at *
      generalize tagN x = tg at *
      obtain ⟨p, q, s⟩ := x
      simp only at c1 c2 c3
      obtain ⟨z1, z1', z1I⟩ := concat_ok hsT hz1 (by omega)
      have HTG := Lib.hid htg
      have HPT := Lib.hid hpt
      have HB := Lib.hid hb
      clear a1 a2 a3 hfx hcx k1 k2 k3 k4 ht1 htg hpt hcs hb e1 hT hsT hz1 hcv
      go_wp2_with fail
      refine (HTG.out _).mono ?_
      rintro e w2 ⟨rfl, hb2⟩
      go_wp2_with fail
      refine (HPT.out _).mono ?_
      rintro e w3 ⟨rfl, hb3⟩
      go_wp2
      go_roundw
      case rel => exact ⟨j + 1, _, by omega, by go_num, rfl, HT2.out, bj (bj HB.out hb2) hb3⟩
      case measure => simp [intOf]; omega
    · obtain rfl : j = n := by omega
      have hall : l.take j = l := List.take_of_length_le (by have := HN.out; omega)
      rw [hall] at hT
      have E1 := Lib.hid (show bts T = (j :: tagsL l) ++ bodsL (l.take 0) by rw [hT]; simp [bodsL])
      have HTL := Lib.hid (show (j :: tagsL l).length ≤ 200 by have := HT1.out j; rw [hall] at this; simp; omega)
      clear hT hall hcv
      go_wp2
      go_loopw [3, 5] (fun s i wr => ∃ (k : Nat) (T : ByteArray), k ≤ j ∧ i = .int .i64 k ∧ s = .string T ∧ bts T = (j :: tagsL l) ++ bodsL (l.take k) ∧ Below w.heap.size w wr) (fun _ i _ => j - (intOf i).toNat)
      case atStart => exact ⟨0, _, by omega, rfl, rfl, E1.out, hb⟩
      case round =>
        clear hb
        obtain ⟨k, T, hk, rfl, rfl, hT, hb⟩ := hrel
        by_cases hkn : k < j
        · have hkl : k < l.length := by have := HN.out; omega
          obtain ⟨b, o, rfl, hbl, hcs⟩ := HA.out (by omega)
          obtain ⟨a1, a2, a3⟩ := hcs k l[k] (List.getElem?_eq_getElem hkl)
          have c1 := (hb.cell (p := ⟨b, o + k * 3, none⟩) hbl).trans a1
          have c2 := (hb.cell (p := ⟨b, o + k * 3 + 1, none⟩) hbl).trans a2
          have c3 := (hb.cell (p := ⟨b, o + k * 3 + 2, none⟩) hbl).trans a3
          have hfx := HF.out l[k] (List.getElem_mem hkl)
          have hcx := HM.out l[k] (List.getElem_mem hkl)
          have hd1 := bodsL_take l k hkl
          have hsT : T.size ≤ 20000 := by rw [bts_size hT, List.length_append]; have := HD1.out k; have := HTL.out; omega
          generalize l[k] = x at *
          obtain ⟨k1, k2, k3, k4⟩ := chk_of hcx
          obtain ⟨p, q, s⟩ := x
          simp only at c1 c2 c3 k1 k2 k3 k4
          obtain ⟨f1, f2, f3, f4⟩ := hfx
          simp only at f1 f2 f3 f4
          by_cases hp : p = 1
          · subst hp
            obtain rfl := empty_of (k3 (by omega))
            have hfo := fun W => refFold_any q W f3 f4
            have hpt := fun W => refPut_any (foldN q) W (foldN_lt f3 f4)
            have e : foldZ q = (foldN q : Nat) := by unfold foldN; rw [Int.toNat_of_nonneg (foldZ_pos q)]
            rw [e] at hfo
            have hz1 : (bstr (putL (foldN q))).size ≤ 9 := by rw [bstr_size, putL_length]; exact (sz_le _).2
            have e1 : bts (bstr (putL (foldN q))) = bodyL (1, q, bstr []) := bts_bstr _ (putL_lt _)
            rw [← e1] at hd1
            have HT2 := Lib.hid (show bts ((T ++ bstr (putL (foldN q))) ++ ⟨#[]⟩) = (j :: tagsL l) ++ bodsL (l.take (k + 1)) by rw [bts_app, bts_app, hT, hd1]; simp [bts])
            generalize bstr (putL (foldN q)) = X at *
            generalize foldN q = N at *
            rw [show (bstr [] : ByteArray) = ⟨#[]⟩ from rfl] at *
            obtain ⟨z1, z1', z1I⟩ := concat_ok hsT hz1 (by omega)
            have y0 : (T ++ X).size ≤ 20009 := by rw [ByteArray.size_append]; omega
            have y1 : (⟨#[]⟩ : ByteArray).size ≤ 0 := Nat.le_refl _
            obtain ⟨x1, x1', x1I⟩ := concat_ok y0 y1 (by omega)
            have HFO := Lib.hid hfo
            have HPT := Lib.hid hpt
            have HB := Lib.hid hb
            have c1' : (((1 : Int) == 1)) = true := rfl
            clear a1 a2 a3 hcx k1 k2 k3 k4 hd1 hpt hcs hb e1 hT hsT hz1 hfo e f1 f2 f3 f4 y0 y1
            go_wp2_with fail
            refine (HFO.out _).mono ?_
            rintro e w2 ⟨rfl, rfl⟩
            go_wp2_with fail
            refine (HPT.out _).mono ?_
            rintro e w3 ⟨rfl, hb3⟩
            have d3 := (hb3.cell (p := ⟨b, o + k * 3 + 2, none⟩) (Nat.lt_of_lt_of_le hbl HB.out.size)).trans c3
            go_wp2
            go_roundw
            case rel => exact ⟨k + 1, _, by omega, by go_num, rfl, HT2.out, bj HB.out hb3⟩
            case measure => simp [intOf]; omega
          · have e1 : bts s = bodyL (p, q, s) := by simp [bodyL, hp]
            rw [← e1] at hd1
            have HT2 := Lib.hid (show bts (T ++ s) = (j :: tagsL l) ++ bodsL (l.take (k + 1)) by rw [bts_app, hT, hd1, List.append_assoc])
            obtain ⟨z1, z1', z1I⟩ := concat_ok hsT k4 (by omega)
            have hp' := beq_no hp
            have HB := Lib.hid hb
            clear a1 a2 a3 hcx k1 k2 k3 k4 hd1 hcs hb e1 hT hsT f1 f2 f3 f4 hp
            go_wp2
            go_roundw
            case rel => exact ⟨k + 1, _, by omega, by go_num, rfl, HT2.out, HB.out⟩
            case measure => simp [intOf]; omega
        · obtain rfl : k = j := by omega
          have hall : l.take k = l := List.take_of_length_le (by have := HN.out; omega)
          rw [hall] at hT
          have e : T = bstr (recL l) := by
            apply bts_inj
            rw [hT, bts_bstr _ (recL_lt l (by have := HN.out; omega))]
            unfold recL
            rw [HN.out]; rfl
          have HE := Lib.hid e
          clear e hT hall
          go_wp2
          go_ret
          exact ⟨by rw [← HE.out]; rfl, hb⟩
set_option maxRecDepth 100000 in
set_option maxHeartbeats 2000000 in
theorem refPut_row (A : Option Addr) (l : List Val) (n c : Nat) (w : World) (hV : Vals w w.heap.size A l) (hn : n = l.length) (hf : ∀ x ∈ l, Fits x) :
    Calls Try.prog 15 #[.slice A n c] w fun e w' => e = .returned (.tuple #[.string (putS l).1, .int .i64 (putS l).2]) ∧ Below w.heap.size w w' := by
  have hck := refRCheck_any A l n c w hV hn hf
  by_cases hc : chkR l = 0
  · rw [hc] at hck
    have hal := fun W (hb : Below w.heap.size w W) => all_row A l n c W (vals_step hV hb) hn hf hc
    have HCK := Lib.hid hck
    by_cases h4 : 4000 < (recL l).length
    · have HZ := Lib.hid (putS_long hc h4)
      have hs := bstr_size (recL l)
      generalize bstr (recL l) = X at *
      have h4I : (4000 : Int) < X.size := by omega
      have HAL := Lib.hid hal
      clear hck hal hs h4 hV hn hf hc
      go_enter Try.func15, Try.ntmps15
      go_wp2_with fail
      refine (HCK.out).mono ?_
      rintro e w1 ⟨rfl, hb1⟩
      go_wp2_with fail
      refine (HAL.out _ hb1).mono ?_
      rintro e w2 ⟨rfl, hb2⟩
      go_wp2
      go_ret2
      exact ⟨by rw [HZ.out]; rfl, bj hb1 hb2⟩
    · have HZ := Lib.hid (putS_ok hc (by omega))
      have hs := bstr_size (recL l)
      generalize bstr (recL l) = X at *
      have h4I : (X.size : Int) ≤ 4000 := by omega
      have HAL := Lib.hid hal
      clear hck hal hs h4 hV hn hf hc
      go_enter Try.func15, Try.ntmps15
      go_wp2_with fail
      refine (HCK.out).mono ?_
      rintro e w1 ⟨rfl, hb1⟩
      go_wp2_with fail
      refine (HAL.out _ hb1).mono ?_
      rintro e w2 ⟨rfl, hb2⟩
      go_wp2
      go_ret2
      exact ⟨by rw [HZ.out]; rfl, bj hb1 hb2⟩
  · have HZ := Lib.hid (putS_bad hc)
    have hne : (chkR l != 0) = true := by rw [bne_iff_ne]; exact hc
    generalize chkR l = E at *
    have HCK := Lib.hid hck
    clear hck hc hV hn hf
    go_enter Try.func15, Try.ntmps15
    go_wp2_with fail
    refine (HCK.out).mono ?_
    rintro e w1 ⟨rfl, hb1⟩
    go_wp2
    go_ret2
    exact ⟨by rw [HZ.out]; rfl, hb1⟩
end Go.Proofs.Ytnnadlbimhnikaa
