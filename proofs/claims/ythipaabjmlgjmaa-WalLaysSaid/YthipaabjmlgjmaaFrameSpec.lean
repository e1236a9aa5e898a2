/- What the functions of package frame answer, in the words of the plain mathematics. Conditions: the numbers fit their kinds, a text is no longer than a machine has addresses. -/
import Derived.Test.YthipaabjmlgjmaaFrameMath
import Derived.Test.YthipaabjmlgjmaaFrameTake
namespace Go.Proofs.Ythipaabjmlgjmaa
open Go.RowKit
theorem bts_cutr (s : ByteArray) (k : Nat) : bts (s.extract k s.size) = (bts s).drop k := by
  unfold bts
  rw [← List.map_drop]
  congr 1
  rw [ByteArray.data_extract, Array.toList_extract]
  show (s.data.toList.drop k).take (s.data.size - k) = _
  rw [List.take_of_length_le (by simp)]
theorem bts_cutn (s : ByteArray) (i k : Nat) : bts (s.extract i (i + k)) = ((bts s).drop i).take k := by
  unfold bts
  rw [← List.map_drop, ← List.map_take]
  congr 1
  rw [ByteArray.data_extract, Array.toList_extract]
  show (s.data.toList.drop i).take (i + k - i) = _
  rw [show i + k - i = k from by omega]
theorem str_ext {x y : ByteArray} (h : x.toList = y.toList) : x = y := by
  rw [ByteArray.toList_eq, ByteArray.toList_eq] at h
  exact ByteArray.ext (Array.ext' h)
theorem str_eq (x : ByteArray) (L : List Nat) (hL : ∀ y ∈ L, y < 256) : (x.toList == (bstr L).toList) = decide (bts x = L) := by
  by_cases h : bts x = L
  · have e : x = bstr L := by rw [← h, bstr_bts]
    rw [decide_eq_true h, e]; simp
  · rw [decide_eq_false h, beq_eq_false_iff_ne]
    exact fun e => h (by rw [str_ext e, bts_bstr L hL])
theorem map_inj {A B : List UInt8} (h : A.map UInt8.toNat = B.map UInt8.toNat) : A = B := by
  induction A generalizing B with
  | nil => cases B with | nil => rfl | cons b B => cases h
  | cons a A ih =>
    cases B with
    | nil => cases h
    | cons b B =>
      simp only [List.map_cons, List.cons.injEq] at h
      rw [UInt8.toNat_inj.1 h.1, ih h.2]
theorem pre_name (s : ByteArray) : Lib.hasPrefix s.data.toList [99, 111, 117, 110, 116, 101, 114, 102] = decide ((bts s).take 8 = nameL) := by
  have e : (bts s).take 8 = nameL ↔ s.data.toList.take 8 = [99, 111, 117, 110, 116, 101, 114, 102] := by
    unfold bts
    rw [← List.map_take, show nameL = ([99, 111, 117, 110, 116, 101, 114, 102] : List UInt8).map UInt8.toNat from rfl]
    exact ⟨map_inj, fun h => by rw [h]⟩
  rw [Bool.eq_iff_iff, decide_eq_true_iff, e]
  unfold Lib.hasPrefix
  rw [List.isPrefixOf_iff_prefix, List.prefix_iff_eq_take]
  exact ⟨fun h => h.symm, fun h => h.symm⟩
theorem hasName (s : ByteArray) (w : World) :
    Calls Try.prog 61 #[.string s, .string ⟨#[99, 111, 117, 110, 116, 101, 114, 102]⟩] w fun e w' => e = .returned (.bool (decide ((bts s).take 8 = nameL))) ∧ w = w' := by
  rw [← pre_name]
  exact (Try.strings_HasPrefix s ⟨#[99, 111, 117, 110, 116, 101, 114, 102]⟩ w).mono fun _ _ h => ⟨h.1, h.2.symm⟩
def headV (N F P e : Nat) : Value := .tuple #[.agg #[.int .u64 N, .int .i64 F, .int .i64 P], .int .i64 e]
def thRet (L : List Nat) : Value := if thErr L = 0 then headV (thN L) (thF L) (thP L) 0 else headV 0 0 0 (thErr L)
theorem fixedS_ok {L : List Nat} {k : Nat} (h : k ≤ L.length) : fixedS L k = (val 0 (L.take k), 0) := by unfold fixedS; rw [if_neg (by omega)]
theorem takeHead_any (s : ByteArray) (w : World) (hz : s.size ≤ 140737488351232) :
    Calls Try.prog 55 #[.string s] w fun e w' => e = .returned (thRet (bts s)) ∧ Below w.heap.size w w' := by
  have hl := bts_length s
  by_cases hs : s.size < 64
  · have h : thErr (bts s) = 10 := by unfold thErr; rw [if_pos (by omega)]
    have e : thRet (bts s) = headV 0 0 0 10 := by unfold thRet; rw [h, if_neg (by decide)]
    rw [e]
    exact takeHead_len s w hs
  · have hm : ∀ k, (s.extract k s.size).size ≤ maxLen := fun k => by simp; unfold maxLen; omega
    have hfit : Fit (addL ((bts s).take 24) (0, 0)) := fit_addL fit0
    have H : HeadIn s (bstr (List.replicate 32 0)) (bstr (textL (addL ((bts s).take 24) (0, 0)).1 (addL ((bts s).take 24) (0, 0)).2)) (thN (bts s)) (thF (bts s)) (thP (bts s)) 0 0 0 (addL ((bts s).take 24) (0, 0)).1 (addL ((bts s).take 24) (0, 0)).2
        (decide ((bts s).take 8 = nameL)) (decide (((bts s).drop 32).take 32 = List.replicate 32 0)) (decide (((bts s).drop 24).take 8 = sumT ((bts s).take 24))) := by
      refine ⟨fun w => ?_, fun w => ?_, fun w => ?_, fun w => hasName s w, fun w => noughts_any 32 w (by omega), fun w => ?_, fun w => text_any _ _ w hfit, ?_, ?_⟩
      · have h := takeEight_any (s.extract 8 s.size) w (hm 8)
        unfold Fixd at h
        rw [bts_cutr, fixedS_ok (by rw [List.length_drop]; omega)] at h
        exact h
      · have h := takeFour_any (s.extract 16 s.size) w (hm 16)
        rw [bts_cutr, fixedS_ok (by rw [List.length_drop]; omega)] at h
        exact h
      · have h := takeFour_any (s.extract 20 s.size) w (hm 20)
        rw [bts_cutr, fixedS_ok (by rw [List.length_drop]; omega)] at h
        exact h
      · have h := of_any (s.extract 0 24) w (by simp; omega)
        have e := bts_cutn s 0 24
        rw [List.drop_zero, Nat.zero_add] at e
        rw [e] at h
        exact h
      · have e := bts_cutn s 32 32
        rw [str_eq _ _ (fun x hx => by rw [(List.mem_replicate.1 hx).2]; decide), e]
      · have e := bts_cutn s 24 8
        rw [str_eq _ _ (text_lt _ _), e]; rfl
    have hF0 : (0 : Int) ≤ thF (bts s) := by omega
    have hP0 : (0 : Int) ≤ thP (bts s) := by omega
    have bad : thErr (bts s) = 11 → ∀ (e : Ending) (w' : World), e = .returned (.tuple #[.agg #[.int .u64 0, .int .i64 0, .int .i64 0], .int .i64 11]) ∧ Below w.heap.size w w' → e = .returned (thRet (bts s)) ∧ Below w.heap.size w w' := fun h e w' he => by
      have e' : thRet (bts s) = headV 0 0 0 11 := by unfold thRet; rw [h, if_neg (by decide)]
      rw [e']; exact he
    by_cases hp : (bts s).take 8 = nameL
    · by_cases hz' : ((bts s).drop 32).take 32 = List.replicate 32 0
      · rw [decide_eq_true hp, decide_eq_true hz'] at H
        by_cases hF : thF (bts s) ≤ 256
        · by_cases hP : thP (bts s) ≤ 256
          · by_cases hq : ((bts s).drop 24).take 8 = sumT ((bts s).take 24)
            · rw [decide_eq_true hq] at H
              have h : thErr (bts s) = 0 := by unfold thErr; rw [if_neg (by omega), if_neg (fun h => h ⟨hp, hz', hF, hP⟩), if_neg (fun h => h hq)]
              have e' : thRet (bts s) = headV (thN (bts s)) (thF (bts s)) (thP (bts s)) 0 := by unfold thRet; rw [if_pos h]
              rw [e']
              exact takeHead_f w (by omega) (Lib.hid H) hF0 (by omega) (by omega) hP0
            · rw [decide_eq_false hq] at H
              have h : thErr (bts s) = 40 := by unfold thErr; rw [if_neg (by omega), if_neg (fun h => h ⟨hp, hz', hF, hP⟩), if_pos hq]
              have e' : thRet (bts s) = headV 0 0 0 40 := by unfold thRet; rw [h, if_neg (by decide)]
              rw [e']
              exact takeHead_e w (by omega) (Lib.hid H) hF0 (by omega) (by omega) hP0
          · exact (takeHead_d w (by omega) (Lib.hid H) hF0 (by omega) (by omega)).mono (bad (by unfold thErr; rw [if_neg (by omega), if_pos (fun h => hP h.2.2.2)]))
        · exact (takeHead_c w (by omega) (Lib.hid H) hF0 (by omega)).mono (bad (by unfold thErr; rw [if_neg (by omega), if_pos (fun h => hF h.2.2.1)]))
      · rw [decide_eq_true hp, decide_eq_false hz'] at H
        exact (takeHead_b w (by omega) (Lib.hid H)).mono (bad (by unfold thErr; rw [if_neg (by omega), if_pos (fun h => hz' h.2.1)]))
    · rw [decide_eq_false hp] at H
      exact (takeHead_a w (by omega) (Lib.hid H)).mono (bad (by unfold thErr; rw [if_neg (by omega), if_pos (fun h => hp h.1)]))
def putHeadRet (N F P : Int) : Value := if okIn 256 F && okIn 256 P then .tuple #[.string (bstr (headL N.toNat F.toNat P.toNat)), .int .i64 0] else .tuple #[.string ⟨#[]⟩, .int .i64 2]
theorem okIn_iff (F : Int) : okIn 256 F = true ↔ 0 ≤ F ∧ F ≤ 256 := by simp [okIn]
theorem putHead_any (N F P : Int) (w : World) (h0 : 0 ≤ N) (hN : N < 18446744073709551616) :
    Calls Try.prog 37 #[.agg #[.int .u64 N, .int .i64 F, .int .i64 P]] w fun e w' => e = .returned (putHeadRet N F P) ∧ Below w.heap.size w w' := by
  unfold putHeadRet
  cases hF : okIn 256 F with
  | false => exact putHead_bad N F P w (.inl hF)
  | true =>
    cases hP : okIn 256 P with
    | false => exact putHead_bad N F P w (.inr ⟨hF, hP⟩)
    | true =>
      obtain ⟨f0, f1⟩ := (okIn_iff F).1 hF
      obtain ⟨p0, p1⟩ := (okIn_iff P).1 hP
      obtain ⟨n, rfl⟩ := Int.eq_ofNat_of_zero_le h0
      obtain ⟨f, rfl⟩ := Int.eq_ofNat_of_zero_le f0
      obtain ⟨p, rfl⟩ := Int.eq_ofNat_of_zero_le p0
      exact putHead_ok n f p w (by omega) (by omega) (by omega)
def putRet (p1 p2 salt pg cm : Int) (d : ByteArray) : Value :=
  if okF pg cm d.size then .tuple #[.string (bstr (frameL (p1, p2) pg.toNat cm.toNat salt.toNat (bts d))), .agg #[.int .u32 (frameQ (p1, p2) pg.toNat cm.toNat salt.toNat (bts d)).1, .int .u32 (frameQ (p1, p2) pg.toNat cm.toNat salt.toNat (bts d)).2], .int .i64 0]
  else .tuple #[.string ⟨#[]⟩, .agg #[.int .u32 0, .int .u32 0], .int .i64 2]
theorem okF_iff (pg cm : Int) (n : Nat) : okF pg cm n = true ↔ 0 < pg ∧ pg ≤ 256 ∧ 0 ≤ cm ∧ cm ≤ 256 ∧ n = 512 := by
  unfold okF
  rw [Bool.and_eq_true, Bool.and_eq_true, Bool.and_eq_true, okIn_iff, okIn_iff]
  simp; omega
theorem put_any (p1 p2 salt pg cm : Int) (d : ByteArray) (w : World) (hp : Fit (p1, p2)) (h0 : 0 ≤ salt) (hs : salt < 18446744073709551616) :
    Calls Try.prog 66 #[.agg #[.int .u32 p1, .int .u32 p2], .int .u64 salt, .agg #[.int .i64 pg, .int .i64 cm, .string d]] w fun e w' => e = .returned (putRet p1 p2 salt pg cm d) ∧ Below w.heap.size w w' := by
  unfold putRet
  cases h : okF pg cm d.size with
  | false => exact put_bad p1 p2 salt pg cm d w h
  | true =>
    obtain ⟨h1, h2, h3, h4, h5⟩ := (okF_iff _ _ _).1 h
    obtain ⟨n, rfl⟩ := Int.eq_ofNat_of_zero_le h0
    obtain ⟨g, rfl⟩ := Int.eq_ofNat_of_zero_le (show 0 ≤ pg from by omega)
    obtain ⟨c, rfl⟩ := Int.eq_ofNat_of_zero_le h3
    exact put_ok p1 p2 n g c d w hp (by omega) (by omega) (by omega) h5 h
def tfRet (p : Int × Int) (salt : Nat) (s : ByteArray) : Value :=
  if fErr p salt (bts s) = 0 then .tuple #[.agg #[.int .i64 (fW (bts s) 0), .int .i64 (fW (bts s) 1), .string (s.extract 64 576)], .agg #[.int .u32 (fQ p (bts s)).1, .int .u32 (fQ p (bts s)).2], .int .i64 0]
  else takeZero (fErr p salt (bts s))
theorem take_any (p1 p2 : Int) (salt : Nat) (s : ByteArray) (w : World) (hp : Fit (p1, p2)) (hz : s.size ≤ 140737488351232) :
    Calls Try.prog 56 #[.agg #[.int .u32 p1, .int .u32 p2], .int .u64 salt, .string s] w fun e w' => e = .returned (tfRet (p1, p2) salt s) ∧ Below w.heap.size w w' := by
  have hl := bts_length s
  by_cases hs : s.size < 576
  · have h : fErr (p1, p2) salt (bts s) = 10 := by unfold fErr; rw [if_pos (by omega)]
    unfold tfRet
    rw [h, if_neg (by decide)]
    exact take_len p1 p2 salt s w hs
  · have hX : ∀ k, k ≤ 5 → wordX s k = fW (bts s) k := fun k hk => by
      unfold wordX fW
      rw [bts_cutr, fixedS_ok (by rw [List.length_drop]; omega)]
    have hfA : Fit (addL ((bts s).take 16) (p1, p2)) := fit_addL hp
    have hfQ : Fit (fQ (p1, p2) (bts s)) := fit_addL hfA
    have e16 : bts (s.extract 0 16) = (bts s).take 16 := by
      have e := bts_cutn s 0 16
      rwa [List.drop_zero, Nat.zero_add] at e
    have e512 : bts (s.extract 64 576) = fD (bts s) := bts_cutn s 64 512
    have esz : (s.extract 64 576).size = 512 := by simp; omega
    have H : TakeIn s (bstr (List.replicate 40 0)) p1 p2 (addL ((bts s).take 16) (p1, p2)).1 (addL ((bts s).take 16) (p1, p2)).2 (fQ (p1, p2) (bts s)).1 (fQ (p1, p2) (bts s)).2 (decide (((bts s).drop 24).take 40 = List.replicate 40 0)) := by
      refine ⟨fun w => words_any s w (by omega) hz, fun w => noughts_any 40 w (by omega), fun w => ?_, fun w => ?_, ?_⟩
      · have h := add_any p1 p2 (s.extract 0 16) w hp (by simp; omega)
        rw [e16] at h
        exact h
      · have h := add_any _ _ (s.extract 64 576) w hfA (by omega)
        rw [e512] at h
        exact h
      · rw [str_eq _ _ (fun x hx => by rw [(List.mem_replicate.1 hx).2]; decide), bts_cutn s 24 40]
    have ho : okF (wordX s 0) (wordX s 1) (s.extract 64 576).size = decide (0 < fW (bts s) 0 ∧ fW (bts s) 0 ≤ 256 ∧ fW (bts s) 1 ≤ 256) := by
      rw [hX 0 (by omega), hX 1 (by omega), esz, Bool.eq_iff_iff, okF_iff, decide_eq_true_iff]
      omega
    have hv := val8_split (L := ((bts s).drop 8).take 8) (len_cut (by omega))
    have hlt2 := val4_lt (L := ((bts s).drop 8).take 4) (len_cut (by omega)) (mem_cut (bts_lt s) 8 4)
    have hlt3 := val4_lt (L := ((bts s).drop 12).take 4) (len_cut (by omega)) (mem_cut (bts_lt s) 12 4)
    have hsalt : bits .or .u64 ((wordX s 2 : Int) * 4294967296) (wordX s 3 : Int) = fSalt (bts s) := by
      rw [hX 2 (by omega), hX 3 (by omega)]
      unfold fSalt fW
      rw [hv, List.take_take, List.drop_take, List.take_take, List.drop_drop, show 4 * 2 = 8 from rfl, show 4 * 3 = 12 from rfl, show min 4 8 = 4 from rfl, show min 4 (8 - 4) = 4 from rfl, show 8 + 4 = 12 from rfl]
      generalize val 0 (((bts s).drop 8).take 4) = x at *
      generalize val 0 (((bts s).drop 12).take 4) = y at *
      have := bits_or_u64_nat (x * 4294967296) y (by omega) (by omega)
      rw [show (4294967296 : Nat) = 2 ^ 32 from rfl, or_low x y 32 (by omega)] at this
      simpa using this
    have hsa : (bits .or .u64 ((wordX s 2 : Int) * 4294967296) (wordX s 3 : Int) != (salt : Int)) = !(decide (fSalt (bts s) = salt)) := by
      rw [hsalt]
      rcases Nat.decEq (fSalt (bts s)) salt with h | h
      · rw [decide_eq_false h, Bool.not_false, bne_iff_ne]; omega
      · rw [h]; simp
    have h := take_core p1 p2 salt (addL ((bts s).take 16) (p1, p2)).1 (addL ((bts s).take 16) (p1, p2)).2 (fQ (p1, p2) (bts s)).1 (fQ (p1, p2) (bts s)).2 s (bstr (List.replicate 40 0)) _ _ _ _ w (by omega) (Lib.hid H) ho hsa rfl
    rw [hX 0 (by omega), hX 1 (by omega), hX 4 (by omega), hX 5 (by omega)] at h
    have hQ : decide ((fQ (p1, p2) (bts s)).1 = (fW (bts s) 4 : Int) ∧ (fQ (p1, p2) (bts s)).2 = (fW (bts s) 5 : Int)) = decide (fQ (p1, p2) (bts s) = ((fW (bts s) 4 : Int), (fW (bts s) 5 : Int))) := by
      rw [Bool.eq_iff_iff, decide_eq_true_iff, decide_eq_true_iff, Prod.ext_iff]
    rw [hQ] at h
    refine h.mono fun e w' he => ⟨he.1.trans ?_, he.2⟩
    congr 1
    have hn : ¬ (bts s).length < 576 := by omega
    have off : ∀ k, fErr (p1, p2) salt (bts s) = k → k ≠ 0 → tfRet (p1, p2) salt s = takeZero k := fun k hk h0 => by unfold tfRet; rw [hk, if_neg h0]
    by_cases c1 : ((bts s).drop 24).take 40 = List.replicate 40 0
    · rw [decide_eq_true c1]
      by_cases c2 : 0 < fW (bts s) 0 ∧ fW (bts s) 0 ≤ 256 ∧ fW (bts s) 1 ≤ 256
      · rw [decide_eq_true c2]
        by_cases c3 : fSalt (bts s) = salt
        · rw [decide_eq_true c3]
          by_cases c4 : fQ (p1, p2) (bts s) = ((fW (bts s) 4 : Int), (fW (bts s) 5 : Int))
          · rw [decide_eq_true c4]
            have e : fErr (p1, p2) salt (bts s) = 0 := by unfold fErr; rw [if_neg hn, if_neg (fun h => h ⟨c1, c2⟩), if_neg (fun h => h c3), if_neg (fun h => h c4)]
            unfold tfRet
            rw [if_pos e]
            rfl
          · rw [decide_eq_false c4, off 40 (by unfold fErr; rw [if_neg hn, if_neg (fun h => h ⟨c1, c2⟩), if_neg (fun h => h c3), if_pos c4]) (by decide)]
            rfl
        · rw [decide_eq_false c3, off 41 (by unfold fErr; rw [if_neg hn, if_neg (fun h => h ⟨c1, c2⟩), if_pos c3]) (by decide)]
          rfl
      · rw [decide_eq_false c2, off 11 (by unfold fErr; rw [if_neg hn, if_pos (fun h => c2 h.2)]) (by decide)]
        rfl
    · rw [decide_eq_false c1, off 11 (by unfold fErr; rw [if_neg hn, if_pos (fun h => c1 h.1)]) (by decide)]
      rfl
end Go.Proofs.Ythipaabjmlgjmaa
