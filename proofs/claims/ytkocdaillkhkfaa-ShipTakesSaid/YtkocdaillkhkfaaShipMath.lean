/- Plain mathematics of a ship's bytes. Conditions: those of each lemma. -/
import Derived.Test.YtkocdaillkhkfaaShipTake1
namespace Go.Proofs.Ytkocdaillkhkfaa
open Go.RowKit
set_option linter.unusedVariables false
def vAt (s : ByteArray) (i : Nat) : Nat := val 0 (((bts s).drop i).take 8)
def imgAt (s : ByteArray) (i : Nat) : Int × ByteArray := (wrap64 (vAt s i), s.extract (i + 8) (i + 520))
def imgsN (s : ByteArray) (n : Nat) : List (Int × ByteArray) := (List.range n).map fun j => imgAt s (56 + 520 * j)
def pgsOk (s : ByteArray) (n : Nat) : Bool := (List.range n).all fun j => decide (vAt s (56 + 520 * j) ≤ 256)
def sumOk (s : ByteArray) : Prop := sumT ((bts s).drop 8) = (bts s).take 8
def tkB (s : ByteArray) : Bool :=
  decide (vAt s 8 ≤ 2) && decide (vAt s 32 ≤ 1) && decide (vAt s 40 ≤ 256) && decide (vAt s 48 ≤ 256) && decide (s.size = 56 + 520 * vAt s 48) && pgsOk s (vAt s 48) && shipOk (vAt s 8) (vAt s 24) (decide (vAt s 32 = 1)) (vAt s 40) (imgsN s (vAt s 48))
structure IsShip (s : ByteArray) (kind ep K : Nat) (full : Bool) (pages : Nat) (l : List (Int × ByteArray)) : Prop where
  text : bts s = shipL kind ep K full pages l
  ok : shipOk kind K full pages l = true
  hkind : kind ≤ 2
  hep : ep < 18446744073709551616
  hK : K < 18446744073709551616
  hpages : pages ≤ 256
  hlen : l.length ≤ 256
  himg : ∀ x ∈ l, x.2.size = 512 ∧ 0 ≤ x.1 ∧ x.1 ≤ 256
theorem imgsN_len (s : ByteArray) (n : Nat) : (imgsN s n).length = n := by simp [imgsN]
theorem imgsN_succ (s : ByteArray) (n : Nat) : imgsN s (n + 1) = imgsN s n ++ [imgAt s (56 + 520 * n)] := by simp [imgsN, List.range_succ]
theorem pgsOk_succ (s : ByteArray) (n : Nat) : pgsOk s (n + 1) = (pgsOk s n && decide (vAt s (56 + 520 * n) ≤ 256)) := by simp [pgsOk, List.range_succ]
theorem pgsOk_at {s : ByteArray} {n j : Nat} (h : pgsOk s n = true) (hj : j < n) : vAt s (56 + 520 * j) ≤ 256 := by
  unfold pgsOk at h
  rw [List.all_eq_true] at h
  exact of_decide_eq_true (h j (List.mem_range.2 hj))
theorem imgsN_getElem (s : ByteArray) (n j : Nat) (h : j < n) : (imgsN s n)[j]? = some (imgAt s (56 + 520 * j)) := by
  simp [imgsN, h]
theorem vAt_lt (s : ByteArray) (i : Nat) (h : i + 8 ≤ s.size) : vAt s i < 18446744073709551616 ∧ eightL (vAt s i) = ((bts s).drop i).take 8 := by
  have hl : ∀ x ∈ ((bts s).drop i).take 8, x < 256 := fun x hx => bts_lt s x (List.mem_of_mem_drop (List.mem_of_mem_take hx))
  have h2 := eightL_val (L := ((bts s).drop i).take 8) (len_cut (by rw [bts_length]; exact h)) hl
  exact ⟨h2.2, h2.1⟩
theorem take8_cut (s : ByteArray) (i : Nat) : take8 (s.extract i s.size) = vAt s i := by
  unfold take8 vAt
  rw [bts_cutr]
theorem wrap_small {n : Nat} (h : n ≤ 256) : wrap64 (n : Int) = n := by unfold wrap64; omega
theorem imgL_at (s : ByteArray) (i : Nat) (h : i + 520 ≤ s.size) (hv : vAt s i ≤ 256) : imgL (imgAt s i) = ((bts s).drop i).take 520 := by
  unfold imgL imgAt
  simp only
  rw [wrap_small hv, Int.toNat_natCast, (vAt_lt s i (by omega)).2, show i + 520 = i + 8 + 512 from by omega, bts_cutn]
  rw [show 520 = 8 + 512 from rfl, List.take_add, List.drop_drop]
theorem imgsL_app (a b : List (Int × ByteArray)) : imgsL (a ++ b) = imgsL a ++ imgsL b := by simp [imgsL]
theorem imgsL_one (x : Int × ByteArray) : imgsL [x] = imgL x := by unfold imgsL; rw [List.flatMap_cons, List.flatMap_nil, List.append_nil]
set_option maxRecDepth 100000 in
theorem imgsL_N (s : ByteArray) (n : Nat) (h : 56 + 520 * n ≤ s.size) (hv : pgsOk s n = true) : imgsL (imgsN s n) = ((bts s).drop 56).take (520 * n) := by
  induction n with
  | zero => simp [imgsL, imgsN]
  | succ n ih =>
    rw [pgsOk_succ] at hv
    obtain ⟨hv1, hv2⟩ := Bool.and_eq_true_iff.1 hv
    have hv3 : vAt s (56 + 520 * n) ≤ 256 := of_decide_eq_true hv2
    have h1 : 56 + 520 * n ≤ s.size := by omega
    have h2 : 56 + 520 * n + 520 ≤ s.size := by omega
    have h3 := imgL_at s (56 + 520 * n) h2 hv3
    rw [imgsN_succ, imgsL_app, ih h1 hv1, imgsL_one, h3, Nat.mul_succ, List.take_add, List.drop_drop]
theorem imgAt_ok (s : ByteArray) (n : Nat) (h : s.size = 56 + 520 * n) (hv : pgsOk s n = true) : ∀ x ∈ imgsN s n, x.2.size = 512 ∧ 0 ≤ x.1 ∧ x.1 ≤ 256 := by
  intro x hx
  unfold imgsN at hx
  obtain ⟨j, hj, rfl⟩ := List.mem_map.1 hx
  have hjn := List.mem_range.1 hj
  have hb := pgsOk_at hv hjn
  unfold imgAt
  simp only
  rw [wrap_small hb, ByteArray.size_extract]
  omega
theorem six_cut (L : List Nat) : L.drop 8 = (L.drop 8).take 8 ++ ((L.drop 16).take 8 ++ ((L.drop 24).take 8 ++ ((L.drop 32).take 8 ++ ((L.drop 40).take 8 ++ ((L.drop 48).take 8 ++ L.drop 56))))) := by
  have e : ∀ i, L.drop i = (L.drop i).take 8 ++ L.drop (i + 8) := fun i => by
    conv => lhs; rw [← List.take_append_drop 8 (L.drop i)]
    rw [List.drop_drop]
  conv => lhs; rw [e 8, e (8 + 8), e (8 + 8 + 8), e (8 + 8 + 8 + 8), e (8 + 8 + 8 + 8 + 8), e (8 + 8 + 8 + 8 + 8 + 8)]
theorem shipB_cut (kind ep K : Nat) (full : Bool) (pages : Nat) (l : List (Int × ByteArray)) :
    shipB kind ep K full pages l = eightL kind ++ (eightL ep ++ (eightL K ++ (eightL (if full then 1 else 0) ++ (eightL pages ++ (eightL l.length ++ imgsL l))))) := by
  simp [shipB, shipH, flat8, List.append_assoc]
theorem tk_ship {s : ByteArray} (h56 : 56 ≤ s.size) (hsum : sumOk s) (hb : tkB s = true) : IsShip s (vAt s 8) (vAt s 16) (vAt s 24) (decide (vAt s 32 = 1)) (vAt s 40) (imgsN s (vAt s 48)) := by
  unfold tkB at hb
  simp only [Bool.and_eq_true, decide_eq_true_eq] at hb
  obtain ⟨⟨⟨⟨⟨⟨b1, b2⟩, b3⟩, b4⟩, b5⟩, b6⟩, b7⟩ := hb
  have e : (bts s).drop 8 = shipB (vAt s 8) (vAt s 16) (vAt s 24) (decide (vAt s 32 = 1)) (vAt s 40) (imgsN s (vAt s 48)) := by
    rw [shipB_cut, imgsN_len, imgsL_N s _ (by omega) b6, List.take_of_length_le (by rw [List.length_drop, bts_length]; omega)]
    have e4 : (if decide (vAt s 32 = 1) = true then 1 else 0) = vAt s 32 := by
      by_cases h : vAt s 32 = 1
      · simp [h]
      · have : vAt s 32 = 0 := by omega
        simp [this]
    rw [e4, (vAt_lt s 8 (by omega)).2, (vAt_lt s 16 (by omega)).2, (vAt_lt s 24 (by omega)).2, (vAt_lt s 32 (by omega)).2, (vAt_lt s 40 (by omega)).2, (vAt_lt s 48 (by omega)).2]
    exact six_cut _
  refine ⟨?_, b7, b1, (vAt_lt s 16 (by omega)).1, (vAt_lt s 24 (by omega)).1, b3, by rw [imgsN_len]; exact b4, imgAt_ok s _ b5 b6⟩
  unfold shipL
  rw [← e]
  unfold sumOk at hsum
  rw [hsum, List.take_append_drop]
theorem vAt_of {s : ByteArray} {i x : Nat} {R : List Nat} (h : (bts s).drop i = eightL x ++ R) (hx : x < 18446744073709551616) : vAt s i = x ∧ (bts s).drop (i + 8) = R := by
  refine ⟨?_, ?_⟩
  · unfold vAt
    rw [h, take_app (A := eightL x) (k := 8) rfl, val_eightL hx]
  · rw [← List.drop_drop, h, drop_app (A := eightL x) (k := 8) rfl]
theorem imgL_len {x : Int × ByteArray} (h : x.2.size = 512) : (imgL x).length = 520 := by
  unfold imgL
  rw [List.length_append, bts_length, h]
  rfl
theorem sumT_len (L : List Nat) : (sumT L).length = 8 := rfl
theorem imgs_drop {s : ByteArray} {l : List (Int × ByteArray)} (h : (bts s).drop 56 = imgsL l) (hl : ∀ x ∈ l, x.2.size = 512 ∧ 0 ≤ x.1 ∧ x.1 ≤ 256) (j : Nat) (hj : j ≤ l.length) : (bts s).drop (56 + 520 * j) = imgsL (l.drop j) := by
  induction j with
  | zero => simpa using h
  | succ j ih =>
    have h1 := ih (by omega)
    have hjl : j < l.length := by omega
    rw [show 56 + 520 * (j + 1) = 56 + 520 * j + 520 from by omega, ← List.drop_drop, h1, List.drop_eq_getElem_cons hjl]
    show (imgL l[j] ++ imgsL (l.drop (j + 1))).drop 520 = _
    exact drop_app (imgL_len (hl _ (List.getElem_mem hjl)).1)
theorem ext_bts {s : ByteArray} {d : ByteArray} {i n : Nat} (h : ((bts s).drop i).take n = bts d) : s.extract i (i + n) = d := bts_inj (by rw [bts_cutn, h])
theorem ship_size {s : ByteArray} {kind ep K : Nat} {full : Bool} {pages : Nat} {l : List (Int × ByteArray)} (h : IsShip s kind ep K full pages l) : s.size = 56 + 520 * l.length := by
  rw [← bts_length, h.text]
  unfold shipL shipB
  rw [List.length_append, List.length_append, sumT_len, shipH_length, imgsL_length l (fun x hx => (h.himg x hx).1)]
  omega
theorem ship_sum {s : ByteArray} {kind ep K : Nat} {full : Bool} {pages : Nat} {l : List (Int × ByteArray)} (h : IsShip s kind ep K full pages l) : sumOk s := by
  unfold sumOk
  rw [h.text]
  unfold shipL
  rw [drop_app (A := sumT _) (sumT_len _), take_app (A := sumT _) (sumT_len _)]
theorem ship_tk {s : ByteArray} {kind ep K : Nat} {full : Bool} {pages : Nat} {l : List (Int × ByteArray)} (h : IsShip s kind ep K full pages l) :
    tkB s = true ∧ vAt s 8 = kind ∧ vAt s 16 = ep ∧ vAt s 24 = K ∧ vAt s 32 = (if full then 1 else 0) ∧ vAt s 40 = pages ∧ vAt s 48 = l.length ∧ imgsN s l.length = l := by
  have hs := ship_size h
  have e8 : (bts s).drop 8 = shipB kind ep K full pages l := by
    rw [h.text]; unfold shipL; exact drop_app (A := sumT _) (sumT_len _)
  rw [shipB_cut] at e8
  have hlen := h.hlen
  have hp := h.hpages
  have hk := h.hkind
  obtain ⟨v1, e16⟩ := vAt_of e8 (by omega)
  obtain ⟨v2, e24⟩ := vAt_of e16 h.hep
  obtain ⟨v3, e32⟩ := vAt_of e24 h.hK
  obtain ⟨v4, e40⟩ := vAt_of e32 (by split <;> omega)
  obtain ⟨v5, e48⟩ := vAt_of e40 (by omega)
  obtain ⟨v6, e56⟩ := vAt_of e48 (by omega)
  have at_ : ∀ j (hj : j < l.length), vAt s (56 + 520 * j) = (l[j].1).toNat ∧ imgAt s (56 + 520 * j) = l[j] := fun j hj => by
    have hx := h.himg _ (List.getElem_mem hj)
    have hd := imgs_drop e56 h.himg j (by omega)
    rw [List.drop_eq_getElem_cons hj] at hd
    have hd2 : (bts s).drop (56 + 520 * j) = eightL (l[j].1).toNat ++ (bts l[j].2 ++ imgsL (l.drop (j + 1))) := by
      rw [hd, ← List.append_assoc]; rfl
    obtain ⟨va, ea⟩ := vAt_of hd2 (by omega)
    refine ⟨va, ?_⟩
    unfold imgAt
    rw [va, wrap_small (by omega)]
    have hd3 : s.extract (56 + 520 * j + 8) (56 + 520 * j + 520) = l[j].2 := by
      rw [show 56 + 520 * j + 520 = 56 + 520 * j + 8 + 512 from by omega]
      refine ext_bts ?_
      rw [ea]
      exact take_app (by rw [bts_length]; exact hx.1)
    rw [hd3]
    exact Prod.ext (by show ((l[j].1.toNat : Nat) : Int) = l[j].1; omega) rfl
  have hN : imgsN s l.length = l := by
    refine List.ext_getElem (by rw [imgsN_len]) fun j h1 h2 => ?_
    have := (at_ j h2).2
    simp only [imgsN, List.getElem_map, List.getElem_range]
    exact this
  have hpg : pgsOk s l.length = true := by
    unfold pgsOk
    rw [List.all_eq_true]
    intro j hj
    have hjl := List.mem_range.1 hj
    have hx := h.himg _ (List.getElem_mem hjl)
    rw [(at_ j hjl).1]
    exact decide_eq_true (by omega)
  refine ⟨?_, v1, v2, v3, v4, v5, v6, hN⟩
  unfold tkB
  rw [v1, v3, v4, v5, v6, hN, hpg]
  have hf : decide ((if full = true then 1 else 0) = 1) = full := by cases full <;> rfl
  rw [hf, h.ok, decide_eq_true hk, decide_eq_true hp, decide_eq_true hlen, decide_eq_true hs]
  cases full <;> rfl
theorem sumT_inj {A B : List Nat} (h : sumT A = sumT B) : addL A (0, 0) = addL B (0, 0) := textL_inj (fit_addL fit0) (fit_addL fit0) h
theorem ship_near {s t : ByteArray} {k0 : Nat} (hn : Near (bts s) (bts t) k0) (hl : s.size = t.size) (h8 : 8 ≤ s.size) (hs : sumOk s) (ht : sumOk t) : s = t := by
  refine bts_inj ?_
  unfold sumOk at hs ht
  have hL : ∀ x ∈ bts s, x < 256 := fun x hx => bts_lt s x hx
  have hM : ∀ x ∈ bts t, x < 256 := fun x hx => bts_lt t x hx
  have lL := bts_length s
  have lM := bts_length t
  generalize bts s = L at *
  generalize bts t = M at *
  have hlen : L.length = M.length := by omega
  by_cases hk : k0 = 0
  · have e : L.drop 8 = M.drop 8 := by
      have := cut_eq hlen 8 L.length fun i h1 _ => hn i (by omega)
      rwa [List.take_of_length_le (by rw [List.length_drop]; omega), List.take_of_length_le (by rw [List.length_drop]; omega)] at this
    rw [← List.take_append_drop 8 L, ← List.take_append_drop 8 M, ← hs, ← ht, e]
  · have e : L.take 8 = M.take 8 := by
      have := cut_eq hlen 0 8 fun i _ h1 => hn i (by omega)
      simpa using this
    have hq : addL (L.drop 8) (0, 0) = addL (M.drop 8) (0, 0) := sumT_inj (by rw [hs, ht, e])
    by_cases hbig : L.length ≤ 8 * k0
    · refine list_of_getD hlen fun i => ?_
      by_cases hi : i < L.length
      · exact hn i (by omega)
      · rw [List.getD_eq_getElem?_getD, List.getD_eq_getElem?_getD, List.getElem?_eq_none (by omega), List.getElem?_eq_none (by omega)]
    · have gX : ∀ (Y : List Nat) i, (Y.drop 8).getD i 0 = Y.getD (8 + i) 0 := fun Y i => by
        rw [List.getD_eq_getElem?_getD, List.getD_eq_getElem?_getD, List.getElem?_drop]
      have hx := (addL_near (L := L.drop 8) (M := M.drop 8) (k0 := k0 - 1) (fun i hi => by
        rw [gX, gX]
        exact hn _ (by omega)) (by rw [List.length_drop, List.length_drop, hlen]) (by rw [List.length_drop]; omega)
        (getD_of_lt fun x hx => hL x (List.mem_of_mem_drop hx)) (getD_of_lt fun x hx => hM x (List.mem_of_mem_drop hx)) (0, 0) fit0).1 hq
      rw [← List.take_append_drop 8 L, ← List.take_append_drop 8 M, e, hx]
end Go.Proofs.Ytkocdaillkhkfaa
