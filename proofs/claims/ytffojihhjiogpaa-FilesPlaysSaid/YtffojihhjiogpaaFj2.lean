/- Layer 3: ref03's does. Conditions: those of each lemma. -/
import Derived.Test.YtffojihhjiogpaaFj1
namespace Go.Proofs.Ytffojihhjiogpaa
open Go.RowKit Go Go.Maps
set_option linter.unusedVariables false
set_option linter.unusedSimpArgs false
/-- a change's text, as ref03 has it -/
def chS (c : Ch) : ByteArray := if c.cut then ⟨#[]⟩ else bstr c.bytes
abbrev rcC (c : Ch) : Array Value := #[.int .i64 c.file, .int .i64 c.pl, .bool c.cut, .string (chS c)]
def slLen : Value → Nat
  | .slice _ n _ => n
  | _ => 0
theorem rdS_at {W : World} {A : Option Addr} {l : Fl} (h : RdS W A l) {j : Nat} (hj : j < l.length) : ∃ b o, A = some ⟨b, o, none⟩ ∧ b < W.heap.size ∧ ∀ (k : Nat) (s : Sec), l[k]? = some s → W.cell? ⟨b, o + k, none⟩ = some (.string (bstr s)) := by
  obtain ⟨⟨b, o, spot⟩, hA, hb, hc⟩ := rdS_get h hj
  have h0 := hc 0 _ (List.getElem?_eq_getElem (show 0 < l.length by omega))
  have hspot : spot = none := by simpa [Addr.add] using World.cell?_spot h0
  subst hspot
  have ea : ∀ i, (⟨b, o, none⟩ : Addr).add i = ⟨b, o + i, none⟩ := fun i => by unfold Addr.add; split <;> simp_all
  exact ⟨b, o, hA, hb, fun k s hs => by rw [← ea]; exact hc k s hs⟩
theorem ownS_form {W : World} {base : Nat} {A : Option Addr} {n c : Nat} {l : Fl} (h : OwnS W base (.slice A n c) l) (hn : 0 < n) : ∃ g cur, A = some ⟨g, 0, none⟩ ∧ base ≤ g ∧ Blk W g 9 cur ∧ n ≤ cur.size ∧ (∀ (k : Nat) (s : Sec), l[k]? = some s → cur[k]? = some (Value.string (bstr s))) := by
  obtain ⟨e, _⟩ := ownS_rd h
  subst e
  rcases h.2 with ⟨h0, hn0⟩ | ⟨g, cap, cur, hv, hg, hh, hnc, hcm, hsz, htk⟩
  · omega
  · injection hv with h1 h2 h3
    refine ⟨g, cur, h1, hg, hh, by omega, fun k s hs => ?_⟩
    have h4 := strL_get hs
    rw [← htk, Nat.mul_one] at h4
    have hk : k < l.length := (List.getElem?_eq_some_iff.1 hs).1
    rw [List.getElem?_take, if_pos hk] at h4
    rw [← Array.getElem?_toList]
    exact h4
/-- a string is stored into a row of one's own -/
theorem ownS_set {W : World} {base g : Nat} {n c k : Nat} {l : Fl} {s : Sec} (h : OwnS W base (.slice (some ⟨g, 0, none⟩) n c) l) (hk : k < n) : RdS (W.setCell ⟨g, k, none⟩ (.string (bstr s))) (some ⟨g, 0, none⟩) (l.set k s) := by
  obtain ⟨e, _⟩ := ownS_rd h
  subst e
  obtain ⟨g', cur, hA, hg, hb, hsz, hc⟩ := ownS_form h (by omega)
  cases hA
  have hb2 := hb.set_ k (.string (bstr s))
  refine ⟨by rw [strL_len, Nat.mul_one], fun _ => ⟨_, rfl, hb2.lt, fun j u hu => ?_⟩⟩
  have ea : (⟨g, 0, none⟩ : Addr).add j = ⟨g, j, none⟩ := by unfold Addr.add; simp; omega
  rw [ea, hb2.cell, Array.getElem?_setIfInBounds]
  unfold strL at hu
  rw [List.getElem?_map, List.getElem?_set] at hu
  by_cases e : k = j
  · subst e
    rw [if_pos rfl, if_pos (by omega)]
    rw [if_pos rfl, if_pos hk] at hu
    simpa using hu
  · rw [if_neg e]
    rw [if_neg e] at hu
    cases hl : l[j]? with
    | none => rw [hl] at hu; cases hu
    | some x => rw [hl] at hu; rw [hc j x hl]; simpa using hu
/-- what does answers -/
def DoP (w : World) (l : Fl) (e : Ending) (w' : World) : Prop := ∃ A c, e = .returned (.slice A l.length c) ∧ RdS w' A l ∧ (l ≠ [] → ∀ a, A = some a → w.heap.size ≤ a.block) ∧ Below w.heap.size w w'
theorem doP_own {w W : World} {base : Nat} {A : Option Addr} {n c : Nat} {l : Fl} (hb : w.heap.size ≤ base) (h : OwnS W base (.slice A n c) l) (hbel : Below w.heap.size w W) : DoP w l (.returned (.slice A n c)) W := by
  obtain ⟨e, hr⟩ := ownS_rd h
  subst e
  refine ⟨A, c, rfl, hr, fun hne a ha => ?_, hbel⟩
  obtain ⟨g, cur, hA, hg, _⟩ := ownS_form h (List.length_pos_iff.2 hne)
  rw [hA] at ha; cases ha
  exact Nat.le_trans hb hg
theorem take_snocJ {l : Fl} {j : Nat} (hj : j < l.length) : l.take (j + 1) = l.take j ++ [l[j]] := by
  rw [List.take_add_one, List.getElem?_eq_getElem hj]; rfl
set_option maxRecDepth 100000 in
set_option maxHeartbeats 8000000 in
theorem does_cut (A : Option Addr) (l : Fl) (n cA : Nat) (c : Ch) (w : World) (hn : n = l.length) (hc : c.cut = true) (hl : l.length ≤ 8192) (hp : c.pl ≤ 8192) (hR : RdS w A l) :
    Calls Try.prog 52 #[.slice A n cA, .agg (rcC c)] w (DoP w (l.take c.pl)) := by
  obtain ⟨f, p, cu, s⟩ := c
  simp only at hc hp ⊢
  subst hc
  obtain ⟨iv, hv1, hv2, hv3, hv4⟩ := info_parts str_info
  have HR := Lib.hid hR
  have HN := Lib.hid (And.intro hn hl)
  have hnI : (n : Int) ≤ 8192 := by omega
  have hpI : (p : Int) ≤ 8192 := by omega
  have HB0 := Lib.hid (Blk.new w 94 (rcC ⟨f, p, true, s⟩))
  clear hR hn hl
  go_enter Try.func52, Try.ntmps52
  go_wp2
  go_loopw [5, 6] (fun v i wr => ∃ (j : Nat) (A' : Option Addr) (c' : Nat), i = .int .i64 j ∧ j ≤ n ∧ j ≤ p ∧ v = .slice A' j c' ∧ OwnS wr (w.alloc (.cells (rcC ⟨f, p, true, s⟩) 94)).heap.size (.slice A' j c') (l.take j) ∧ Below (w.alloc (.cells (rcC ⟨f, p, true, s⟩) 94)).heap.size (w.alloc (.cells (rcC ⟨f, p, true, s⟩) 94)) wr) (fun _ i _ => n - (intOf i).toNat)
  case atStart => exact ⟨0, none, 0, rfl, by omega, by omega, rfl, World.ownsRow_nil _ _ _ _, Below.refl _ _⟩
  case round =>
    obtain ⟨j, A', c', rfl, hjn, hjp, rfl, hown, hb⟩ := hrel
    have c1 : wr.cell? ⟨w.heap.size, 1, none⟩ = some (.int .i64 p) := by rw [(blk_step HB0.out hb).cell]; rfl
    have h0j : (0 : Int) ≤ j := by omega
    have hwj : IntKind.i64.wrap ((j : Int) + 1) = j + 1 := by rw [IntKind.wrap_i64]; omega
    by_cases hj1 : j < n
    · have hj1I : (j : Int) < n := by omega
      by_cases hj2 : j < p
      · have hj2I : (j : Int) < p := by omega
        have hjl : j < l.length := by have := HN.out; omega
        obtain ⟨b, o, rfl, hbl, hcs⟩ := rdS_at HR.out hjl
        have hcl : wr.cell? ⟨b, o + j, none⟩ = some (.string (bstr l[j])) := by
          rw [hb.cell (p := ⟨b, o + j, none⟩) (Nat.lt_of_lt_of_le hbl (one_alloc (w := w)).size), one_alloc.cell (p := ⟨b, o + j, none⟩) hbl]
          exact hcs j _ (List.getElem?_eq_getElem hjl)
        have hts := take_snocJ hjl
        have hlt : (l.take j).length = j := by rw [List.length_take]; omega
        generalize l[j] = sj at *
        have hrd : Reads (wr.alloc (.cells #[.string (bstr sj)] 9)) (wr.alloc (.cells #[.string (bstr sj)] 9)).heap.size 1 (some ⟨wr.heap.size, 0, none⟩) 1 [.string (bstr sj)] := reads_one (Blk.new wr _ _)
        have HO := Lib.hid (own_belowJ hown (one_alloc (o := .cells #[.string (bstr sj)] 9)))
        rw [hlt] at HO
        have HB := Lib.hid (bj hb (one_alloc (o := .cells #[.string (bstr sj)] 9)))
        have HTS := Lib.hid hts
        have HLT := Lib.hid hlt
        generalize l.take j = lj at *
        have hbs : (w.alloc (.cells (rcC ⟨f, p, true, s⟩) 94)).heap.size ≤ (wr.alloc (.cells #[.string (bstr sj)] 9)).heap.size := HB.out.size
        have HBS := Lib.hid hbs
        clear hown hb hcs hbl hts hlt hbs hjl
        go_wp2_with (at_builtin; refine wpList_append_any _ rfl (.tmp 21) (.tmp 26) 51 rfl _ 9 iv _ 1 16 Try.underlying51 hv1 hv2 hv3 hv4 rfl (by omega) _ j (strL lj) rfl HO.out _ (some ⟨wr.heap.size, 0, none⟩) 1 1 [.string (bstr sj)] rfl hrd (by intro u hu; simp at hu; subst hu; rfl) (by simp only [maxLen]; omega) (by omega) HBS.out ?_; intro v1 w4 hown1 hg1 hat1; obtain ⟨A1, c2, rfl⟩ := own_form hown1; (have HE := Lib.hid (show OwnS w4 (w.alloc (.cells (rcC ⟨f, p, true, s⟩) 94)).heap.size (.slice A1 (j + 1) c2) (l.take (j + 1)) ∧ Below (w.alloc (.cells (rcC ⟨f, p, true, s⟩) 94)).heap.size (w.alloc (.cells (rcC ⟨f, p, true, s⟩) 94)) w4 from ⟨by rw [HTS.out]; exact ownS_snoc HLT.out.symm rfl hown1, HB.out.grown hg1 HB.out.size (fun z hz => (HO.out.lt z hz).1)⟩)); clear hown1 hg1 hat1 hrd)
        go_roundw
        case rel => exact ⟨j + 1, A1, c2, by go_num, by omega, by omega, rfl, HE.out.1, HE.out.2⟩
        case measure => simp [intOf]; omega
      · obtain rfl : j = p := by omega
        have HE := Lib.hid (doP_own (one_alloc (w := w)).size hown (bj one_alloc hb))
        clear hown hb
        go_wp2
        go_ret
        exact HE.out
    · obtain rfl : j = n := by omega
      have ht : l.take p = l.take j := by have := HN.out; rw [List.take_of_length_le (by omega), List.take_of_length_le (by omega)]
      have HE := Lib.hid (show DoP w (l.take p) (.returned (.slice A' j c')) wr from by rw [ht]; exact doP_own (one_alloc (w := w)).size hown (bj one_alloc hb))
      clear hown hb ht
      go_wp2
      go_ret
      exact HE.out
theorem putS_eq (l : Fl) (i m : Nat) (s : Sec) (hm : m = max l.length (i + 1)) : (l ++ List.replicate (m - l.length) zS).set i s = putS l i s := by
  unfold putS
  rw [show m - l.length = i + 1 - l.length by omega]
set_option maxRecDepth 100000 in
set_option maxHeartbeats 8000000 in
theorem does_put (A : Option Addr) (l : Fl) (n cA : Nat) (c : Ch) (w : World) (hn : n = l.length) (hc : c.cut = false) (hl : l.length ≤ 8192) (hp : c.pl < 8192) (hR : RdS w A l) :
    Calls Try.prog 52 #[.slice A n cA, .agg (rcC c)] w (DoP w (putS l c.pl c.bytes)) := by
  obtain ⟨f, p, cu, s⟩ := c
  simp only at hc hp ⊢
  subst hc
  obtain ⟨iv, hv1, hv2, hv3, hv4⟩ := info_parts str_info
  have HN := Lib.hid (And.intro hn hl)
  have hnI : (n : Int) ≤ 8192 := by omega
  have hpI : (p : Int) < 8192 := by omega
  have HB0 := Lib.hid (Blk.new w 94 (rcC ⟨f, p, false, s⟩))
  obtain ⟨B1, hB1⟩ : ∃ B1, (w.alloc (.cells (rcC ⟨f, p, false, s⟩) 94)).heap.size = B1 := ⟨_, rfl⟩
  have HON := Lib.hid (World.ownsRow_nil (w.alloc (.cells (rcC ⟨f, p, false, s⟩) 94)) B1 9 1)
  have hrd : Reads (w.alloc (.cells (rcC ⟨f, p, false, s⟩) 94)) (w.alloc (.cells (rcC ⟨f, p, false, s⟩) 94)).heap.size 1 A n (strL l) := by rw [hn]; exact rdS_below hR one_alloc
  have HBS := Lib.hid (show B1 ≤ (w.alloc (.cells (rcC ⟨f, p, false, s⟩) 94)).heap.size by omega)
  have HB1 := Lib.hid hB1
  have hs1 := strL_one l
  clear hR hn hl hB1
  go_enter Try.func52, Try.ntmps52
  go_wp2_with (at_builtin; refine wpList_append_any _ rfl (.tmp 29) (.tmp 30) 51 rfl B1 9 iv _ 1 16 Try.underlying51 hv1 hv2 hv3 hv4 rfl (by omega) _ 0 [] rfl HON.out _ A n cA (strL l) rfl hrd hs1 (by simp only [maxLen]; omega) (by omega) HBS.out ?_; intro v1 w4 hown1 hg1 hat1; (simp only [Nat.zero_add, List.nil_append] at hown1); obtain ⟨A1, c2, rfl⟩ := own_form hown1; (have HE := Lib.hid (show OwnS w4 B1 (.slice A1 n c2) l ∧ Below B1 (w.alloc (.cells (rcC ⟨f, p, false, s⟩) 94)) w4 from ⟨by rw [HN.out.1] at hown1 ⊢; exact hown1, by rw [← HB1.out]; exact (Below.refl _ _).grown hg1 (Nat.le_refl _) (fun z hz => by cases hz)⟩)); clear hown1 hg1 hat1 hrd)
  go_loopw [5] (fun v wr => ∃ (m : Nat) (A' : Option Addr) (c' : Nat), n ≤ m ∧ m ≤ max n (p + 1) ∧ v = .slice A' m c' ∧ OwnS wr B1 (.slice A' m c') (l ++ List.replicate (m - l.length) zS) ∧ Below B1 (w.alloc (.cells (rcC ⟨f, p, false, s⟩) 94)) wr) (fun v _ => p + 1 - slLen v)
  case atStart => exact ⟨n, A1, c2, by omega, by omega, rfl, by rw [show n - l.length = 0 by have := HN.out; omega, List.replicate_zero, List.append_nil]; exact HE.out.1, HE.out.2⟩
  case round =>
    obtain ⟨m, A', c', hnm, hmp, rfl, hown, hb⟩ := hrel
    clear HE
    have hb' : Below (w.alloc (.cells (rcC ⟨f, p, false, s⟩) 94)).heap.size (w.alloc (.cells (rcC ⟨f, p, false, s⟩) 94)) wr := by rw [HB1.out]; exact hb
    have hk := blk_step HB0.out hb'
    have c1 : wr.cell? ⟨w.heap.size, 1, none⟩ = some (.int .i64 p) := by rw [hk.cell]; rfl
    by_cases hmp2 : m ≤ p
    · have hmI : (m : Int) ≤ p := by omega
      have HNO := Lib.hid (nought_any wr)
      have HOW := Lib.hid hown
      have HBB := Lib.hid hb'
      clear hown hb hb' hk
      go_wp2_with fail
      refine (HNO.out).mono ?_
      rintro e w5 ⟨rfl, hb5⟩
      have hb6 := bj HBB.out hb5
      have ho5 := own_belowJ (show wr.ownsRow B1 9 1 (.slice A' m c') (l ++ List.replicate (m - l.length) zS).length (strL (l ++ List.replicate (m - l.length) zS)) from HOW.out) hb5
      have hll : (l ++ List.replicate (m - l.length) zS).length = m := by have := HN.out; rw [List.length_append, List.length_replicate]; omega
      have hsn : l ++ List.replicate (m + 1 - l.length) zS = (l ++ List.replicate (m - l.length) zS) ++ [zS] := by
        have := HN.out
        rw [show m + 1 - l.length = (m - l.length) + 1 by omega, List.replicate_succ', List.append_assoc]
      rw [hll] at ho5
      have hrd : Reads (w5.alloc (.cells #[.string (bstr zS)] 9)) (w5.alloc (.cells #[.string (bstr zS)] 9)).heap.size 1 (some ⟨w5.heap.size, 0, none⟩) 1 [.string (bstr zS)] := reads_one (Blk.new w5 _ _)
      have HO := Lib.hid (own_belowJ ho5 (one_alloc (o := .cells #[.string (bstr zS)] 9)))
      have HB := Lib.hid (bj hb6 (one_alloc (o := .cells #[.string (bstr zS)] 9)))
      have HLT := Lib.hid hll
      have HSN := Lib.hid hsn
      generalize l ++ List.replicate (m - l.length) zS = lm at *
      have HBS2 := Lib.hid (show B1 ≤ (w5.alloc (.cells #[.string (bstr zS)] 9)).heap.size by have := HB.out.size; have := HB1.out; omega)
      clear ho5 hb5 hb6 hll hsn HNO HOW HBB
      go_wp2_with (at_builtin; refine wpList_append_any _ rfl (.tmp 37) (.tmp 39) 51 rfl B1 9 iv _ 1 16 Try.underlying51 hv1 hv2 hv3 hv4 rfl (by omega) _ m (strL lm) rfl HO.out _ (some ⟨w5.heap.size, 0, none⟩) 1 1 [.string (bstr zS)] rfl hrd (by intro u hu; simp at hu; subst hu; rfl) (by simp only [maxLen]; omega) (by omega) HBS2.out ?_; intro v1 w7 hown1 hg1 hat1; obtain ⟨A3, c3, rfl⟩ := own_form hown1; (have HE := Lib.hid (show OwnS w7 B1 (.slice A3 (m + 1) c3) (l ++ List.replicate (m + 1 - l.length) zS) ∧ Below B1 (w.alloc (.cells (rcC ⟨f, p, false, s⟩) 94)) w7 from ⟨by rw [HSN.out]; exact ownS_snoc HLT.out.symm rfl hown1, by rw [← HB1.out]; exact HB.out.grown hg1 HB.out.size (fun z hz => by rw [HB1.out]; exact (HO.out.lt z hz).1)⟩)); clear hown1 hg1 hat1 hrd)
      go_roundw
      case rel => exact ⟨m + 1, A3, c3, by omega, by omega, rfl, HE.out.1, HE.out.2⟩
      case measure => simp [slLen]; omega
    · have hpm : p < m := by omega
      have hmI : (p : Int) < m := by omega
      have hmI2 : ¬ ((m : Int) ≤ p) := by omega
      obtain ⟨g, cur, rfl, hg, hcur, hsz, hcc⟩ := ownS_form hown (by omega)
      have c3 : wr.cell? ⟨w.heap.size, 3, none⟩ = some (.string (bstr s)) := by rw [hk.cell]; rfl
      have hcv : wr.cell? ⟨g, p, none⟩ = some (cur[p]'(by omega)) := by rw [hcur.cell, Array.getElem?_eq_getElem (by omega)]
      have hfz : wr.frozen? ⟨g, p, none⟩ = false := hcur.frozen _
      have h0p : (0 : Int) ≤ p := by omega
      have hmm : m = max l.length (p + 1) := by have := HN.out; omega
      have hset := ownS_set (k := p) (s := s) hown hpm
      rw [putS_eq l p m s hmm] at hset
      have hlen : m = (putS l p s).length := by rw [putS_length]; exact hmm
      have hgw : w.heap.size ≤ g := by have := HB1.out; have := (one_alloc (w := w) (o := .cells (rcC ⟨f, p, false, s⟩) 94)).size; omega
      have HE := Lib.hid (show DoP w (putS l p s) (.returned (.slice (some ⟨g, 0, none⟩) m c')) (wr.setCell ⟨g, p, none⟩ (.string (bstr s))) from ⟨_, c', by rw [← hlen], hset, fun _ a ha => by cases ha; exact hgw, (bj one_alloc hb').setCell (p := ⟨g, p, none⟩) hgw _⟩)
      generalize cur[p] = cv at *
      clear hown hb hb' hk hset hcur hcc hlen hmm hmp2 hsz hmp hnm
      go_wp2
      go_ret
      exact HE.out
end Go.Proofs.Ytffojihhjiogpaa
