/- The reader: cells. Conditions: those of each lemma. -/
import Derived.Test.YticpenbebokjdaaDoorNd9
import Derived.Laws.MakeOwn
namespace Go.Proofs.YticpenbebokjdaaDoor
open Go.RowKit Go
set_option linter.unusedVariables false
set_option linter.unusedSimpArgs false
/-- what so many cells, one behind the other, are; none: the bytes were not well ahead of one -/
def rdC (rd : ByteArray × Bool → Cl × (ByteArray × Bool)) : Nat → ByteArray × Bool → Option (List Cl) × (ByteArray × Bool)
  | 0, s => (some [], s)
  | n + 1, s => if s.2 = false then (none, s) else ((rdC rd n (rd s).2).1.map ((rd s).1 :: ·), (rdC rd n (rd s).2).2)
def clCs (l : List Cl) : List Value := l.flatMap fun c => [.string c.key, .int .i64 c.size, .string c.loc, .int .i64 c.page]
theorem clCs_snoc (l : List Cl) (c : Cl) : clCs (l ++ [c]) = clCs l ++ [.string c.key, .int .i64 c.size, .string c.loc, .int .i64 c.page] := by simp [clCs]
theorem clCs_get : ∀ (l : List Cl) (j : Nat) (c : Cl) (k : Nat), l[j]? = some c → k < 4 → (clCs l)[0 + j * 4 + k]? = [.string c.key, .int .i64 c.size, .string c.loc, .int .i64 c.page][k]?
  | [], j, c, k, hj, hk => by simp at hj
  | d :: l, 0, c, k, hj, hk => by
    have e : d = c := by simpa using hj
    subst e
    simp only [clCs, List.flatMap_cons]
    rw [List.getElem?_append_left (by simpa using hk)]
    simp
  | d :: l, j + 1, c, k, hj, hk => by
    have h := clCs_get l j c k (by simpa using hj) hk
    simp only [clCs, List.flatMap_cons]
    rw [List.getElem?_append_right (by simp; omega)]
    rw [← h]
    congr 1
    simp
    omega
theorem reads4g (W : World) (c : Cl) : Reads (W.alloc (.cells (clC c) 30)) (W.heap.size + 1) 4 (some ⟨W.heap.size, 0, none⟩) 1 [.string c.key, .int .i64 c.size, .string c.loc, .int .i64 c.page] := by
  refine ⟨rfl, fun _ => ⟨_, rfl, Nat.lt_succ_self _, fun j u hu => ?_⟩⟩
  have hb := Blk.new W 30 (clC c)
  have e : (⟨W.heap.size, 0, none⟩ : Addr).add j = ⟨W.heap.size, j, none⟩ := by simp [Addr.add]; omega
  rw [e, hb.cell]
  simpa using hu
theorem own_step {W W' : World} {base : Nat} {e : TypeId} {size n : Nat} {v : Value} {xs : List Value} (h : W.ownsRow base e size v n xs) (hb : Below W.heap.size W W') : W'.ownsRow base e size v n xs := by
  obtain ⟨hl, h | ⟨g, cap, cur, hv, hbg, hg, hr⟩⟩ := h
  · exact ⟨hl, .inl h⟩
  · exact ⟨hl, .inr ⟨g, cap, cur, hv, hbg, blk_step (t := e) (cs := cur) hg hb, hr⟩⟩
theorem own_kept {W W' : World} {base : Nat} {e : TypeId} {size : Nat} {v : Value} {n : Nat} {xs : List Value} (h : W.ownsRow base e size v n xs) (hk : ∀ g, v.ownBlock = some g → W'.heap[g]? = W.heap[g]?) : W'.ownsRow base e size v n xs := by
  refine ⟨h.1, ?_⟩
  rcases h.2 with h0 | ⟨g, cap, cur, hv, hbg, hg, rest⟩
  · exact .inl h0
  · exact .inr ⟨g, cap, cur, hv, hbg, (hk g (by rw [hv]; rfl)).trans hg, rest⟩
/-- one more cell is read beside an owned row -/
theorem one_keep {F : FuncId} {rd : ByteArray × Bool → Cl × (ByteArray × Bool)} (hone : ∀ (B r : Nat) (s : ByteArray × Bool) (X : BL) (w : World), Rk B r s.1 s.2 X w → s.1.size ≤ 100000 → Calls Tryd.prog F #[.pointer (some ⟨r, 0, none⟩)] w fun e w' => e = .returned (clV (rd s).1) ∧ Rk B r (rd s).2.1 (rd s).2.2 X w' ∧ Below B w w')
    {B r base : Nat} {s : ByteArray × Bool} {X : BL} {W : World} {v : Value} {n : Nat} {xs : List Value} (h : Rk B r s.1 s.2 X W) (hs : s.1.size ≤ 100000) (ho : W.ownsRow base 30 4 v n xs) (hr : r < base) :
    Calls Tryd.prog F #[.pointer (some ⟨r, 0, none⟩)] W fun e w' => e = .returned (clV (rd s).1) ∧ Rk B r (rd s).2.1 (rd s).2.2 X w' ∧ w'.ownsRow base 30 4 v n xs ∧ Below B W w' := by
  rcases ho.2 with h0 | ⟨g, cap, cur, hv, hbg, hg, rest⟩
  · refine (hone B r s X W h hs).mono ?_
    rintro e w' ⟨rfl, h1, h2⟩
    exact ⟨rfl, h1, own_kept ho (fun g hgo => by rw [h0.1] at hgo; cases hgo), h2⟩
  · refine (hone B r s ((g, 30, cur) :: X) W ⟨h.1, fun x hx => ?_, h.2.2⟩ hs).mono ?_
    · rcases List.mem_cons.1 hx with rfl | hx
      · exact ⟨hg, by omega⟩
      · exact h.2.1 x hx
    rintro e w' ⟨rfl, h1, h2⟩
    refine ⟨rfl, rk_drop h1 (fun x hx => .tail _ hx), own_kept ho (fun g' hgo => ?_), h2⟩
    rw [hv] at hgo
    obtain rfl : g = g' := by simpa [Value.ownBlock] using hgo
    exact (rk_get h1 (.head _)).trans hg.symm
theorem rk_grown {B r base : Nat} {left : ByteArray} {well : Bool} {X : BL} {W W' : World} {row : Option Nat} (h : Rk B r left well X W) (hg : W.grownBy W' row) (hr : r < base) (hX : ∀ x ∈ X, x.1 < base) (hrow : ∀ z, row = some z → base ≤ z) : Rk B r left well X W' :=
  ⟨h.1.grown hg (fun e => by have := hrow _ e.symm; omega), fun x hx => ⟨(h.2.1 x hx).1.grown hg (fun e => by have := hrow _ e.symm; have := hX x hx; omega), (h.2.1 x hx).2⟩, h.2.2⟩
theorem cls_of_own {W : World} {base : Nat} {v : Value} {l : List Cl} (h : W.ownsRow base 30 4 v l.length (clCs l)) : ∃ A c, v = .slice A l.length c ∧ Cls W W.heap.size A l := by
  rcases h.2 with ⟨h0, hn⟩ | ⟨g, cap, cur, hv, hbg, hg, h1, h2, h3, h4⟩
  · exact ⟨none, 0, by rw [h0, hn], .inl (List.length_eq_zero_iff.1 hn)⟩
  · refine ⟨_, cap, hv, .inr ⟨g, 0, rfl, (Array.getElem?_eq_some_iff.1 hg).1, fun j c hj => ?_⟩⟩
    have hb : Blk W g 30 cur := hg
    have hjl : j < l.length := (List.getElem?_eq_some_iff.1 hj).1
    have key : ∀ k : Nat, k < 4 → W.cell? ⟨g, 0 + j * 4 + k, none⟩ = (clC c).toList[k]? := fun k hk => by
      have e := hb.cell (0 + j * 4 + k)
      rw [e, ← Array.getElem?_toList, show cur.toList[0 + j * 4 + k]? = (cur.toList.take (l.length * 4))[0 + j * 4 + k]? by rw [List.getElem?_take]; rw [if_pos (by omega)], h4]
      exact clCs_get l j c k hj hk
    exact ⟨key 0 (by omega), key 1 (by omega), key 2 (by omega), key 3 (by omega)⟩
def CInv (RD : ByteArray × Bool → Cl × (ByteArray × Bool)) (w : World) (B r count : Nat) (s : ByteArray × Bool) (X : BL) (a i : Value) (wr : World) : Prop :=
  ∃ (j : Nat) (l : List Cl) (sj : ByteArray × Bool), j ≤ count ∧ i = .int .i64 j ∧ wr.ownsRow w.heap.size 30 4 a j (clCs l) ∧ l.length = j ∧ sj.1.size ≤ s.1.size ∧ rdC RD count s = ((rdC RD (count - j) sj).1.map (l ++ ·), (rdC RD (count - j) sj).2) ∧ Rk B r sj.1 sj.2 X wr ∧ Below B w wr
theorem rdInner_size (s : ByteArray × Bool) : (rdInner s).2.1.size ≤ s.1.size := Nat.le_trans (stp_size _ _) (Nat.le_trans (stp_size _ _) (stp_size _ _))
theorem rdLeaf_size (s : ByteArray × Bool) : (rdLeaf s).2.1.size ≤ s.1.size := by
  have h : (rdL4 s).2.1.size ≤ s.1.size := Nat.le_trans (stp_size _ _) (Nat.le_trans (stp_size _ _) (Nat.le_trans (stp_size _ _) (stp_size _ _)))
  unfold rdLeaf
  split
  · exact Nat.le_trans (stp_size _ _) h
  · exact h
set_option maxRecDepth 100000 in
set_option maxHeartbeats 8000000 in
theorem rcells_inner (B r : Nat) (s : ByteArray × Bool) (X : BL) (count : Nat) (w : World) (h : Rk B r s.1 s.2 X w) (hs : s.1.size ≤ 100000) (hc : count ≤ 65535) :
    Calls Tryd.prog 28 #[.pointer (some ⟨r, 0, none⟩), .int .i64 count, .func (.func 30) #[.pointer (some ⟨r, 0, none⟩)] #[]] w fun e w' => ∃ v, e = .returned v ∧ w'.ownsRow w.heap.size 30 4 v (((rdC rdInner count s).1.getD []).length) (clCs ((rdC rdInner count s).1.getD [])) ∧ Rk B r (rdC rdInner count s).2.1 (rdC rdInner count s).2.2 X w' ∧ Below B w w' := by
  obtain ⟨iv, hv1, hv2, hv3, hv4⟩ := info_parts (show (Tryd.prog.info? 30).map (fun i => (i.zero, i.size, i.bytes)) = some (some (.agg #[.string ⟨#[]⟩, .int .i64 0, .string ⟨#[]⟩, .int .i64 0]), 4, 48) by kernel_rfl)
  have hmk : ∀ W : World, w.heap.size ≤ W.heap.size → ∃ w', (Instr.makeSlice 25 (.int .i64 0) (.int .i64 (count : Int))).run Tryd.prog W = .ok (.slice (some ⟨W.heap.size, 0, none⟩) 0 count) w' ∧ w'.ownsRow w.heap.size 30 4 (.slice (some ⟨W.heap.size, 0, none⟩) 0 count) 0 [] ∧ W.grownBy w' none := fun W hW =>
    run_make_own W w.heap.size 25 30 iv _ 4 Tryd.underlying25 hv1 hv2 hv3 .i64 .i64 count (by rw [hv4]; omega) (Nat.le_trans hc (by decide)) hW
  have hsz : ∀ s : ByteArray × Bool, (rdInner s).2.1.size ≤ s.1.size := rdInner_size
  have HM := Lib.hid hmk
  have HI := Lib.hid (And.intro hv1 (And.intro hv2 (And.intro hv3 hv4)))
  have HR := Lib.hid h
  have HX := Lib.hid (fun (x : Nat × TypeId × Array Value) (hx : x ∈ X) => (h.2.1 x hx).1.lt)
  have HBH := Lib.hid (Nat.le_trans h.2.2 (Nat.le_of_lt h.1.lt))
  have HRH := Lib.hid h.1.lt
  have HS := Lib.hid (And.intro hs (And.intro hc hsz))
  have c0 := h.1.cell 0
  have c1 := h.1.cell 1
  clear h hmk hv1 hv2 hv3 hv4 hsz hs
  go_enter Tryd.func28, Tryd.ntmps28
  by_cases hcl : count ≤ s.1.size
  · go_wp2_with fail
    obtain ⟨w1, hmr, hown, hgr⟩ := HM.out w (Nat.le_refl _)
    rw [hmr]
    have HR1 := Lib.hid (rk_grown HR.out hgr HR.out.1.lt (fun x hx => (HR.out.2.1 x hx).1.lt) (fun z e => by cases e))
    have HO1 := Lib.hid hown
    have HB1 := Lib.hid ((Below.refl B w).grown hgr (Nat.le_trans HR.out.2.2 (Nat.le_of_lt HR.out.1.lt)) (fun z e => by cases e))
    clear hmr hown hgr HM HR
    go_wp2_with fail
    clear c0 c1
    go_loopw [7, 18] (fun a i wr => CInv rdInner w B r count s X a i wr) (fun _ i _ => count - (intOf i).toNat)
    case atStart => exact ⟨0, [], s, by omega, rfl, HO1.out, rfl, Nat.le_refl _, by simp, HR1.out, HB1.out⟩
    case round =>
      obtain ⟨j, l, sj, hj, rfl, hown, hlj, hsz, hrd, hrk, hbel⟩ := hrel
      have c1 := hrk.1.cell 1
      have f1 := hrk.1.frozen 1
      have HH := Lib.hid (And.intro hown (And.intro hlj (And.intro hsz (And.intro hrd (And.intro hrk hbel)))))
      clear hown hlj hsz hrd hrk hbel
      by_cases hjc : j < count
      · obtain ⟨m, hm⟩ : ∃ m, count - j = m + 1 := ⟨count - j - 1, by omega⟩
        have hji : (j : Int) < (count : Int) := by omega
        have hdj : decide (j < count) = true := decide_eq_true hjc
        by_cases hw : sj.2 = false
        · rw [hw] at c1
          have e : rdC rdInner count s = (none, sj) := by rw [HH.out.2.2.2.1, hm]; simp [rdC, hw]
          go_wp2_with fail
          rw [e]
          exact bodyPost_ret (v := .slice none 0 0) (by simp [results, Tryd.results28, go_sem]) rfl ⟨_, rfl, ⟨rfl, .inl ⟨rfl, rfl⟩⟩, HH.out.2.2.2.2⟩
        · have hw' : sj.2 = true := by simpa using hw
          rw [hw'] at c1
          go_wp2_with fail
          obtain ⟨hown, hlj, hsz, hrd, hrk, hbel⟩ := HH.out
          refine (one_keep rinner_any hrk (by have := HS.out.1; omega) hown HRH.out).mono ?_
          rintro e wa ⟨rfl, hk2, ho2, hb2⟩
          have hrd2 : rdC rdInner count s = ((rdC rdInner (count - (j + 1)) (rdInner sj).2).1.map ((l ++ [(rdInner sj).1]) ++ ·), (rdC rdInner (count - (j + 1)) (rdInner sj).2).2) := by
            rw [hrd, hm, show count - (j + 1) = m by omega]
            simp [rdC, hw', Option.map_map, Function.comp_def]
          have hsz2 := Nat.le_trans (HS.out.2.2 sj) hsz
          have hbw := hbel.trans hb2
          clear c1 f1 hrd hrk hbel hown hsz hb2
          obtain ⟨cc, hcc⟩ : ∃ cc, (rdInner sj).1 = cc := ⟨_, rfl⟩
          obtain ⟨sk, hsk⟩ : ∃ sk, (rdInner sj).2 = sk := ⟨_, rfl⟩
          rw [hcc] at hrd2 ⊢
          rw [hsk] at hrd2 hk2 hsz2
          have HK := Lib.hid (rk_drop (rk_alloc hk2 (clC cc) 30) (fun x hx => .tail _ hx))
          have HO := Lib.hid (own_step ho2 (one_alloc (o := .cells (clC cc) 30)))
          have hB2 := hbw.alloc (Nat.le_trans HK.out.2.2 (Nat.le_of_lt hk2.1.lt)) (.cells (clC cc) 30)
          have HBB := Lib.hid hB2
          have HBS := Lib.hid (show w.heap.size ≤ (wa.alloc (.cells (clC cc) 30)).heap.size by have := hbw.size; simp; omega)
          have hrd := reads4g wa cc
          have HD2 := Lib.hid hrd2
          have HZ2 := Lib.hid hsz2
          have HRW := HRH
          clear hbw hk2 ho2 hB2 hrd2 hsz2
          obtain ⟨ck, cz, cl, cp⟩ := cc
          obtain ⟨hv1, hv2, hv3, hv4⟩ := HI.out
          go_wp2_with (at_builtin; refine wpList_append_any _ rfl (.tmp 25) (.tmp 28) 25 rfl w.heap.size 30 iv _ 4 48 Tryd.underlying25 hv1 hv2 hv3 hv4 rfl (by omega) _ j (clCs l) rfl HO.out (wa.heap.size + 1) (some ⟨wa.heap.size, 0, none⟩) 1 1 [.string ck, .int .i64 cz, .string cl, .int .i64 cp] rfl hrd (by intro u hu; simp at hu; rcases hu with rfl | rfl | rfl | rfl <;> rfl) (by simp only [maxLen]; omega) (by omega) HBS.out ?_; intro v1 w4 hown1 hg1 hat1; (have HK4 := Lib.hid (rk_grown HK.out hg1 HRW.out (fun x hx => HX.out x hx) (fun z hz => (HO.out.lt z hz).1))); (have HB4 := Lib.hid (HBB.out.grown hg1 (Nat.le_trans HK.out.2.2 (Nat.le_of_lt HK.out.1.lt)) (fun z hz => Nat.le_trans HBH.out (HO.out.lt z hz).1))); (have HO4 := Lib.hid hown1); clear hown1 hg1 hat1 hrd)
          go_wp2
          go_roundw
          case rel =>
            refine ⟨j + 1, l ++ [⟨ck, cz, cl, cp⟩], sk, by omega, by simp, by rw [clCs_snoc]; exact HO4.out, by rw [List.length_append]; simp; omega, HZ2.out, HD2.out, HK4.out, HB4.out⟩
          case measure => simp only [intOf]; omega
      · have hje : j = count := by omega
        subst hje
        have hdj : decide (j < j) = false := by simp
        have e : rdC rdInner j s = (some l, sj) := by rw [HH.out.2.2.2.1, Nat.sub_self]; simp [rdC]
        go_wp2_with fail
        rw [e]
        exact bodyPost_ret (v := u7) (by simp [results, Tryd.results28, go_sem]) rfl ⟨_, rfl, by have h := HH.out.1; rw [← HH.out.2.1] at h; exact h, HH.out.2.2.2.2⟩

  · go_wp2_with fail
    have HR1 := HR
    have HO1 : Hid (w.ownsRow w.heap.size 30 4 (.slice none 0 0) 0 []) := Lib.hid ⟨rfl, .inl ⟨rfl, rfl⟩⟩
    have HB1 : Hid (Below B w w) := Lib.hid (Below.refl B w)
    clear HM HR
    clear c0 c1
    go_loopw [7, 18] (fun a i wr => CInv rdInner w B r count s X a i wr) (fun _ i _ => count - (intOf i).toNat)
    case atStart => exact ⟨0, [], s, by omega, rfl, HO1.out, rfl, Nat.le_refl _, by simp, HR1.out, HB1.out⟩
    case round =>
      obtain ⟨j, l, sj, hj, rfl, hown, hlj, hsz, hrd, hrk, hbel⟩ := hrel
      have c1 := hrk.1.cell 1
      have f1 := hrk.1.frozen 1
      have HH := Lib.hid (And.intro hown (And.intro hlj (And.intro hsz (And.intro hrd (And.intro hrk hbel)))))
      clear hown hlj hsz hrd hrk hbel
      by_cases hjc : j < count
      · obtain ⟨m, hm⟩ : ∃ m, count - j = m + 1 := ⟨count - j - 1, by omega⟩
        have hji : (j : Int) < (count : Int) := by omega
        have hdj : decide (j < count) = true := decide_eq_true hjc
        by_cases hw : sj.2 = false
        · rw [hw] at c1
          have e : rdC rdInner count s = (none, sj) := by rw [HH.out.2.2.2.1, hm]; simp [rdC, hw]
          go_wp2_with fail
          rw [e]
          exact bodyPost_ret (v := .slice none 0 0) (by simp [results, Tryd.results28, go_sem]) rfl ⟨_, rfl, ⟨rfl, .inl ⟨rfl, rfl⟩⟩, HH.out.2.2.2.2⟩
        · have hw' : sj.2 = true := by simpa using hw
          rw [hw'] at c1
          go_wp2_with fail
          obtain ⟨hown, hlj, hsz, hrd, hrk, hbel⟩ := HH.out
          refine (one_keep rinner_any hrk (by have := HS.out.1; omega) hown HRH.out).mono ?_
          rintro e wa ⟨rfl, hk2, ho2, hb2⟩
          have hrd2 : rdC rdInner count s = ((rdC rdInner (count - (j + 1)) (rdInner sj).2).1.map ((l ++ [(rdInner sj).1]) ++ ·), (rdC rdInner (count - (j + 1)) (rdInner sj).2).2) := by
            rw [hrd, hm, show count - (j + 1) = m by omega]
            simp [rdC, hw', Option.map_map, Function.comp_def]
          have hsz2 := Nat.le_trans (HS.out.2.2 sj) hsz
          have hbw := hbel.trans hb2
          clear c1 f1 hrd hrk hbel hown hsz hb2
          obtain ⟨cc, hcc⟩ : ∃ cc, (rdInner sj).1 = cc := ⟨_, rfl⟩
          obtain ⟨sk, hsk⟩ : ∃ sk, (rdInner sj).2 = sk := ⟨_, rfl⟩
          rw [hcc] at hrd2 ⊢
          rw [hsk] at hrd2 hk2 hsz2
          have HK := Lib.hid (rk_drop (rk_alloc hk2 (clC cc) 30) (fun x hx => .tail _ hx))
          have HO := Lib.hid (own_step ho2 (one_alloc (o := .cells (clC cc) 30)))
          have hB2 := hbw.alloc (Nat.le_trans HK.out.2.2 (Nat.le_of_lt hk2.1.lt)) (.cells (clC cc) 30)
          have HBB := Lib.hid hB2
          have HBS := Lib.hid (show w.heap.size ≤ (wa.alloc (.cells (clC cc) 30)).heap.size by have := hbw.size; simp; omega)
          have hrd := reads4g wa cc
          have HD2 := Lib.hid hrd2
          have HZ2 := Lib.hid hsz2
          have HRW := HRH
          clear hbw hk2 ho2 hB2 hrd2 hsz2
          obtain ⟨ck, cz, cl, cp⟩ := cc
          obtain ⟨hv1, hv2, hv3, hv4⟩ := HI.out
          go_wp2_with (at_builtin; refine wpList_append_any _ rfl (.tmp 25) (.tmp 28) 25 rfl w.heap.size 30 iv _ 4 48 Tryd.underlying25 hv1 hv2 hv3 hv4 rfl (by omega) _ j (clCs l) rfl HO.out (wa.heap.size + 1) (some ⟨wa.heap.size, 0, none⟩) 1 1 [.string ck, .int .i64 cz, .string cl, .int .i64 cp] rfl hrd (by intro u hu; simp at hu; rcases hu with rfl | rfl | rfl | rfl <;> rfl) (by simp only [maxLen]; omega) (by omega) HBS.out ?_; intro v1 w4 hown1 hg1 hat1; (have HK4 := Lib.hid (rk_grown HK.out hg1 HRW.out (fun x hx => HX.out x hx) (fun z hz => (HO.out.lt z hz).1))); (have HB4 := Lib.hid (HBB.out.grown hg1 (Nat.le_trans HK.out.2.2 (Nat.le_of_lt HK.out.1.lt)) (fun z hz => Nat.le_trans HBH.out (HO.out.lt z hz).1))); (have HO4 := Lib.hid hown1); clear hown1 hg1 hat1 hrd)
          go_wp2
          go_roundw
          case rel =>
            refine ⟨j + 1, l ++ [⟨ck, cz, cl, cp⟩], sk, by omega, by simp, by rw [clCs_snoc]; exact HO4.out, by rw [List.length_append]; simp; omega, HZ2.out, HD2.out, HK4.out, HB4.out⟩
          case measure => simp only [intOf]; omega
      · have hje : j = count := by omega
        subst hje
        have hdj : decide (j < j) = false := by simp
        have e : rdC rdInner j s = (some l, sj) := by rw [HH.out.2.2.2.1, Nat.sub_self]; simp [rdC]
        go_wp2_with fail
        rw [e]
        exact bodyPost_ret (v := u7) (by simp [results, Tryd.results28, go_sem]) rfl ⟨_, rfl, by have h := HH.out.1; rw [← HH.out.2.1] at h; exact h, HH.out.2.2.2.2⟩

set_option maxRecDepth 100000 in
set_option maxHeartbeats 8000000 in
theorem rcells_leaf (B r : Nat) (s : ByteArray × Bool) (X : BL) (count : Nat) (w : World) (h : Rk B r s.1 s.2 X w) (hs : s.1.size ≤ 100000) (hc : count ≤ 65535) :
    Calls Tryd.prog 28 #[.pointer (some ⟨r, 0, none⟩), .int .i64 count, .func (.func 29) #[.pointer (some ⟨r, 0, none⟩)] #[]] w fun e w' => ∃ v, e = .returned v ∧ w'.ownsRow w.heap.size 30 4 v (((rdC rdLeaf count s).1.getD []).length) (clCs ((rdC rdLeaf count s).1.getD [])) ∧ Rk B r (rdC rdLeaf count s).2.1 (rdC rdLeaf count s).2.2 X w' ∧ Below B w w' := by
  obtain ⟨iv, hv1, hv2, hv3, hv4⟩ := info_parts (show (Tryd.prog.info? 30).map (fun i => (i.zero, i.size, i.bytes)) = some (some (.agg #[.string ⟨#[]⟩, .int .i64 0, .string ⟨#[]⟩, .int .i64 0]), 4, 48) by kernel_rfl)
  have hmk : ∀ W : World, w.heap.size ≤ W.heap.size → ∃ w', (Instr.makeSlice 25 (.int .i64 0) (.int .i64 (count : Int))).run Tryd.prog W = .ok (.slice (some ⟨W.heap.size, 0, none⟩) 0 count) w' ∧ w'.ownsRow w.heap.size 30 4 (.slice (some ⟨W.heap.size, 0, none⟩) 0 count) 0 [] ∧ W.grownBy w' none := fun W hW =>
    run_make_own W w.heap.size 25 30 iv _ 4 Tryd.underlying25 hv1 hv2 hv3 .i64 .i64 count (by rw [hv4]; omega) (Nat.le_trans hc (by decide)) hW
  have hsz : ∀ s : ByteArray × Bool, (rdLeaf s).2.1.size ≤ s.1.size := rdLeaf_size
  have HM := Lib.hid hmk
  have HI := Lib.hid (And.intro hv1 (And.intro hv2 (And.intro hv3 hv4)))
  have HR := Lib.hid h
  have HX := Lib.hid (fun (x : Nat × TypeId × Array Value) (hx : x ∈ X) => (h.2.1 x hx).1.lt)
  have HBH := Lib.hid (Nat.le_trans h.2.2 (Nat.le_of_lt h.1.lt))
  have HRH := Lib.hid h.1.lt
  have HS := Lib.hid (And.intro hs (And.intro hc hsz))
  have c0 := h.1.cell 0
  have c1 := h.1.cell 1
  clear h hmk hv1 hv2 hv3 hv4 hsz hs
  go_enter Tryd.func28, Tryd.ntmps28
  by_cases hcl : count ≤ s.1.size
  · go_wp2_with fail
    obtain ⟨w1, hmr, hown, hgr⟩ := HM.out w (Nat.le_refl _)
    rw [hmr]
    have HR1 := Lib.hid (rk_grown HR.out hgr HR.out.1.lt (fun x hx => (HR.out.2.1 x hx).1.lt) (fun z e => by cases e))
    have HO1 := Lib.hid hown
    have HB1 := Lib.hid ((Below.refl B w).grown hgr (Nat.le_trans HR.out.2.2 (Nat.le_of_lt HR.out.1.lt)) (fun z e => by cases e))
    clear hmr hown hgr HM HR
    go_wp2_with fail
    clear c0 c1
    go_loopw [7, 18] (fun a i wr => CInv rdLeaf w B r count s X a i wr) (fun _ i _ => count - (intOf i).toNat)
    case atStart => exact ⟨0, [], s, by omega, rfl, HO1.out, rfl, Nat.le_refl _, by simp, HR1.out, HB1.out⟩
    case round =>
      obtain ⟨j, l, sj, hj, rfl, hown, hlj, hsz, hrd, hrk, hbel⟩ := hrel
      have c1 := hrk.1.cell 1
      have f1 := hrk.1.frozen 1
      have HH := Lib.hid (And.intro hown (And.intro hlj (And.intro hsz (And.intro hrd (And.intro hrk hbel)))))
      clear hown hlj hsz hrd hrk hbel
      by_cases hjc : j < count
      · obtain ⟨m, hm⟩ : ∃ m, count - j = m + 1 := ⟨count - j - 1, by omega⟩
        have hji : (j : Int) < (count : Int) := by omega
        have hdj : decide (j < count) = true := decide_eq_true hjc
        by_cases hw : sj.2 = false
        · rw [hw] at c1
          have e : rdC rdLeaf count s = (none, sj) := by rw [HH.out.2.2.2.1, hm]; simp [rdC, hw]
          go_wp2_with fail
          rw [e]
          exact bodyPost_ret (v := .slice none 0 0) (by simp [results, Tryd.results28, go_sem]) rfl ⟨_, rfl, ⟨rfl, .inl ⟨rfl, rfl⟩⟩, HH.out.2.2.2.2⟩
        · have hw' : sj.2 = true := by simpa using hw
          rw [hw'] at c1
          go_wp2_with fail
          obtain ⟨hown, hlj, hsz, hrd, hrk, hbel⟩ := HH.out
          refine (one_keep rleaf_any hrk (by have := HS.out.1; omega) hown HRH.out).mono ?_
          rintro e wa ⟨rfl, hk2, ho2, hb2⟩
          have hrd2 : rdC rdLeaf count s = ((rdC rdLeaf (count - (j + 1)) (rdLeaf sj).2).1.map ((l ++ [(rdLeaf sj).1]) ++ ·), (rdC rdLeaf (count - (j + 1)) (rdLeaf sj).2).2) := by
            rw [hrd, hm, show count - (j + 1) = m by omega]
            simp [rdC, hw', Option.map_map, Function.comp_def]
          have hsz2 := Nat.le_trans (HS.out.2.2 sj) hsz
          have hbw := hbel.trans hb2
          clear c1 f1 hrd hrk hbel hown hsz hb2
          obtain ⟨cc, hcc⟩ : ∃ cc, (rdLeaf sj).1 = cc := ⟨_, rfl⟩
          obtain ⟨sk, hsk⟩ : ∃ sk, (rdLeaf sj).2 = sk := ⟨_, rfl⟩
          rw [hcc] at hrd2 ⊢
          rw [hsk] at hrd2 hk2 hsz2
          have HK := Lib.hid (rk_drop (rk_alloc hk2 (clC cc) 30) (fun x hx => .tail _ hx))
          have HO := Lib.hid (own_step ho2 (one_alloc (o := .cells (clC cc) 30)))
          have hB2 := hbw.alloc (Nat.le_trans HK.out.2.2 (Nat.le_of_lt hk2.1.lt)) (.cells (clC cc) 30)
          have HBB := Lib.hid hB2
          have HBS := Lib.hid (show w.heap.size ≤ (wa.alloc (.cells (clC cc) 30)).heap.size by have := hbw.size; simp; omega)
          have hrd := reads4g wa cc
          have HD2 := Lib.hid hrd2
          have HZ2 := Lib.hid hsz2
          have HRW := HRH
          clear hbw hk2 ho2 hB2 hrd2 hsz2
          obtain ⟨ck, cz, cl, cp⟩ := cc
          obtain ⟨hv1, hv2, hv3, hv4⟩ := HI.out
          go_wp2_with (at_builtin; refine wpList_append_any _ rfl (.tmp 25) (.tmp 28) 25 rfl w.heap.size 30 iv _ 4 48 Tryd.underlying25 hv1 hv2 hv3 hv4 rfl (by omega) _ j (clCs l) rfl HO.out (wa.heap.size + 1) (some ⟨wa.heap.size, 0, none⟩) 1 1 [.string ck, .int .i64 cz, .string cl, .int .i64 cp] rfl hrd (by intro u hu; simp at hu; rcases hu with rfl | rfl | rfl | rfl <;> rfl) (by simp only [maxLen]; omega) (by omega) HBS.out ?_; intro v1 w4 hown1 hg1 hat1; (have HK4 := Lib.hid (rk_grown HK.out hg1 HRW.out (fun x hx => HX.out x hx) (fun z hz => (HO.out.lt z hz).1))); (have HB4 := Lib.hid (HBB.out.grown hg1 (Nat.le_trans HK.out.2.2 (Nat.le_of_lt HK.out.1.lt)) (fun z hz => Nat.le_trans HBH.out (HO.out.lt z hz).1))); (have HO4 := Lib.hid hown1); clear hown1 hg1 hat1 hrd)
          go_wp2
          go_roundw
          case rel =>
            refine ⟨j + 1, l ++ [⟨ck, cz, cl, cp⟩], sk, by omega, by simp, by rw [clCs_snoc]; exact HO4.out, by rw [List.length_append]; simp; omega, HZ2.out, HD2.out, HK4.out, HB4.out⟩
          case measure => simp only [intOf]; omega
      · have hje : j = count := by omega
        subst hje
        have hdj : decide (j < j) = false := by simp
        have e : rdC rdLeaf j s = (some l, sj) := by rw [HH.out.2.2.2.1, Nat.sub_self]; simp [rdC]
        go_wp2_with fail
        rw [e]
        exact bodyPost_ret (v := u7) (by simp [results, Tryd.results28, go_sem]) rfl ⟨_, rfl, by have h := HH.out.1; rw [← HH.out.2.1] at h; exact h, HH.out.2.2.2.2⟩

  · go_wp2_with fail
    have HR1 := HR
    have HO1 : Hid (w.ownsRow w.heap.size 30 4 (.slice none 0 0) 0 []) := Lib.hid ⟨rfl, .inl ⟨rfl, rfl⟩⟩
    have HB1 : Hid (Below B w w) := Lib.hid (Below.refl B w)
    clear HM HR
    clear c0 c1
    go_loopw [7, 18] (fun a i wr => CInv rdLeaf w B r count s X a i wr) (fun _ i _ => count - (intOf i).toNat)
    case atStart => exact ⟨0, [], s, by omega, rfl, HO1.out, rfl, Nat.le_refl _, by simp, HR1.out, HB1.out⟩
    case round =>
      obtain ⟨j, l, sj, hj, rfl, hown, hlj, hsz, hrd, hrk, hbel⟩ := hrel
      have c1 := hrk.1.cell 1
      have f1 := hrk.1.frozen 1
      have HH := Lib.hid (And.intro hown (And.intro hlj (And.intro hsz (And.intro hrd (And.intro hrk hbel)))))
      clear hown hlj hsz hrd hrk hbel
      by_cases hjc : j < count
      · obtain ⟨m, hm⟩ : ∃ m, count - j = m + 1 := ⟨count - j - 1, by omega⟩
        have hji : (j : Int) < (count : Int) := by omega
        have hdj : decide (j < count) = true := decide_eq_true hjc
        by_cases hw : sj.2 = false
        · rw [hw] at c1
          have e : rdC rdLeaf count s = (none, sj) := by rw [HH.out.2.2.2.1, hm]; simp [rdC, hw]
          go_wp2_with fail
          rw [e]
          exact bodyPost_ret (v := .slice none 0 0) (by simp [results, Tryd.results28, go_sem]) rfl ⟨_, rfl, ⟨rfl, .inl ⟨rfl, rfl⟩⟩, HH.out.2.2.2.2⟩
        · have hw' : sj.2 = true := by simpa using hw
          rw [hw'] at c1
          go_wp2_with fail
          obtain ⟨hown, hlj, hsz, hrd, hrk, hbel⟩ := HH.out
          refine (one_keep rleaf_any hrk (by have := HS.out.1; omega) hown HRH.out).mono ?_
          rintro e wa ⟨rfl, hk2, ho2, hb2⟩
          have hrd2 : rdC rdLeaf count s = ((rdC rdLeaf (count - (j + 1)) (rdLeaf sj).2).1.map ((l ++ [(rdLeaf sj).1]) ++ ·), (rdC rdLeaf (count - (j + 1)) (rdLeaf sj).2).2) := by
            rw [hrd, hm, show count - (j + 1) = m by omega]
            simp [rdC, hw', Option.map_map, Function.comp_def]
          have hsz2 := Nat.le_trans (HS.out.2.2 sj) hsz
          have hbw := hbel.trans hb2
          clear c1 f1 hrd hrk hbel hown hsz hb2
          obtain ⟨cc, hcc⟩ : ∃ cc, (rdLeaf sj).1 = cc := ⟨_, rfl⟩
          obtain ⟨sk, hsk⟩ : ∃ sk, (rdLeaf sj).2 = sk := ⟨_, rfl⟩
          rw [hcc] at hrd2 ⊢
          rw [hsk] at hrd2 hk2 hsz2
          have HK := Lib.hid (rk_drop (rk_alloc hk2 (clC cc) 30) (fun x hx => .tail _ hx))
          have HO := Lib.hid (own_step ho2 (one_alloc (o := .cells (clC cc) 30)))
          have hB2 := hbw.alloc (Nat.le_trans HK.out.2.2 (Nat.le_of_lt hk2.1.lt)) (.cells (clC cc) 30)
          have HBB := Lib.hid hB2
          have HBS := Lib.hid (show w.heap.size ≤ (wa.alloc (.cells (clC cc) 30)).heap.size by have := hbw.size; simp; omega)
          have hrd := reads4g wa cc
          have HD2 := Lib.hid hrd2
          have HZ2 := Lib.hid hsz2
          have HRW := HRH
          clear hbw hk2 ho2 hB2 hrd2 hsz2
          obtain ⟨ck, cz, cl, cp⟩ := cc
          obtain ⟨hv1, hv2, hv3, hv4⟩ := HI.out
          go_wp2_with (at_builtin; refine wpList_append_any _ rfl (.tmp 25) (.tmp 28) 25 rfl w.heap.size 30 iv _ 4 48 Tryd.underlying25 hv1 hv2 hv3 hv4 rfl (by omega) _ j (clCs l) rfl HO.out (wa.heap.size + 1) (some ⟨wa.heap.size, 0, none⟩) 1 1 [.string ck, .int .i64 cz, .string cl, .int .i64 cp] rfl hrd (by intro u hu; simp at hu; rcases hu with rfl | rfl | rfl | rfl <;> rfl) (by simp only [maxLen]; omega) (by omega) HBS.out ?_; intro v1 w4 hown1 hg1 hat1; (have HK4 := Lib.hid (rk_grown HK.out hg1 HRW.out (fun x hx => HX.out x hx) (fun z hz => (HO.out.lt z hz).1))); (have HB4 := Lib.hid (HBB.out.grown hg1 (Nat.le_trans HK.out.2.2 (Nat.le_of_lt HK.out.1.lt)) (fun z hz => Nat.le_trans HBH.out (HO.out.lt z hz).1))); (have HO4 := Lib.hid hown1); clear hown1 hg1 hat1 hrd)
          go_wp2
          go_roundw
          case rel =>
            refine ⟨j + 1, l ++ [⟨ck, cz, cl, cp⟩], sk, by omega, by simp, by rw [clCs_snoc]; exact HO4.out, by rw [List.length_append]; simp; omega, HZ2.out, HD2.out, HK4.out, HB4.out⟩
          case measure => simp only [intOf]; omega
      · have hje : j = count := by omega
        subst hje
        have hdj : decide (j < j) = false := by simp
        have e : rdC rdLeaf j s = (some l, sj) := by rw [HH.out.2.2.2.1, Nat.sub_self]; simp [rdC]
        go_wp2_with fail
        rw [e]
        exact bodyPost_ret (v := u7) (by simp [results, Tryd.results28, go_sem]) rfl ⟨_, rfl, by have h := HH.out.1; rw [← HH.out.2.1] at h; exact h, HH.out.2.2.2.2⟩

end Go.Proofs.YticpenbebokjdaaDoor
