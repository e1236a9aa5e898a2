/- ref25's Deliver. Conditions: those of each lemma. -/
import Derived.Test.YtndlcjpkpkfcpaaNt13
namespace Go.Proofs.Ytndlcjpkpkfcpaa
open Go.RowKit Go Go.Maps
set_option linter.unusedVariables false
set_option linter.unusedSimpArgs false
theorem ltCs_app (L M : List Lt) : ltCs (L ++ M) = ltCs L ++ ltCs M := by simp [ltCs]
theorem filter_all {L : List Lt} {k : Int} (h : ∀ x ∈ L, k < x.id) : L.filter (fun x => decide (x.id ≠ k)) = L := by
  rw [List.filter_eq_self]
  intro x hx
  have := h x hx
  simp; omega
theorem filter_cut {k : Int} {x : Lt} : ∀ (L : List Lt) (i : Nat), Up L → L[i]? = some x → x.id = k → L.filter (fun x => decide (x.id ≠ k)) = L.take i ++ L.drop (i + 1)
  | [], i, _, h, _ => by simp at h
  | a :: L, 0, hu, h, hk => by
    obtain rfl : a = x := by simpa using h
    obtain ⟨h1, h2⟩ := List.pairwise_cons.1 hu
    subst hk
    rw [List.filter_cons]
    simp only [ne_eq, not_true_eq_false, decide_false, Bool.false_eq_true, if_false, List.take_zero, List.nil_append, List.drop_succ_cons, List.drop_zero]
    exact filter_all (fun y hy => h1 y hy)
  | a :: L, i + 1, hu, h, hk => by
    obtain ⟨h1, h2⟩ := List.pairwise_cons.1 hu
    have hx : L[i]? = some x := by simpa using h
    have hlt := h1 x (List.mem_of_getElem? hx)
    have hne : a.id ≠ k := by omega
    rw [List.filter_cons, if_pos (by simpa using hne), filter_cut L i h2 hx hk]
    rfl
/-- a cut of the letters -/
theorem cut_reads {W : World} {base g c : Nat} {L : List Lt} (h : W.ownsRow base 31 5 (.slice (some ⟨g, 0, none⟩) L.length c) L.length (ltCs L)) (P M S : List Lt) (hL : L = P ++ (M ++ S)) : Reads W W.heap.size 5 (some ⟨g, P.length * 5, none⟩) M.length (ltCs M) := by
  refine ⟨ltCs_len M, fun hpos => ?_⟩
  rcases h.2 with ⟨h0, hn⟩ | ⟨g', cap, cur, hv, hbg, hg, hr⟩
  · simp at h0
  · have hb : Blk W g' 31 cur := hg
    cases hv
    refine ⟨_, rfl, hb.lt, fun j u hu => ?_⟩
    have ea : ∀ i, (⟨g, 0, none⟩ : Addr).add i = ⟨g, i, none⟩ := fun i => by unfold Addr.add; simp; omega
    have eb : ∀ i, (⟨g, P.length * 5, none⟩ : Addr).add i = ⟨g, P.length * 5 + i, none⟩ := fun i => by unfold Addr.add; split <;> simp_all
    have hj : j < (ltCs M).length := (List.getElem?_eq_some_iff.1 hu).1
    have := h.cells (g := g) rfl (P.length * 5 + j) u (by
      rw [hL, ltCs_app, ltCs_app, List.getElem?_append_right (by rw [ltCs_len]; omega), ltCs_len, Nat.add_sub_cancel_left, List.getElem?_append_left hj]
      exact hu)
    rw [ea] at this
    rw [eb]
    exact this
theorem cut_take {W : World} {base g c : Nat} {L : List Lt} (h : W.ownsRow base 31 5 (.slice (some ⟨g, 0, none⟩) L.length c) L.length (ltCs L)) {j : Nat} (hj : j ≤ L.length) : Reads W W.heap.size 5 (some ⟨g, 0, none⟩) j (ltCs (L.take j)) := by
  have := cut_reads h [] (L.take j) (L.drop j) (by simp)
  rw [List.length_take, Nat.min_eq_left hj] at this
  simpa using this
theorem cut_drop {W : World} {base g c : Nat} {L : List Lt} (h : W.ownsRow base 31 5 (.slice (some ⟨g, 0, none⟩) L.length c) L.length (ltCs L)) {j : Nat} (hj : j ≤ L.length) : Reads W W.heap.size 5 (some ⟨g, j * 5, none⟩) (L.length - j) (ltCs (L.drop j)) := by
  have := cut_reads h (L.take j) (L.drop j) [] (by simp)
  rw [List.length_take, Nat.min_eq_left hj, List.length_drop] at this
  exact this
theorem own_nil (W : World) (base : Nat) : W.ownsRow base 31 5 (.slice none 0 0) 0 [] := ⟨rfl, .inl ⟨rfl, rfl⟩⟩
theorem ref_final {W : World} {gr base z B : Nat} {v : Value} {M : List Lt} {N : Int} (h1 : Blk W gr 42 #[v, .int .i64 N]) (h2 : W.ownsRow B 31 5 v M.length (ltCs M)) (hB : gr < B) (hz : z < B) (hzg : z ≠ gr) (hbase : base ≤ gr) (p q r s u : Value) : RefS gr base M N (((((W.setCell ⟨z, 0, none⟩ p).setCell ⟨z, 1, none⟩ q).setCell ⟨z, 2, none⟩ r).setCell ⟨z, 3, none⟩ s).setCell ⟨z, 4, none⟩ u) := by
  have hk : ∀ k, v.ownBlock = some k → k ≠ z := fun k hk => by have := (h2.lt k hk).1; omega
  have hgz : gr ≠ z := Ne.symm hzg
  refine ⟨v, ((((h1.far (p := ⟨z, 0, none⟩) hgz _).far (p := ⟨z, 1, none⟩) hgz _).far (p := ⟨z, 2, none⟩) hgz _).far (p := ⟨z, 3, none⟩) hgz _).far (p := ⟨z, 4, none⟩) hgz _, ?_, fun k hk => by have := (h2.lt k hk).1; omega, hbase⟩
  exact own_base (own_far (own_far (own_far (own_far (own_far h2 (p := ⟨z, 0, none⟩) hk _) (p := ⟨z, 1, none⟩) hk _) (p := ⟨z, 2, none⟩) hk _) (p := ⟨z, 3, none⟩) hk _) (p := ⟨z, 4, none⟩) hk _) (by omega)
theorem at_below (gr base : Nat) (L : List Lt) (N k : Int) (w : World) (hs : RefS gr base L N w) (hl : L.length ≤ 64) (Z : Int) (hZ : atZ L k 0 = Z) :
    Calls Try.prog 33 #[.pointer (some ⟨gr, 0, none⟩), .int .i64 k] w fun e w' => e = .returned (.int .i64 Z) ∧ Below w.heap.size w w' := by
  refine (at_any gr base L N k w hs hl).mono ?_
  rintro e w' ⟨rfl, rfl⟩
  exact ⟨by rw [hZ], Below.refl _ _⟩
set_option maxRecDepth 100000 in
set_option maxHeartbeats 1000000 in
theorem rdeliver_none (k : Int) (gr base : Nat) (L : List Lt) (N : Int) (w : World) (hs : RefS gr base L N w) (hl : L.length ≤ 64) (hf : findL L k = none) :
    Calls Try.prog 17 #[.pointer (some ⟨gr, 0, none⟩), .int .i64 k] w fun e w' => e = .returned (.tuple #[ltV zL, .int .i64 4]) ∧ Below w.heap.size w w' := by
  have h1 := ref_step hs (one_alloc (o := .cells (ltC zL) 31))
  have HF := Lib.hid (at_below gr base L N k _ h1 hl _ (at_none L 0 hf))
  have hz := Blk.new w 31 (ltC zL)
  clear hs h1 hf hl
  go_enter Try.func17, Try.ntmps17
  go_wp2_with fail
  refine HF.out.mono ?_
  rintro e w2 ⟨rfl, hb2⟩
  have hz2 := blk_step hz hb2
  have HB := Lib.hid (bj one_alloc hb2)
  have HZ := Lib.hid hz2
  obtain ⟨z0, z1, z2, z3, z4⟩ := cell5 hz2
  obtain ⟨f0, f1, f2, f3, f4⟩ := froz5 hz2
  clear hb2 hz hz2
  go_wp2
  obtain ⟨e0, e1, e2, e3, e4⟩ := cell5 (set5 HZ.out (.int .i64 0) (.int .i64 0) (.int .i64 0) (.string ⟨#[]⟩) (.bool false))
  exact bodyPost_ret (v := .tuple #[ltV zL, .int .i64 4]) (by simp [results, Try.results17, go_sem, e0, e1, e2, e3, e4]) rfl ⟨rfl, below5 HB.out (Nat.le_refl _) _ _ _ _ _⟩
set_option maxRecDepth 100000 in
set_option maxHeartbeats 1000000 in
theorem rdeliver_some (k : Int) (gr base : Nat) (L : List Lt) (N : Int) (w : World) (hs : RefS gr base L N w) (hl : L.length ≤ 64) (hu : Up L) (x : Lt) (hf : findL L k = some x) :
    Calls Try.prog 17 #[.pointer (some ⟨gr, 0, none⟩), .int .i64 k] w fun e w' => e = .returned (.tuple #[ltV x, .int .i64 0]) ∧ RefS gr base (L.filter fun x => decide (x.id ≠ k)) N w' ∧ But gr gr w w' := by
  obtain ⟨j, hj, hx⟩ := at_some L 0 hf
  rw [Nat.zero_add] at hj
  have h1 := ref_step hs (one_alloc (o := .cells (ltC zL) 31))
  have HF := Lib.hid (at_below gr base L N k _ h1 hl _ hj)
  have HH1 := Lib.hid h1
  have HC := Lib.hid (filter_cut L j hu hx (find_id hf).1)
  have hjl : j < L.length := (List.getElem?_eq_some_iff.1 hx).1
  have hjI : (j : Int) < L.length := by omega
  have hlI : (L.length : Int) ≤ 64 := by omega
  have hwr : IntKind.i64.wrap ((j : Int) + 1) = (j : Int) + 1 := by rw [IntKind.wrap_i64]; omega
  have HX := Lib.hid hx
  have HGR : Hid (gr < w.heap.size) := Lib.hid (by obtain ⟨_, q, _⟩ := hs; exact q.lt)
  obtain ⟨i, f, t, b, s⟩ := x
  obtain ⟨iv, hv1, hv2, hv3, hv4⟩ := info_parts (show (Try.prog.info? 31).map (fun i => (i.zero, i.size, i.bytes)) = some (some (.agg #[.int .i64 0, .int .i64 0, .int .i64 0, .string ⟨#[]⟩, .bool false]), 5, 48) by kernel_rfl)
  have hz := Blk.new w 31 (ltC zL)
  have HAPP : Hid ((L.filter fun x => decide (x.id ≠ k)).length = j + (L.length - (j + 1)) ∧ ltCs (L.filter fun x => decide (x.id ≠ k)) = ltCs (L.take j) ++ ltCs (L.drop (j + 1))) := Lib.hid ⟨by rw [HC.out, List.length_append, List.length_take, List.length_drop]; omega, by rw [HC.out, ltCs_app]⟩
  obtain ⟨FL, hFL⟩ : ∃ FL, L.filter (fun x => decide (x.id ≠ k)) = FL := ⟨_, rfl⟩
  rw [hFL] at HAPP ⊢
  clear hFL HC
  clear hs hf hj hx h1 hl hu
  go_enter Try.func17, Try.ntmps17
  go_wp2_with fail
  refine HF.out.mono ?_
  rintro e w2 ⟨rfl, hb2⟩
  have h2 := ref_step HH1.out hb2
  have hz2 := blk_step hz hb2
  have hB2 := bj one_alloc hb2
  have h3 := ref_step h2 (one_alloc (o := .cells (ltC ⟨i, f, t, b, s⟩) 31))
  have hx3 := Blk.new w2 31 (ltC ⟨i, f, t, b, s⟩)
  have hz3 := blk_step hz2 (one_alloc (o := .cells (ltC ⟨i, f, t, b, s⟩) 31))
  have HB3 := Lib.hid (bj hB2 (one_alloc (o := .cells (ltC ⟨i, f, t, b, s⟩) 31)))
  obtain ⟨v, hb, ho, hn, hbase⟩ := h2
  obtain ⟨A, c, rfl, hlt⟩ := lts_of_own ho
  rcases hlt with rfl | ⟨g, o, rfl, hgl, hc⟩
  · simp at hjl
  obtain ⟨b0, b1, b2, b3, b4⟩ := hc j _ HX.out
  have c0 := hb.cell 0
  have hb3 := blk_step hb (one_alloc (o := .cells (ltC ⟨i, f, t, b, s⟩) 31))
  have ho3 := own_below ho (one_alloc (o := .cells (ltC ⟨i, f, t, b, s⟩) 31))
  have d0 := hb3.cell 0
  obtain rfl : o = 0 := by
    rcases ho.2 with ⟨h0, _⟩ | ⟨g', cap, cur, hv, _⟩
    · simp at h0
    · cases hv; rfl
  simp only [Nat.zero_add] at b0 b1 b2 b3 b4
  obtain ⟨W3, hW3⟩ : ∃ W3, w2.alloc (.cells (ltC ⟨i, f, t, b, s⟩) 31) = W3 := ⟨_, rfl⟩
  have hlc : L.length ≤ c := by
    rcases ho.2 with ⟨h0, _⟩ | ⟨g', cap, cur, hv, _, _, h1, _⟩
    · simp at h0
    · cases hv; exact h1
  have hlcI : (L.length : Int) ≤ c := by omega
  have HRS : Hid (∀ W, Below W3.heap.size W3 W → W.cell? ⟨gr, 0, none⟩ = some (.slice (some ⟨g, 0, none⟩) L.length c) ∧ Reads W W.heap.size 5 (some ⟨g, 0, none⟩) j (ltCs (L.take j)) ∧ Reads W W.heap.size 5 (some ⟨g, (j + 1) * 5, none⟩) (L.length - (j + 1)) (ltCs (L.drop (j + 1)))) := Lib.hid fun W hW => by
    subst hW3
    exact ⟨(blk_step hb3 hW).cell 0, cut_take (own_below ho3 hW) (by omega), cut_drop (own_below ho3 hW) (by omega)⟩
  have HO3 := Lib.hid ho3
  have HG3 := Lib.hid hb3
  have HZ3 := Lib.hid hz3
  have HX3 := Lib.hid hx3
  have HSZ := Lib.hid hb2.size
  have HBS := Lib.hid hbase
  clear hb2 hz hz2 hB2 h3 hx3 hz3 hb ho hgl hc hb3 ho3 d0 hbase hn
  have hrd0 := (HRS.out W3 (Below.refl _ _)).2.1
  have d0 := (HRS.out W3 (Below.refl _ _)).1
  have HON := Lib.hid (own_nil W3 W3.heap.size)
  subst hW3
  have HRA : Hid (∀ W : World, Reads W W.heap.size 5 (some ⟨g, 0, none⟩) 0 []) := Lib.hid fun W => ⟨rfl, fun h => absurd h (Nat.lt_irrefl 0)⟩
  have HAPP1 : Hid (c = j + 1 → FL.length = j + 0 ∧ ltCs FL = ltCs (L.take j) ++ []) := Lib.hid fun hc => by
    have e : L.length = j + 1 := by omega
    have e2 : L.drop (j + 1) = [] := List.drop_eq_nil_of_le (by omega)
    have e3 := HAPP.out
    rw [e2, e] at e3
    exact ⟨by rw [e3.1]; omega, e3.2⟩
  by_cases hcj : c = j + 1
  all_goals
    try subst hcj
    go_wp2_with (first
      | (at_builtin; refine wpList_append_any _ rfl (.tmp 22) (.tmp 28) 35 rfl _ 31 iv _ 5 48 Try.underlying35 hv1 hv2 hv3 hv4 rfl (by omega) _ 0 [] rfl HON.out _ (some ⟨g, 0, none⟩) j _ (ltCs (L.take j)) rfl hrd0 (ltCs_one _) (by simp only [maxLen]; omega) (by omega) (Nat.le_refl _) ?_; intro v1 w4 hown1 hg1 hat1; (simp only [Nat.zero_add, List.nil_append] at hown1); obtain ⟨A1, c1, rfl⟩ := own_form hown1; (have hb4 := below_grown (Below.refl _ _) hg1 (fun z hz => (HON.out.lt z hz).1)); (obtain ⟨d4, _, hrd4⟩ := HRS.out _ hb4); (have HB4 := Lib.hid hb4); (have HO4 := Lib.hid hown1); clear hown1 hg1 hat1 hrd0 hb4)
      | (at_builtin; (first | (refine wpList_append_any _ rfl (.tmp 31) (.tmp 38) 35 rfl _ 31 iv _ 5 48 Try.underlying35 hv1 hv2 hv3 hv4 rfl (by omega) _ j (ltCs (L.take j)) rfl HO4.out _ _ 0 _ [] rfl (HRA.out _) (by intro u hu; cases hu) (by simp only [maxLen]; omega) (by omega) HB4.out.size ?_) | (refine wpList_append_any _ rfl (.tmp 31) (.tmp 38) 35 rfl _ 31 iv _ 5 48 Try.underlying35 hv1 hv2 hv3 hv4 rfl (by omega) _ j (ltCs (L.take j)) rfl HO4.out _ _ (L.length - (j + 1)) _ (ltCs (L.drop (j + 1))) rfl hrd4 (ltCs_one _) (by simp only [maxLen]; omega) (by omega) HB4.out.size ?_)); intro v2 w5 hown2 hg2 hat2; (have hown2 : w5.ownsRow (w2.alloc (.cells (ltC ⟨i, f, t, b, s⟩) 31)).heap.size 31 5 v2 FL.length (ltCs FL) := by first | (have e3 := HAPP1.out (by first | trivial | rfl); rw [e3.1, e3.2]; exact hown2) | (rw [HAPP.out.1, HAPP.out.2]; exact hown2)); obtain ⟨A2, c2, rfl⟩ := own_form hown2; (have hb5 := below_grown HB4.out hg2 (fun z hz => (HO4.out.lt z hz).1)); (have q1 := blk_step HG3.out hb5); (have z0 := q1.frozen 0); (have z1 := q1.cell 0); (have hq1 := HGR.out); (have hq2 := HSZ.out); (have hx6 := (blk_step HX3.out hb5).far (p := ⟨gr, 0, none⟩) (by simp at hq2; show w2.heap.size ≠ gr; omega) (.slice A2 FL.length c2)); (have hz6 := (blk_step HZ3.out hb5).far (p := ⟨gr, 0, none⟩) (by show w.heap.size ≠ gr; omega) (.slice A2 FL.length c2)); (have HB6 := Lib.hid (but_trans (but_of (a := gr) (b := gr) (bj HB3.out hb5)) (but_set (p := ⟨gr, 0, none⟩) (.inl rfl) (.slice A2 FL.length c2)))); (have HR6 := Lib.hid (ref_final (z := w.heap.size) (q1.set_ 0 (.slice A2 FL.length c2)) (own_far hown2 (p := ⟨gr, 0, none⟩) (fun y hy => by have := (hown2.lt y hy).1; simp at this hq2; show y ≠ gr; omega) (.slice A2 FL.length c2)) (by simp at hq2 ⊢; omega) (by simp at hq2 ⊢; omega) (by omega) HBS.out (.int .i64 i) (.int .i64 f) (.int .i64 t) (.string b) (.bool s))); obtain ⟨x0, x1, x2, x3, x4⟩ := cell5 hx6; obtain ⟨y0, y1, y2, y3, y4⟩ := cell5 hz6; obtain ⟨f0, f1, f2, f3, f4⟩ := froz5 hz6; (have HZ6 := Lib.hid hz6); clear hx6 hz6 hown2 hg2 hat2 hb5 q1 hq1 hq2 hrd4))
    all_goals
      obtain ⟨e0, e1, e2, e3, e4⟩ := cell5 (set5 HZ6.out (.int .i64 i) (.int .i64 f) (.int .i64 t) (.string b) (.bool s))
      exact bodyPost_ret (v := .tuple #[ltV ⟨i, f, t, b, s⟩, .int .i64 0]) (by simp [results, Try.results17, go_sem, e0, e1, e2, e3, e4]) rfl ⟨rfl, HR6.out, but_set5 HB6.out (Nat.le_refl _) _ _ _ _ _⟩
end Go.Proofs.Ytndlcjpkpkfcpaa
