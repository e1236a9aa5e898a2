/- The walk of RecordSizes. Conditions: the numbers fit their kinds. -/
import Derived.Test.YtnnadlbimhnikaaRecW
import Derived.Test.YtnnadlbimhnikaaRecR1
import Derived.Deep.RegionLaw
import Derived.Deep.AppendLies
import Derived.Test.YtnnadlbimhnikaaOpenVals
namespace Go.Proofs.Ytnnadlbimhnikaa
open Go.RowKit
set_option linter.unusedVariables false
/-- the row that came in, and the value -/
def Vx (w : World) (A : Option Addr) (l : List Val) (x : Val) (W : World) : Prop := Vals W W.heap.size A l ∧ Blk W w.heap.size 26 (valC x) ∧ Below w.heap.size w W
theorem vx_step {w W W' : World} {A : Option Addr} {l : List Val} {x : Val} (h : Vx w A l x W) (hb : Below W.heap.size W W') : Vx w A l x W' := ⟨vals_step h.1 hb, blk_step h.2.1 hb, bj h.2.2 hb⟩
theorem vx_new {w : World} {A : Option Addr} {l : List Val} (x : Val) (h : Vals w w.heap.size A l) : Vx w A l x (w.alloc (.cells (valC x) 26)) :=
  ⟨vals_step h ((Below.refl _ _).alloc (Nat.le_refl _) _), Blk.new _ _ _, (Below.refl _ _).alloc (Nat.le_refl _) _⟩
theorem vxS {w W : World} {A : Option Addr} {l : List Val} {k q : Int} {s : ByteArray} (h : Vx w A l (k, q, s) W) : W.cell? ⟨w.heap.size, 0, none⟩ = some (.int .u8 k) ∧ W.cell? ⟨w.heap.size, 1, none⟩ = some (.int .i64 q) ∧ W.cell? ⟨w.heap.size, 2, none⟩ = some (.string s) := ⟨h.2.1.cell 0, h.2.1.cell 1, h.2.1.cell 2⟩
theorem size_grows (l : List Val) (x : Val) : sizeZ l = 0 ∨ sizeZ (l ++ [x]) = 0 ∨ sizeZ l < sizeZ (l ++ [x]) := by
  by_cases h1 : chkR l = 0
  · by_cases h2 : chkR (l ++ [x]) = 0
    · refine .inr (.inr ?_)
      unfold sizeZ
      rw [if_pos h1, if_pos h2, recL_len, recL_len]
      have e1 : (tagsL (l ++ [x])).length = (tagsL l).length + sz (tagN x) := by simp [tagsL, putL_length]
      have e2 : (bodsL (l ++ [x])).length = (bodsL l).length + (bodyL x).length := by simp [bodsL]
      have := (sz_le (tagN x)).1
      omega
    · exact .inr (.inl (by unfold sizeZ; rw [if_neg h2]))
  · exact .inl (by unfold sizeZ; rw [if_neg h1])
theorem one_vals {W : World} {g : Nat} {t : TypeId} {x : Val} (h : Blk W g t (valC x)) : Vals W W.heap.size (some ⟨g, 0, none⟩) [x] :=
  vals_blk h (fun j y hy => by
    match j, hy with
    | 0, hy => simp at hy; subst hy; exact ⟨rfl, rfl, rfl⟩
    | j + 1, hy => simp at hy)
theorem step_append_any {P : Program} (w : World) {ops : Array Oper} {o : Oper} {a : Act} {K : Act → World → Prop} {Q : Exit → Act → World → Prop} {E : Prop} (hgd : o.guard = none) (s x : Operand) (t : TypeId)
    (ho : o.op = .call { callee := .builtin .append, args := #[s, x], argTypes := #[t, t] })
    (base : Nat) (e : TypeId) (i : TypeInfo) (z : Value) (size bytes : Nat) (ht : P.underlying t = some (.slice e)) (hi : P.info? e = some i) (hz : i.zero = some z)
    (hsize : i.size = size) (hby : i.bytes = bytes) (hzs : z.cells.size = size) (hsz : 0 < size)
    (v : Value) (n : Nat) (xs : List Value) (hs : a.eval s = v) (hown : w.ownsRow base e size v n xs)
    (B : Nat) (A : Option Addr) (m c : Nat) (news : List Value) (hx : a.eval x = .slice A m c) (hr : Reads w B size A m news) (h1 : ∀ u ∈ news, u.oneCell' = true)
    (h63 : n + m ≤ maxLen) (hbytes : (n + m) * bytes ≤ 140737488355328) (hbase : base ≤ w.heap.size)
    (h : ∀ A' c' w', w'.ownsRow base e size (.slice A' (n + m) c') (n + m) (xs ++ news) → w.grownBy w' v.ownBlock → K (a.put o.dst (.slice A' (n + m) c')) w') :
    if Region.wanted o (yielded ops a.tmps) = true then Oper.wp P o a w K Q else E := by
  have hw : Region.wanted o (yielded ops a.tmps) = true := by simp [Region.wanted, hgd]
  rw [if_pos hw]
  refine wp_append_any w s x t ho base e i z size bytes ht hi hz hsize hby hzs hsz v n xs hs hown B A m c news hx hr h1 h63 hbytes hbase fun v' w' h2 h3 h4 => ?_
  obtain ⟨A', c', rfl⟩ := own_form h2
  exact h A' c' w' h2 h3
theorem own_e0 {W : World} {base g : Nat} (h : Blk W g 26 #[]) (hb : base ≤ g) : W.ownsRow base 26 3 (.slice (some ⟨g, 0, none⟩) 0 0) 0 [] :=
  ⟨rfl, .inr ⟨g, 0, #[], rfl, hb, h, Nat.le_refl _, by unfold maxLen; omega, rfl, rfl⟩⟩
theorem valCs_get (l : List Val) : ∀ (j : Nat) (u : Value), (valCs l)[j]? = some u → ∃ x, l[j / 3]? = some x ∧ (j % 3 = 0 ∧ u = .int .u8 x.1 ∨ j % 3 = 1 ∧ u = .int .i64 x.2.1 ∨ j % 3 = 2 ∧ u = .string x.2.2) := by
  induction l with
  | nil => intro j u h; simp [valCs] at h
  | cons y l ih =>
    intro j u h
    have e : valCs (y :: l) = .int .u8 y.1 :: .int .i64 y.2.1 :: .string y.2.2 :: valCs l := by simp [valCs]
    rw [e] at h
    match j, h with
    | 0, h => simp at h; exact ⟨y, rfl, .inl ⟨rfl, h.symm⟩⟩
    | 1, h => simp at h; exact ⟨y, rfl, .inr (.inl ⟨rfl, h.symm⟩)⟩
    | 2, h => simp at h; exact ⟨y, rfl, .inr (.inr ⟨rfl, h.symm⟩)⟩
    | j + 3, h =>
      simp only [List.getElem?_cons_succ] at h
      obtain ⟨x, h1, h2⟩ := ih j u h
      refine ⟨x, by rw [show (j + 3) / 3 = j / 3 + 1 from by omega]; simpa using h1, by rw [show (j + 3) % 3 = j % 3 from by omega]; exact h2⟩
theorem valCs_len (l : List Val) : (valCs l).length = l.length * 3 := by
  induction l with
  | nil => rfl
  | cons x l ih => unfold valCs at ih ⊢; rw [List.flatMap_cons, List.length_append, ih, List.length_cons]; simp; omega
theorem vals_reads {W : World} {A : Option Addr} {l : List Val} {n : Nat} (h : Vals W W.heap.size A l) (hn : n = l.length) : Reads W W.heap.size 3 A n (valCs l) := by
  subst hn
  refine ⟨valCs_len l, fun hpos => ?_⟩
  obtain ⟨b, o, rfl, hlt, hc⟩ := vals_get h (fun e => by rw [e] at hpos; simp at hpos)
  refine ⟨_, rfl, hlt, fun j u hu => ?_⟩
  obtain ⟨x, h1, h2⟩ := valCs_get l j u hu
  obtain ⟨c0, c1, c2⟩ := hc _ x h1
  have ea : ∀ i, (⟨b, o, none⟩ : Addr).add i = ⟨b, o + i, none⟩ := fun i => by unfold Addr.add; split <;> simp_all
  rw [ea]
  rcases h2 with ⟨h2, rfl⟩ | ⟨h2, rfl⟩ | ⟨h2, rfl⟩
  · rw [show o + j = o + j / 3 * 3 from by omega]; exact c0
  · rw [show o + j = o + j / 3 * 3 + 1 from by omega]; exact c1
  · rw [show o + j = o + j / 3 * 3 + 2 from by omega]; exact c2
theorem valCs_one (l : List Val) : ∀ u ∈ valCs l, u.oneCell' = true := by
  intro u hu
  unfold valCs at hu
  obtain ⟨x, _, hx⟩ := List.mem_flatMap.1 hu
  simp at hx
  rcases hx with rfl | rfl | rfl <;> rfl
theorem reads_blk {W : World} {g : Nat} {x : Val} (h : Blk W g 26 (valC x)) : Reads W W.heap.size 3 (some ⟨g, 0, none⟩) 1 [.int .u8 x.1, .int .i64 x.2.1, .string x.2.2] := by
  have := vals_reads (one_vals h) (n := 1) rfl
  exact this
/-- behind the first append: what stood stands, and the value's own copy, if it is there -/
theorem grown_below {w6 W W' : World} {g : Nat} (hb : Below w6.heap.size w6 W) (hg : W.grownBy W' (Value.slice (some ⟨g, 0, none⟩) 0 0).ownBlock) (h : w6.heap.size ≤ g) : Below w6.heap.size w6 W' :=
  hb.grown hg hb.size (fun k hk => by simp [Value.ownBlock] at hk; omega)
theorem below_grown {w W W' : World} {row : Option Nat} (hb : Below w.heap.size w W) (hg : W.grownBy W' row) (hr : ∀ k, row = some k → w.heap.size ≤ k) : Below w.heap.size w W' := hb.grown hg hb.size hr
theorem three_one (k q : Int) (s : ByteArray) : ∀ u ∈ [Value.int .u8 k, .int .i64 q, .string s], u.oneCell' = true := by
  intro u hu
  simp at hu
  rcases hu with rfl | rfl | rfl <;> rfl
theorem sizes_test (l : List Val) : ((putS l).2 = 0 ∧ ((putS l).1.size : Int) = sizeZ l) ∨ ((putS l).2 = 3 ∧ 4000 < sizeZ l) ∨ ((putS l).2 ≠ 0 ∧ sizeZ l = 0) := by
  by_cases hc : chkR l = 0
  · by_cases h4 : 4000 < (recL l).length
    · rw [putS_long hc h4]
      refine .inr (.inl ⟨rfl, ?_⟩)
      unfold sizeZ
      rw [if_pos hc]
      omega
    · rw [putS_ok hc (by omega)]
      refine .inl ⟨rfl, ?_⟩
      unfold sizeZ
      rw [if_pos hc, bstr_size]
  · rw [putS_bad hc]
    exact .inr (.inr ⟨hc, by unfold sizeZ; rw [if_neg hc]⟩)
set_option maxRecDepth 100000 in
set_option maxHeartbeats 8000000 in
theorem recordSizes_main (A : Option Addr) (l : List Val) (n c : Nat) (k q : Int) (s : ByteArray) (hn : n = l.length) (hm : n ≤ maxLen) (hf : ∀ x ∈ l, Fits x) (hx : Fits (k, q, s)) (w : World) (hV : Vals w w.heap.size A l) :
    Calls Try.prog 7 #[.slice A n c, .agg #[.int .u8 k, .int .i64 q, .string s]] w fun e w' => e = .returned (.bool true) ∧ Below w.heap.size w w' := by
  have hg := fun W (h : Vx w A l (k, q, s) W) => great_any A l n c W h.1 hn hm
  have hg1 := fun (W : World) (g : Nat) (h : Blk W g 26 (valC (k, q, s))) => great_any (some ⟨g, 0, none⟩) [(k, q, s)] 1 1 W (one_vals h) rfl (by unfold maxLen; omega)
  have hpt := fun W (h : Vx w A l (k, q, s) W) => put_row A l n c W h.1 hn hf
  have hsz := fun W (h : Vx w A l (k, q, s) W) => size_row A l n c W h.1 hn hf
  have h60 : greatB l = false → n ≤ 60 := fun h => by
    unfold greatB at h
    simp only [Bool.or_eq_false_iff, decide_eq_false_iff_not] at h
    omega
  have h0 := vx_new (k, q, s) hV
  generalize hgb : greatB l = gb at *
  generalize greatB [(k, q, s)] = gv at *
  have H0 := Lib.hid h0
  have HG := Lib.hid hg
  have HG1 := Lib.hid hg1
  cases gb
  · cases gv
    · have h60' := h60 rfl
      have htest := sizes_test l
      have hgrow := size_grows l (k, q, s)
      have hf2 : ∀ y ∈ l ++ [(k, q, s)], Fits y := fun y hy => by
        rcases List.mem_append.1 hy with hy | hy
        · exact hf y hy
        · rw [List.mem_singleton.1 hy]; exact hx
      have hsz2 : ∀ (W : World) (A' : Option Addr) (c' : Nat), W.ownsRow w.heap.size 26 3 (.slice A' (n + 1) c') (n + 1) (valCs l ++ [.int .u8 k, .int .i64 q, .string s]) → Calls Try.prog 13 #[.slice A' (n + 1) c'] W fun e w' => e = .returned (.int .i64 (sizeZ (l ++ [(k, q, s)]))) ∧ Below W.heap.size W w' := fun W A' c' ho => by
        rw [← valCs_snoc l (k, q, s)] at ho
        exact size_row A' (l ++ [(k, q, s)]) (n + 1) c' W (vals_of_own ho (by simp; omega)) (by simp; omega) hf2
      generalize sizeZ (l ++ [(k, q, s)]) = M at *
      generalize sizeZ l = Z at *
      generalize putS l = P at *
      obtain ⟨PX, PE⟩ := P
      simp only at hpt htest
      have HPT := Lib.hid hpt
      have HSZ := Lib.hid hsz
      have HSZ2 := Lib.hid hsz2
      have HTEST := Lib.hid htest
      have HGROW := Lib.hid hgrow
      have HN := Lib.hid hn
      clear hpt hsz hsz2 hf hf2 hx hg hg1 h0 hgb h60 htest hgrow hV hm hn
      go_enter Try.func7, Try.ntmps7
      go_wp2_with fail
      refine (works_any _).mono ?_
      rintro e w1 ⟨rfl, hb1⟩
      have h1 := vx_step H0.out hb1
      clear hb1
      go_wp2_with fail
      refine (HG.out _ h1).mono ?_
      rintro e w2 ⟨rfl, hb2⟩
      have h2 := vx_step h1 hb2
      clear hb2 h1
      obtain ⟨c0, c1, c2⟩ := vxS h2
      go_wp2_with fail
      refine (HG1.out _ _ (blk_new _ _ _ _ rfl)).mono ?_
      rintro e w3 ⟨rfl, hb3⟩
      have h3 := vx_step h2 (bja _ (Below.refl _ _) hb3)
      clear c0 c1 c2 hb3 h2
      go_wp2_with fail
      refine (HPT.out _ h3).mono ?_
      rintro e w4 ⟨rfl, hb4⟩
      have h4 := vx_step h3 hb4
      clear hb4 h3
      go_wp2_with fail
      refine (HSZ.out _ h4).mono ?_
      rintro e w5 ⟨rfl, hb5⟩
      have h5 := vx_step h4 hb5
      have H5 := Lib.hid h5
      clear hb5 h4 h5
      go_upto_region 7 with fail
      go_cut [44] (fun s44 wx => s44 = .bool false ∧ wx = w5)
      case first =>
        rcases HTEST.out with ⟨t1, t2⟩ | ⟨t1, t2⟩ | ⟨t1, t2⟩
        · subst t1
          have e1 : ((PX.size : Int) != Z) = false := by rw [t2]; simp
          have HT2 := Lib.hid t2
          clear t2
          go_wp2_with fail
          go_meet
          exact ⟨rfl, rfl⟩
        · subst t1
          have e1 : (Z != 0) = true := by rw [bne_iff_ne]; omega
          have e2 : ¬ Z ≤ 4000 := by omega
          have e3 : 4000 < Z := t2
          go_wp2_with fail
          go_meet
          exact ⟨rfl, rfl⟩
        · subst t2
          have e1 : (PE == 0) = false := by rw [beq_eq_false_iff_ne]; exact t1
          by_cases t3 : PE = 3
          · subst t3
            go_wp2_with fail
            go_meet
            exact ⟨rfl, rfl⟩
          · have e2 : (PE == 3) = false := by rw [beq_eq_false_iff_ne]; exact t3
            go_wp2_with fail
            go_meet
            exact ⟨rfl, rfl⟩
      case rest =>
        obtain ⟨rfl, rfl⟩ := hcut
        clear HG HG1 HPT HSZ HTEST H0
        have e0 : ∀ o, (wc.alloc o).cell? ⟨w.heap.size, 0, none⟩ = some (.int .u8 k) := fun o => (H5.out.2.1.alloc o).cell 0
        have e1 : ∀ o, (wc.alloc o).cell? ⟨w.heap.size, 1, none⟩ = some (.int .i64 q) := fun o => (H5.out.2.1.alloc o).cell 1
        have e2 : ∀ o, (wc.alloc o).cell? ⟨w.heap.size, 2, none⟩ = some (.string s) := fun o => (H5.out.2.1.alloc o).cell 2
        obtain ⟨c0, c1, c2⟩ := vxS H5.out
        obtain ⟨iv, hv1, hv2, hv3, hv4⟩ := info_parts (show (Try.prog.info? 26).map (fun i => (i.zero, i.size, i.bytes)) = some (some (.agg #[.int .u8 0, .int .i64 0, .string ⟨#[]⟩]), 3, 32) by kernel_rfl)
        have G0 : w.heap.size ≤ wc.heap.size := H5.out.2.2.size
        have HB : Hid (Below w.heap.size w wc) := Lib.hid H5.out.2.2
        have E1 := Lib.hid (Blk.new wc 26 #[]).drew
        have E2 := Lib.hid ((Blk.new wc 26 #[]).alloc (.cells #[.int .u8 k, .int .i64 q, .string s] 26)).drew
        have E3 := Lib.hid (blk_new (wc.alloc (.cells #[.int .u8 k, .int .i64 q, .string s] 26)) (wc.heap.size + 1) 26 #[] (by simp)).drew
        have B1 := Lib.hid ((Below.refl wc.heap.size wc).alloc (Nat.le_refl _) (.cells #[] 26)).drew
        have B2 := Lib.hid (((Below.refl wc.heap.size wc).alloc (Nat.le_refl _) (.cells #[] 26)).alloc (by simp) (.cells #[.int .u8 k, .int .i64 q, .string s] 26)).drew
        have B3 := Lib.hid (((Below.refl wc.heap.size wc).alloc (Nat.le_refl _) (.cells #[.int .u8 k, .int .i64 q, .string s] 26)).alloc (by simp) (.cells #[] 26)).drew
        have HG0 := Lib.hid G0
        have HLT := Lib.hid H5.out.2.1.lt
        have HRD : Hid (∀ W, Below wc.heap.size wc W → Reads W W.heap.size 3 A n (valCs l)) := Lib.hid fun W hb => vals_reads (vals_step H5.out.1 hb) HN.out
        have V2 := Lib.hid (blk_new (wc.alloc (.cells #[] 26)) (wc.heap.size + 1) 26 #[.int .u8 k, .int .i64 q, .string s] (by simp)).drew
        have V3 := Lib.hid ((Blk.new wc 26 #[.int .u8 k, .int .i64 q, .string s]).alloc (.cells #[] 26)).drew
        clear G0
        go_wp2_with fail
        go_region_law (first
          | (refine step_append_any _ (by rfl) (.tmp 45) (.tmp 46) 27 (by rfl) w.heap.size 26 iv _ 3 32 Try.underlying27 hv1 hv2 hv3 hv4 rfl (by omega) _ 0 [] (by rfl) (by first | exact own_e0 E1.out HG0.out | exact own_e0 E2.out HG0.out | exact own_e0 E3.out (Nat.le_succ_of_le HG0.out)) _ A n c (valCs l) (by rfl) (HRD.out _ (by first | exact B1.out | exact B2.out | exact B3.out)) (valCs_one l) (by simp only [maxLen]; omega) (by omega) (by first | exact Nat.le_trans HG0.out B1.out.size | exact Nat.le_trans HG0.out B2.out.size | exact Nat.le_trans HG0.out B3.out.size) ?_; intro A1 k1 wA hown1 hgr1; (simp only [Nat.zero_add, List.nil_append] at hown1); (have hbA := grown_below (by first | exact B1.out | exact B2.out | exact B3.out) hgr1 (by first | exact Nat.le_refl _ | exact Nat.le_succ _)); (have x0 := (hbA.cell (p := ⟨w.heap.size, 0, none⟩) HLT.out).trans c0); (have x1 := (hbA.cell (p := ⟨w.heap.size, 1, none⟩) HLT.out).trans c1); (have x2 := (hbA.cell (p := ⟨w.heap.size, 2, none⟩) HLT.out).trans c2); (try (have hv9 := V2.out.grown hgr1 (fun e => absurd (show some (wc.heap.size + 1) = some wc.heap.size from e) (by simp)))); (try (have hv9 := V3.out.grown hgr1 (fun e => absurd (show some wc.heap.size = some (wc.heap.size + 1) from e) (by simp)))); (have HO1 := Lib.hid hown1); (have HBA := Lib.hid (bj HB.out hbA)); clear hown1 hgr1 hbA)
          | (refine step_append_any _ (by rfl) (.tmp 47) (.tmp 49) 27 (by rfl) w.heap.size 26 iv _ 3 32 Try.underlying27 hv1 hv2 hv3 hv4 rfl (by omega) (.slice A1 n k1) n (valCs l) (by rfl) (by first | exact HO1.out | exact HO1.out.alloc _) _ _ 1 1 [.int .u8 k, .int .i64 q, .string s] (by rfl) (by first | exact reads_blk (x := (k, q, s)) hv9 | exact reads_blk (x := (k, q, s)) (Blk.new _ _ _)) (three_one k q s) (by simp only [maxLen]; omega) (by omega) (by first | exact HBA.out.size | exact (HBA.out.alloc HBA.out.size _).size) ?_; intro A2 k2 wB hown2 hgr2; (have HBB := Lib.hid (below_grown (by first | exact HBA.out | exact HBA.out.alloc HBA.out.size _) hgr2 (fun y hy => (HO1.out.lt y hy).1))); (have HO2 := Lib.hid hown2); clear hown2 hgr2)
          | (go_simp; go_at_call 13; (with_reducible refine (HSZ2.out _ _ _ HO2.out).mono ?_); rintro e wC ⟨rfl, hbC⟩))
        all_goals
          have HBC := Lib.hid (HBB.out.trans (hbC.mono HBB.out.size))
          rcases HGROW.out with r | r | r
          all_goals
            first | subst r | skip
            go_wp2
            all_goals (go_ret; exact ⟨rfl, HBC.out⟩)
    · clear hpt hsz hn hm hf hx hV hg hg1 h0 hgb h60
      go_enter Try.func7, Try.ntmps7
      go_wp2_with fail
      refine (works_any _).mono ?_
      rintro e w1 ⟨rfl, hb1⟩
      have h1 := vx_step H0.out hb1
      obtain ⟨c0, c1, c2⟩ := vxS h1
      go_wp2_with fail
      refine (HG.out _ h1).mono ?_
      rintro e w2 ⟨rfl, hb2⟩
      have h2 := vx_step h1 hb2
      clear c0 c1 c2 hb1 hb2 h1
      obtain ⟨c0, c1, c2⟩ := vxS h2
      go_wp2_with fail
      refine (HG1.out _ _ (blk_new _ _ _ _ rfl)).mono ?_
      rintro e w3 ⟨rfl, hb3⟩
      have h3 := vx_step h2 (bja _ (Below.refl _ _) hb3)
      clear c0 c1 c2 hb3 h2
      go_wp2
      go_ret
      exact ⟨rfl, h3.2.2⟩
  · clear hpt hsz hn hm hf hx hV hg hg1 h0 hgb h60
    go_enter Try.func7, Try.ntmps7
    go_wp2_with fail
    refine (works_any _).mono ?_
    rintro e w1 ⟨rfl, hb1⟩
    have h1 := vx_step H0.out hb1
    go_wp2_with fail
    refine (HG.out _ h1).mono ?_
    rintro e w2 ⟨rfl, hb2⟩
    have h2 := vx_step h1 hb2
    go_wp2
    go_ret
    exact ⟨rfl, h2.2.2⟩
theorem recordSizes_walk (A : Option Addr) (l : List Val) (n c : Nat) (k q : Int) (s : ByteArray) (hn : n = l.length) (hm : n ≤ maxLen) (hf : ∀ x ∈ l, Fits x) (wk : (Lit.int .u8 k).wf = true) (wq : (Lit.int .i64 q).wf = true) (ws : s.size ≤ 140737488351232) (w : World) (hV : Vals w w.heap.size A l) :
    Calls Try.prog 7 #[.slice A n c, .agg #[.int .u8 k, .int .i64 q, .string s]] w fun e w' => e = .returned (.bool true) ∧ Below w.heap.size w w' :=
  recordSizes_main A l n c k q s hn hm hf ⟨(wf_u8 wk).1, (wf_u8 wk).2, (wf_i64 wq).1, (wf_i64 wq).2⟩ w hV
end Go.Proofs.Ytnnadlbimhnikaa
