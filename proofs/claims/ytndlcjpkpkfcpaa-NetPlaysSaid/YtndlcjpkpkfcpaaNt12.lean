/- ref25's add. Conditions: those of each lemma. -/
import Derived.Test.YtndlcjpkpkfcpaaNt11
import Derived.Deep.RegionLaw
import Derived.Deep.AppendLies
namespace Go.Proofs.Ytndlcjpkpkfcpaa
open Go.RowKit Go Go.Maps
set_option linter.unusedVariables false
set_option linter.unusedSimpArgs false
theorem step_append_any {P : Program} (w : World) {ops : Array Oper} {o : Oper} {a : Act} {K : Act → World → Prop} {Q : Exit → Act → World → Prop} {E : Prop} (hgd : o.guard = none) (s x : Operand) (t : TypeId)
    (ho : o.op = .call { callee := .builtin .append, args := #[s, x], argTypes := #[t, t] })
    (base : Nat) (e : TypeId) (i : TypeInfo) (z : Value) (size bytes : Nat) (ht : P.underlying t = some (.slice e)) (hi : P.info? e = some i) (hz : i.zero = some z)
    (hsize : i.size = size) (hby : i.bytes = bytes) (hzs : z.cells.size = size) (hsz : 0 < size)
    (v : Value) (n : Nat) (xs : List Value) (hs : a.eval s = v) (hown : w.ownsRow base e size v n xs)
    (B : Nat) (A : Option Addr) (m c : Nat) (news : List Value) (hx : a.eval x = .slice A m c) (hr : Reads w B size A m news) (h1 : ∀ u ∈ news, u.oneCell' = true)
    (h63 : n + m ≤ maxLen) (hbytes : (n + m) * bytes ≤ 140737488355328) (hbase : base ≤ w.heap.size)
    (h : ∀ A' c' w', w'.ownsRow base e size (.slice A' (n + m) c') (n + m) (xs ++ news) → w.grownBy w' v.ownBlock → K (a.put o.dst (.slice A' (n + m) c')) w') :
    if Region.wanted o (yielded ops a.tmps) = true then Oper.wp P o a w K Q else E := by
  have hw : Region.wanted o (yielded ops a.tmps) = true := by simp [Region.wanted, hgd]
  rw [if_pos hw]
  refine wp_append_any w s x t ho base e i z size bytes ht hi hz hsize hby hzs hsz v n xs hs hown B A m c news hx hr h1 h63 hbytes hbase fun v' w' h2 h3 h4 => ?_
  obtain ⟨A', c', rfl⟩ := own_form h2
  exact h A' c' w' h2 h3
theorem ltCs_len (L : List Lt) : (ltCs L).length = L.length * 5 := by
  induction L with
  | nil => rfl
  | cons x l ih => unfold ltCs at ih ⊢; rw [List.flatMap_cons, List.length_append, ih, List.length_cons]; simp; omega
theorem ltCs_one (L : List Lt) : ∀ u ∈ ltCs L, u.oneCell' = true := by
  intro u hu
  obtain ⟨x, _, hx⟩ := List.mem_flatMap.1 hu
  simp at hx
  rcases hx with rfl | rfl | rfl | rfl | rfl <;> rfl
theorem five_one (a b c : Int) (s : ByteArray) (p : Bool) : ∀ u ∈ [Value.int .i64 a, .int .i64 b, .int .i64 c, .string s, .bool p], u.oneCell' = true := by
  intro u hu
  simp at hu
  rcases hu with rfl | rfl | rfl | rfl | rfl <;> rfl
theorem own_reads {W : World} {base : Nat} {A : Option Addr} {c : Nat} {L : List Lt} (h : W.ownsRow base 31 5 (.slice A L.length c) L.length (ltCs L)) : Reads W W.heap.size 5 A L.length (ltCs L) := by
  refine ⟨ltCs_len L, fun hpos => ?_⟩
  rcases h.2 with ⟨h0, hn⟩ | ⟨g, cap, cur, hv, hbg, hg, hr⟩
  · omega
  · have hb : Blk W g 31 cur := hg
    cases hv
    exact ⟨_, rfl, hb.lt, fun j u hu => h.cells (g := g) rfl j u hu⟩
theorem reads_blk {W : World} {g : Nat} {x : Lt} (h : Blk W g 31 (ltC x)) : Reads W W.heap.size 5 (some ⟨g, 0, none⟩) 1 [.int .i64 x.id, .int .i64 x.fr, .int .i64 x.to, .string x.bytes, .bool x.sp] := by
  refine ⟨rfl, fun _ => ⟨_, rfl, h.lt, fun j u hj => ?_⟩⟩
  have ea : ∀ i, (⟨g, 0, none⟩ : Addr).add i = ⟨g, i, none⟩ := fun i => by unfold Addr.add; simp; omega
  rw [ea]
  match j, hj with
  | 0, hj => simp at hj; subst hj; exact h.cell 0
  | 1, hj => simp at hj; subst hj; exact h.cell 1
  | 2, hj => simp at hj; subst hj; exact h.cell 2
  | 3, hj => simp at hj; subst hj; exact h.cell 3
  | 4, hj => simp at hj; subst hj; exact h.cell 4
  | j + 5, hj => simp at hj
theorem own_e0 {W : World} {base g : Nat} (h : Blk W g 31 #[]) (hb : base ≤ g) : W.ownsRow base 31 5 (.slice (some ⟨g, 0, none⟩) 0 0) 0 [] :=
  ⟨rfl, .inr ⟨g, 0, #[], rfl, hb, h, Nat.le_refl _, by unfold maxLen; omega, rfl, rfl⟩⟩
theorem grown_below {w6 W W' : World} {g : Nat} (hb : Below w6.heap.size w6 W) (hg : W.grownBy W' (Value.slice (some ⟨g, 0, none⟩) 0 0).ownBlock) (h : w6.heap.size ≤ g) : Below w6.heap.size w6 W' :=
  hb.grown hg hb.size (fun k hk => by simp [Value.ownBlock] at hk; omega)
theorem below_grown {w W W' : World} {row : Option Nat} (hb : Below w.heap.size w W) (hg : W.grownBy W' row) (hr : ∀ k, row = some k → w.heap.size ≤ k) : Below w.heap.size w W' := hb.grown hg hb.size hr
/-- ref25's net beside a letter's box -/
def Ra (w : World) (gr base : Nat) (v : Value) (L : List Lt) (N : Int) (g : Nat) (x : Lt) (W : World) : Prop := Blk W gr 42 #[v, .int .i64 N] ∧ W.ownsRow base 31 5 v L.length (ltCs L) ∧ Blk W g 31 (ltC x) ∧ But gr gr w W ∧ gr ≠ g ∧ w.heap.size ≤ g ∧ (∀ k, v.ownBlock = some k → k ≠ gr ∧ k ≠ g) ∧ base ≤ gr
theorem own_far {W : World} {base : Nat} {v : Value} {L : List Lt} (h : W.ownsRow base 31 5 v L.length (ltCs L)) {p : Addr} (hp : ∀ k, v.ownBlock = some k → k ≠ p.block) (u : Value) : (W.setCell p u).ownsRow base 31 5 v L.length (ltCs L) := by
  obtain ⟨hl, h | ⟨g, cap, cur, hv, hbg, hg, hr⟩⟩ := h
  · exact ⟨hl, .inl h⟩
  · refine ⟨hl, .inr ⟨g, cap, cur, hv, hbg, ?_, hr⟩⟩
    have hb : Blk W g 31 cur := hg
    exact hb.far (p := p) (hp g (by rw [hv]; rfl)) u
theorem ra_new {w : World} {gr base : Nat} {L : List Lt} {N : Int} {v : Value} (h1 : Blk w gr 42 #[v, .int .i64 N]) (h2 : w.ownsRow base 31 5 v L.length (ltCs L)) (h3 : ∀ k, v.ownBlock = some k → k ≠ gr) (h4 : base ≤ gr) (x : Lt) : Ra w gr base v L N w.heap.size x (w.alloc (.cells (ltC x) 31)) := by
  have hl := h1.lt
  exact ⟨blk_step h1 one_alloc, own_below h2 one_alloc, Blk.new _ _ _, but_of one_alloc, by omega, Nat.le_refl _, fun k hk => ⟨h3 k hk, by have := (h2.lt k hk).2; omega⟩, h4⟩
theorem ra_setN {w W : World} {gr base : Nat} {v : Value} {L : List Lt} {N : Int} {g : Nat} {x : Lt} (h : Ra w gr base v L N g x W) (N' : Int) : Ra w gr base v L N' g x (W.setCell ⟨gr, 1, none⟩ (.int .i64 N')) := by
  obtain ⟨h1, h2, h3, h4, h5, h6, h7, h8⟩ := h
  exact ⟨h1.set_ 1 _, own_far h2 (p := ⟨gr, 1, none⟩) (fun k hk => (h7 k hk).1) _, h3.far (p := ⟨gr, 1, none⟩) (Ne.symm h5) _, but_trans h4 (but_set (p := ⟨gr, 1, none⟩) (.inl rfl) _), h5, h6, h7, h8⟩
theorem ra_setI {w W : World} {gr base : Nat} {v : Value} {L : List Lt} {N : Int} {g : Nat} {x : Lt} (h : Ra w gr base v L N g x W) (i : Int) : Ra w gr base v L N g ⟨i, x.fr, x.to, x.bytes, x.sp⟩ (W.setCell ⟨g, 0, none⟩ (.int .i64 i)) := by
  obtain ⟨h1, h2, h3, h4, h5, h6, h7, h8⟩ := h
  exact ⟨h1.far (p := ⟨g, 0, none⟩) h5 _, own_far h2 (p := ⟨g, 0, none⟩) (fun k hk => (h7 k hk).2) _, h3.set_ 0 _, but_far h4 h6 _, h5, h6, h7, h8⟩
theorem ra_cells {w W : World} {gr base : Nat} {v : Value} {L : List Lt} {N : Int} {g : Nat} {x : Lt} (h : Ra w gr base v L N g x W) : W.cell? ⟨gr, 0, none⟩ = some v ∧ W.cell? ⟨gr, 1, none⟩ = some (.int .i64 N) ∧ W.frozen? ⟨gr, 1, none⟩ = false ∧ W.frozen? ⟨gr, 0, none⟩ = false ∧ W.cell? ⟨g, 0, none⟩ = some (.int .i64 x.id) ∧ W.cell? ⟨g, 1, none⟩ = some (.int .i64 x.fr) ∧ W.cell? ⟨g, 2, none⟩ = some (.int .i64 x.to) ∧ W.cell? ⟨g, 3, none⟩ = some (.string x.bytes) ∧ W.cell? ⟨g, 4, none⟩ = some (.bool x.sp) ∧ W.frozen? ⟨g, 0, none⟩ = false :=
  ⟨h.1.cell 0, h.1.cell 1, h.1.frozen 1, h.1.frozen 0, h.2.2.1.cell 0, h.2.2.1.cell 1, h.2.2.1.cell 2, h.2.2.1.cell 3, h.2.2.1.cell 4, h.2.2.1.frozen 0⟩
/-- behind both appends, the new row laid in the net -/
theorem ra_end {w wc W : World} {gr base : Nat} {v v' : Value} {L M : List Lt} {N : Int} {g : Nat} {x : Lt} (h : Ra w gr base v L N g x wc) (hb : Below wc.heap.size wc W) (ho : W.ownsRow wc.heap.size 31 5 v' M.length (ltCs M)) : RefS gr base M N (W.setCell ⟨gr, 0, none⟩ v') ∧ But gr gr w (W.setCell ⟨gr, 0, none⟩ v') ∧ (W.setCell ⟨gr, 0, none⟩ v').cell? ⟨g, 0, none⟩ = some (.int .i64 x.id) := by
  obtain ⟨h1, h2, h3, h4, h5, h6, h7, h8⟩ := h
  have hl := h1.lt
  have hne : ∀ k, v'.ownBlock = some k → k ≠ gr := fun k hk => by have := (ho.lt k hk).2; have := (ho.lt k hk).1; omega
  have hb1 := blk_step h1 hb
  refine ⟨⟨v', hb1.set_ 0 _, own_base (own_far ho (p := ⟨gr, 0, none⟩) hne _) (by omega), hne, h8⟩, but_trans (but_trans h4 (but_of hb)) (but_set (p := ⟨gr, 0, none⟩) (.inl rfl) _), ?_⟩
  exact ((blk_step h3 hb).far (p := ⟨gr, 0, none⟩) (Ne.symm h5) v').cell 0
theorem own_snoc {W : World} {base : Nat} {v : Value} {L : List Lt} {x : Lt} (h : W.ownsRow base 31 5 v (L.length + 1) (ltCs L ++ [.int .i64 x.id, .int .i64 x.fr, .int .i64 x.to, .string x.bytes, .bool x.sp])) : W.ownsRow base 31 5 v (L ++ [x]).length (ltCs (L ++ [x])) := by
  rw [ltCs_snoc, List.length_append]
  exact h
set_option maxRecDepth 100000 in
set_option maxHeartbeats 4000000 in
theorem radd_full (l : Lt) (gr base : Nat) (L : List Lt) (N : Int) (w : World) (hs : RefS gr base L N w) (hl : 64 ≤ L.length) :
    Calls Try.prog 32 #[.pointer (some ⟨gr, 0, none⟩), ltV l] w fun e w' => e = .returned (.tuple #[.int .i64 0, .int .i64 8]) ∧ Below w.heap.size w w' := by
  obtain ⟨i, f, t, b, s⟩ := l
  obtain ⟨v, h1, h2, h3, h4⟩ := hs
  obtain ⟨A, c, rfl⟩ := own_form h2
  have HS := Lib.hid (ra_new h1 h2 h3 h4 ⟨i, f, t, b, s⟩)
  obtain ⟨c0, c1, _⟩ := ra_cells HS.out
  have hlI : 64 ≤ (L.length : Int) := by omega
  clear h1 h2 h3 h4 hl
  go_enter Try.func32, Try.ntmps32
  go_wp2
  exact bodyPost_ret (v := .tuple #[.int .i64 0, .int .i64 8]) (by simp [results, Try.results32, go_sem]) rfl ⟨rfl, one_alloc⟩
set_option maxRecDepth 100000 in
set_option maxHeartbeats 8000000 in
theorem radd_ok (l : Lt) (gr base : Nat) (L : List Lt) (N : Int) (w : World) (hs : RefS gr base L N w) (hl : L.length < 64) (hN0 : 0 ≤ N) (hN : N ≤ 1000000) :
    Calls Try.prog 32 #[.pointer (some ⟨gr, 0, none⟩), ltV l] w fun e w' => e = .returned (.tuple #[.int .i64 (N + 1), .int .i64 0]) ∧ RefS gr base (L ++ [newL l N]) (N + 1) w' ∧ But gr gr w w' := by
  obtain ⟨i, f, t, b, s⟩ := l
  obtain ⟨v, h1, h2, h3, h4⟩ := hs
  obtain ⟨A, c, rfl⟩ := own_form h2
  have k1 := ra_new h1 h2 h3 h4 ⟨i, f, t, b, s⟩
  have k2 := ra_setN k1 (N + 1)
  have k3 := ra_setI k2 (N + 1)
  have HK := Lib.hid k3
  obtain ⟨c0, c1, c2, _, b0, b1, b2, b3, b4, b5⟩ := ra_cells k1
  obtain ⟨d0, d1, d2, _, e0, e1, e2, e3, e4, e5⟩ := ra_cells k2
  obtain ⟨iv, hv1, hv2, hv3, hv4⟩ := info_parts (show (Try.prog.info? 31).map (fun i => (i.zero, i.size, i.bytes)) = some (some (.agg #[.int .i64 0, .int .i64 0, .int .i64 0, .string ⟨#[]⟩, .bool false]), 5, 48) by kernel_rfl)
  have hlI : (L.length : Int) < 64 := by omega
  have hwr : IntKind.i64.wrap (N + 1) = N + 1 := by rw [IntKind.wrap_i64]; omega
  clear h1 h2 h3 h4 k1 k2 k3
  go_enter Try.func32, Try.ntmps32
  go_wp2_with fail
  simp only [ltC] at HK
  generalize hwc : World.setCell (World.setCell _ _ _) _ _ = wc at HK ⊢
  clear c0 c1 c2 b0 b1 b2 b3 b4 b5 d0 d1 d2 e0 e1 e2 e3 e4 e5
  have HW := Lib.hid hwc
  clear hwc
  obtain ⟨g, hg⟩ : ∃ g, w.heap.size = g := ⟨_, rfl⟩
  rw [hg] at HK ⊢
  have HG := Lib.hid hg
  clear hg
  obtain ⟨c0, _, _, c3, b0, b1, b2, b3, b4, _⟩ := ra_cells HK.out
  have e0 : ∀ o, (wc.alloc o).cell? ⟨g, 0, none⟩ = some (.int .i64 (N + 1)) := fun o => (HK.out.2.2.1.alloc o).cell 0
  have e1 : ∀ o, (wc.alloc o).cell? ⟨g, 1, none⟩ = some (.int .i64 f) := fun o => (HK.out.2.2.1.alloc o).cell 1
  have e2 : ∀ o, (wc.alloc o).cell? ⟨g, 2, none⟩ = some (.int .i64 t) := fun o => (HK.out.2.2.1.alloc o).cell 2
  have e3 : ∀ o, (wc.alloc o).cell? ⟨g, 3, none⟩ = some (.string b) := fun o => (HK.out.2.2.1.alloc o).cell 3
  have e4 : ∀ o, (wc.alloc o).cell? ⟨g, 4, none⟩ = some (.bool s) := fun o => (HK.out.2.2.1.alloc o).cell 4
  have d0 : ∀ o, (wc.alloc o).cell? ⟨gr, 0, none⟩ = some (.slice A L.length c) := fun o => (HK.out.1.alloc o).cell 0
  have dd0 : ∀ o q, ((wc.alloc o).alloc q).cell? ⟨gr, 0, none⟩ = some (.slice A L.length c) := fun o q => ((HK.out.1.alloc o).alloc q).cell 0
  have E1 := Lib.hid (Blk.new wc 31 #[]).drew
  have E2 := Lib.hid ((Blk.new wc 31 #[]).alloc (.cells (ltC ⟨N + 1, f, t, b, s⟩) 31)).drew
  have E3 := Lib.hid (blk_new (wc.alloc (.cells (ltC ⟨N + 1, f, t, b, s⟩) 31)) (wc.heap.size + 1) 31 #[] (by simp)).drew
  have B1 := Lib.hid ((Below.refl wc.heap.size wc).alloc (Nat.le_refl _) (.cells #[] 31)).drew
  have B2 := Lib.hid (((Below.refl wc.heap.size wc).alloc (Nat.le_refl _) (.cells #[] 31)).alloc (by simp) (.cells (ltC ⟨N + 1, f, t, b, s⟩) 31)).drew
  have B3 := Lib.hid (((Below.refl wc.heap.size wc).alloc (Nat.le_refl _) (.cells (ltC ⟨N + 1, f, t, b, s⟩) 31)).alloc (by simp) (.cells #[] 31)).drew
  have HRD : Hid (∀ W, Below wc.heap.size wc W → Reads W W.heap.size 5 A L.length (ltCs L)) := Lib.hid fun W hb => own_reads (own_below HK.out.2.1 hb)
  have V2 := Lib.hid (blk_new (wc.alloc (.cells #[] 31)) (wc.heap.size + 1) 31 (ltC ⟨N + 1, f, t, b, s⟩) (by simp)).drew
  have V3 := Lib.hid ((Blk.new wc 31 (ltC ⟨N + 1, f, t, b, s⟩)).alloc (.cells #[] 31)).drew
  have HGB : Hid (∀ W, Below wc.heap.size wc W → W.frozen? ⟨gr, 0, none⟩ = false ∧ W.cell? ⟨gr, 0, none⟩ = some (.slice A L.length c)) := Lib.hid fun W hb => ⟨(blk_step HK.out.1 hb).frozen 0, (blk_step HK.out.1 hb).cell 0⟩
  have HGX : Hid (∀ W, Below wc.heap.size wc W → Blk W g 31 (ltC ⟨N + 1, f, t, b, s⟩)) := Lib.hid fun W hb => blk_step HK.out.2.2.1 hb
  go_region_law (first
    | (refine step_append_any _ (by rfl) (.tmp 25) (.tmp 29) 35 (by rfl) wc.heap.size 31 iv _ 5 48 Try.underlying35 hv1 hv2 hv3 hv4 rfl (by omega) _ 0 [] (by rfl) (by first | exact own_e0 E1.out (Nat.le_refl _) | exact own_e0 E2.out (Nat.le_refl _) | exact own_e0 E3.out (Nat.le_succ _)) _ A L.length c (ltCs L) (by rfl) (HRD.out _ (by first | exact B1.out | exact B2.out | exact B3.out)) (ltCs_one L) (by simp only [maxLen]; omega) (by omega) (by first | exact B1.out.size | exact B2.out.size | exact B3.out.size) ?_; intro A1 k1 wA hown1 hgr1; (simp only [Nat.zero_add, List.nil_append] at hown1); (have hbA := grown_below (by first | exact B1.out | exact B2.out | exact B3.out) hgr1 (by first | exact Nat.le_refl _ | exact Nat.le_succ _)); (have hx := HGX.out _ hbA); (have x0 := hx.cell 0); (have x1 := hx.cell 1); (have x2 := hx.cell 2); (have x3 := hx.cell 3); (have x4 := hx.cell 4); (try (have hv9 := V2.out.grown hgr1 (fun e => absurd (show some (wc.heap.size + 1) = some wc.heap.size from e) (by simp)))); (try (have hv9 := V3.out.grown hgr1 (fun e => absurd (show some wc.heap.size = some (wc.heap.size + 1) from e) (by simp)))); (have HO1 := Lib.hid hown1); (have HBA := Lib.hid hbA); clear hown1 hgr1 hbA hx)
    | (refine step_append_any _ (by rfl) (.tmp 30) (.tmp 32) 35 (by rfl) wc.heap.size 31 iv _ 5 48 Try.underlying35 hv1 hv2 hv3 hv4 rfl (by omega) (.slice A1 L.length k1) L.length (ltCs L) (by rfl) (by first | exact HO1.out | exact HO1.out.alloc _) _ _ 1 1 [.int .i64 (N + 1), .int .i64 f, .int .i64 t, .string b, .bool s] (by rfl) (by first | exact reads_blk (x := ⟨N + 1, f, t, b, s⟩) hv9 | exact reads_blk (x := ⟨N + 1, f, t, b, s⟩) (Blk.new _ _ _)) (five_one _ _ _ _ _) (by simp only [maxLen]; omega) (by omega) (by first | exact HBA.out.size | exact (HBA.out.alloc HBA.out.size _).size) ?_; intro A2 k2 wB hown2 hgr2; (have hbB := below_grown (by first | exact HBA.out | exact HBA.out.alloc HBA.out.size _) hgr2 (fun y hy => (HO1.out.lt y hy).1)); (have z0 := (HGB.out _ hbB).1); (have z1 := (HGB.out _ hbB).2); (have HBB := Lib.hid hbB); (have HO2 := Lib.hid hown2); clear hown2 hgr2 hbB))
  all_goals
    have RE := ra_end HK.out HBB.out (own_snoc (x := ⟨N + 1, f, t, b, s⟩) HO2.out)
    have y0 := RE.2.2
    have HR := Lib.hid RE
    clear RE
    go_wp2
    exact bodyPost_ret (v := .tuple #[.int .i64 (N + 1), .int .i64 0]) (by simp [results, Try.results32, go_sem]) rfl ⟨rfl, HR.out.1, HR.out.2.1⟩
end Go.Proofs.Ytndlcjpkpkfcpaa
