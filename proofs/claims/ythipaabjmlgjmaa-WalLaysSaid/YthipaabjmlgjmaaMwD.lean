/- Layer 5: put; lay, write. Conditions: those of each lemma. -/
import Derived.Test.YthipaabjmlgjmaaMwC
import Derived.Test.YthipaabjmlgjmaaMwF
namespace Go.Proofs.Ythipaabjmlgjmaa
open Go.RowKit Go Go.Maps
set_option linter.unusedVariables false
set_option linter.unusedSimpArgs false
/-- the images as frames: the last one bears the pages -/
def mkFx (pages n j : Nat) (x : Im) : Fx := ⟨x.pg.toNat, if j + 1 = n then pages else 0, x.dt⟩
def mkFs (pages : Nat) (l : List Im) : List Fx := l.zipIdx.map fun p => mkFx pages l.length p.2 p.1
theorem mkFs_length (pages : Nat) (l : List Im) : (mkFs pages l).length = l.length := by unfold mkFs; rw [List.length_map, List.length_zipIdx]
theorem mkFs_get {pages : Nat} {l : List Im} {j : Nat} {x : Im} (h : l[j]? = some x) : (mkFs pages l)[j]? = some (mkFx pages l.length j x) := by
  unfold mkFs
  rw [List.getElem?_map, List.getElem?_zipIdx, h]
  simp
theorem mkFs_take {pages : Nat} {l : List Im} {j : Nat} {x : Im} (h : l[j]? = some x) : (mkFs pages l).take (j + 1) = (mkFs pages l).take j ++ [mkFx pages l.length j x] := by
  rw [List.take_add_one, mkFs_get h]; rfl
/-- their bytes, behind a pair -/
def wputL (N : Nat) : Int × Int → List Fx → List Nat
  | _, [] => []
  | e, x :: r => frameL e x.pg x.cm N (bts x.dt) ++ wputL N (frameQ e x.pg x.cm N (bts x.dt)) r
/-- and the pair behind them -/
def wputE (N : Nat) : Int × Int → List Fx → Int × Int
  | e, [] => e
  | e, x :: r => wputE N (frameQ e x.pg x.cm N (bts x.dt)) r
theorem wputE_snoc (N : Nat) : ∀ (l : List Fx) (e : Int × Int) (x : Fx), wputE N e (l ++ [x]) = frameQ (wputE N e l) x.pg x.cm N (bts x.dt)
  | [], e, x => rfl
  | y :: l, e, x => wputE_snoc N l _ x
theorem wputL_snoc (N : Nat) : ∀ (l : List Fx) (e : Int × Int) (x : Fx), wputL N e (l ++ [x]) = wputL N e l ++ frameL (wputE N e l) x.pg x.cm N (bts x.dt)
  | [], e, x => by simp [wputL, wputE]
  | y :: l, e, x => by
    rw [List.cons_append, wputL, wputL, wputL_snoc N l, List.append_assoc]
    rfl
theorem wputE_app (N : Nat) : ∀ (a b : List Fx) (e : Int × Int), wputE N e (a ++ b) = wputE N (wputE N e a) b
  | [], b, e => rfl
  | x :: a, b, e => wputE_app N a b _
theorem wputL_app (N : Nat) : ∀ (a b : List Fx) (e : Int × Int), wputL N e (a ++ b) = wputL N e a ++ wputL N (wputE N e a) b
  | [], b, e => rfl
  | x :: a, b, e => by rw [List.cons_append, wputL, wputL, wputL_app N a b, List.append_assoc]; rfl
theorem fit_frameQ {e : Int × Int} (h : Fit e) (pg cm N : Nat) (D : List Nat) : Fit (frameQ e pg cm N D) := fit_addL (fit_addL h)
theorem fit_wputE (N : Nat) : ∀ (l : List Fx) (e : Int × Int), Fit e → Fit (wputE N e l)
  | [], e, h => h
  | x :: l, e, h => fit_wputE N l _ (fit_frameQ h _ _ _ _)
def FxOk (x : Fx) : Prop := 1 ≤ x.pg ∧ x.pg ≤ 256 ∧ x.cm ≤ 256 ∧ x.dt.size = 512
theorem wputL_len (N : Nat) : ∀ (l : List Fx) (e : Int × Int), (∀ x ∈ l, FxOk x) → (wputL N e l).length = 576 * l.length
  | [], e, h => rfl
  | x :: l, e, h => by
    rw [wputL, List.length_append, frameL_length _ _ _ _ _ (by rw [bts_length]; exact (h x (.head _)).2.2.2), wputL_len N l _ (fun y hy => h y (.tail _ hy)), List.length_cons]
    omega
theorem wputL_lt (N : Nat) : ∀ (l : List Fx) (e : Int × Int), ∀ y ∈ wputL N e l, y < 256
  | [], e => fun y hy => by cases hy
  | x :: l, e => fun y hy => by
    rw [wputL] at hy
    rcases List.mem_append.1 hy with h | h
    · exact frameL_lt _ _ _ _ _ (bts_lt _) y h
    · exact wputL_lt N l _ y h
theorem im_ok {x : Im} (h : imBad x = false) : 1 ≤ x.pg ∧ x.pg ≤ 256 ∧ x.dt.size = 512 := by
  unfold imBad at h
  simp only [Bool.or_eq_false_iff, decide_eq_false_iff_not] at h
  refine ⟨by omega, by omega, Decidable.byContradiction h.2.2⟩
theorem mkFx_ok {pages n j : Nat} {x : Im} (hp : pages ≤ 256) (h : imBad x = false) : FxOk (mkFx pages n j x) := by
  obtain ⟨h1, h2, h3⟩ := im_ok h
  refine ⟨?_, ?_, ?_, h3⟩
  · show 1 ≤ x.pg.toNat; omega
  · show x.pg.toNat ≤ 256; omega
  · show (if j + 1 = n then pages else 0) ≤ 256
    split <;> omega
theorem mkFs_ok {pages : Nat} {l : List Im} (hp : pages ≤ 256) (h : l.any imBad = false) : ∀ x ∈ mkFs pages l, FxOk x := fun x hx => by
  obtain ⟨j, hj⟩ := List.getElem?_of_mem hx
  have hl : j < l.length := by
    rcases Nat.lt_or_ge j l.length with h | h
    · exact h
    · rw [List.getElem?_eq_none (by rw [mkFs_length]; exact h)] at hj; cases hj
  rw [mkFs_get (List.getElem?_eq_getElem hl)] at hj
  cases hj
  refine mkFx_ok hp ?_
  rw [List.any_eq_false] at h
  simpa using h _ (List.getElem_mem hl)
theorem own_base5 {W : World} {b : Nat} {e : TypeId} {size : Nat} {v : Value} {n : Nat} {xs : List Value} (h : W.ownsRow (b + 2) e size v n xs) : W.ownsRow b e size v n xs := by
  refine ⟨h.1, ?_⟩
  rcases h.2 with hn | ⟨g, cap, cur, hv, hb, rest⟩
  · exact .inl hn
  · exact .inr ⟨g, cap, cur, hv, by omega, rest⟩
/-- in the midst of the frames' making -/
structure Pp (w : World) (e : Int × Int) (L : List Nat) (fs : List Fx) (A : Option Addr) (c : Nat) (v : Value) (W : World) : Prop where
  bel : Below w.heap.size w W
  pr : Blk W w.heap.size 73 #[.int .u32 e.1, .int .u32 e.2]
  bu : Bu (w.heap.size + 1) (w.heap.size + 1) v (Lib.strCells (bstr L)) W
  row : W.ownsRow (w.heap.size + 2) 61 3 (.slice A fs.length c) fs.length (fxs fs)
theorem results_ttc {P : Program} {fn : Func} {t u p : Tmp} {ty : TypeId} (h : fn.results = #[.tmp t, .tmp u, .cell p ty]) (tmps : Array Value) (w : World) (g : Nat) (T : TypeId) (cs : Array Value) (fr : Nat × Nat) (d : TypeDesc)
    (hp : tmps.getD p undef = .pointer (some ⟨g, 0, none⟩)) (hg : w.heap[g]? = some (.cells cs T fr))
    (hu : P.underlying ty = some d) (hd : (match d with | .struct _ | .array _ _ => true | _ => false) = true) (hi : (P.info? ty).map (·.size) = some cs.size) :
    (results fn tmps).run P w = .ok (.tuple #[tmps.getD t undef, tmps.getD u undef, .agg cs]) w := by
  have hp' : tmps[p]?.getD undef = .pointer (some ⟨g, 0, none⟩) := by simpa using hp
  simp [results, h, hp', asAddr, run_loadVar_row w g T ty cs fr d hg hu hd hi, Sem.run_bind, Result.andThen]
theorem reads_three {W : World} {g : Nat} {t : TypeId} {a b c : Value} (h : Blk W g t #[a, b, c]) : Reads W W.heap.size 3 (some ⟨g, 0, none⟩) 1 [a, b, c] :=
  ⟨rfl, fun _ => ⟨_, rfl, h.lt, fun j u hj => by
    match j with
    | 0 => cases hj; exact h.cell 0
    | 1 => cases hj; rw [Addr.add_mid]; exact h.cell 1
    | 2 => cases hj; rw [Addr.add_mid]; exact h.cell 2
    | j + 3 => simp at hj⟩⟩
theorem row_ne_blk {W : World} {base : Nat} {e t : TypeId} {size n k : Nat} {v : Value} {xs : List Value} {cs : Array Value} (h : W.ownsRow base e size v n xs) (hk : Blk W k t cs) (hne : e ≠ t) : v.ownBlock ≠ some k := fun hz => by
  rcases h.2 with ⟨hv, _⟩ | ⟨g, cap, cur, hv, _, hg, _⟩
  · rw [hv] at hz; cases hz
  · rw [hv] at hz
    simp only [Value.ownBlock, Option.some.injEq] at hz
    rw [hz] at hg
    unfold Blk at hk
    rw [hk] at hg
    simp only [Option.some.injEq, Obj.cells.injEq] at hg
    exact hne hg.2.1.symm
theorem fr_info : (Try.prog.info? 61).map (fun i => (i.zero, i.size, i.bytes)) = some (some (.agg #[.int .i64 0, .int .i64 0, .string ByteArray.empty]), 3, 32) := by kernel_rfl
theorem own_lies {W W' : World} {base : Nat} {e : TypeId} {size : Nat} {v : Value} {n : Nat} {xs : List Value} (h : W.ownsRow base e size v n xs) (hb : Below W.heap.size W W') : W'.ownsRow base e size v n xs :=
  own_block h (fun z hz => hb.block z (h.lt z hz).2)
theorem pp_below {w : World} {e : Int × Int} {L : List Nat} {fs : List Fx} {A : Option Addr} {c : Nat} {v : Value} {W W' : World} (h : Pp w e L fs A c v W) (hb : Below W.heap.size W W') : Pp w e L fs A c v W' :=
  ⟨bj h.bel hb, blk_step h.pr hb, h.bu.keep hb.os hb.tape hb.output hb.size (fun k hk _ => hb.block k hk), own_lies h.row hb⟩
theorem rows_apart {W : World} {b b' : Nat} {e e' : TypeId} {s s' n n' : Nat} {v v' : Value} {xs xs' : List Value} (h : W.ownsRow b e s v n xs) (h' : W.ownsRow b' e' s' v' n' xs') (hne : e ≠ e') {z : Nat} (hz : v.ownBlock = some z) : v'.ownBlock ≠ some z := fun hz' => by
  rcases h.2 with ⟨hv, _⟩ | ⟨g, cap, cur, hv, _, hg, _⟩
  · rw [hv] at hz; cases hz
  · rcases h'.2 with ⟨hv', _⟩ | ⟨g', cap', cur', hv', _, hg', _⟩
    · rw [hv'] at hz'; cases hz'
    · rw [hv] at hz
      rw [hv'] at hz'
      simp only [Value.ownBlock, Option.some.injEq] at hz hz'
      rw [hz] at hg
      rw [hz', hg] at hg'
      simp only [Option.some.injEq, Obj.cells.injEq] at hg'
      exact hne hg'.2.1
/-- the pair is set -/
theorem pp_pair {w : World} {e : Int × Int} {L : List Nat} {fs : List Fx} {A : Option Addr} {c : Nat} {v : Value} {W : World} (h : Pp w e L fs A c v W) (e' : Int × Int) : Pp w e' L fs A c v ((W.setCell ⟨w.heap.size, 0, none⟩ (.int .u32 e'.1)).setCell ⟨w.heap.size, 1, none⟩ (.int .u32 e'.2)) := by
  have hk : ∀ k, k ≠ w.heap.size → ((W.setCell ⟨w.heap.size, 0, none⟩ (.int .u32 e'.1)).setCell ⟨w.heap.size, 1, none⟩ (.int .u32 e'.2)).heap[k]? = W.heap[k]? := fun k hk => by
    rw [Below.heap_setCell _ _ _ _ (show k ≠ w.heap.size from hk), Below.heap_setCell _ _ _ _ (show k ≠ w.heap.size from hk)]
  refine ⟨(h.bel.setCell (p := ⟨w.heap.size, 0, none⟩) (Nat.le_refl _) _).setCell (p := ⟨w.heap.size, 1, none⟩) (Nat.le_refl _) _, blk2 h.pr, h.bu.keep rfl rfl rfl (by simp [World.setCell]) (fun k _ hc => hk k ?_), own_block h.row (fun z hz => hk z ?_)⟩
  · rcases hc with rfl | hc
    · omega
    · have := (h.bu.rowlt k hc).1; omega
  · have := (h.row.lt z hz).1; omega
/-- bytes are written behind -/
theorem pp_write {w : World} {e : Int × Int} {L : List Nat} {fs : List Fx} {A : Option Addr} {c : Nat} {v v' : Value} {s : ByteArray} {W W' : World} (h : Pp w e L fs A c v W) (hbu : Bu (w.heap.size + 1) (w.heap.size + 1) v' (Lib.strCells (bstr L) ++ Lib.strCells s) W') (hf : FrB (w.heap.size + 1) v W W') (hb : Below (w.heap.size + 1) W W') : Pp w e (L ++ bts s) fs A c v' W' := by
  have e1 : Lib.strCells (bstr L) ++ Lib.strCells s = Lib.strCells (bstr (L ++ bts s)) := by
    rw [← bstr_append, bstr_bts]
    simp [Lib.strCells]
  rw [e1] at hbu
  obtain ⟨_, p, _, hbk, ho, hn⟩ := h.bu
  refine ⟨h.bel.trans (hb.mono (by omega)), h.pr.below hb (by omega), hbu, own_block h.row (fun z hz => hf.2 z (h.row.lt z hz).2 (by have := (h.row.lt z hz).1; omega) (rows_apart h.row ho (by decide) hz))⟩
/-- a frame more -/
theorem pp_push {w : World} {e : Int × Int} {L : List Nat} {fs : List Fx} {A A' : Option Addr} {c c' : Nat} {v : Value} {x : Fx} {W W' : World} (h : Pp w e L fs A c v W) (hrow : W'.ownsRow (w.heap.size + 2) 61 3 (.slice A' (fs.length + 1) c') (fs.length + 1) (fxs fs ++ fxL x)) (hg : W.grownBy W' (Value.slice A fs.length c).ownBlock) : Pp w e L (fs ++ [x]) A' c' v W' := by
  have hsz : w.heap.size ≤ W.heap.size := h.bel.size
  have hne : ∀ k, k < W.heap.size → (k = w.heap.size ∨ k = w.heap.size + 1 ∨ v.ownBlock = some k) → some k ≠ (Value.slice A fs.length c).ownBlock := fun k hk hc e => by
    rcases hc with rfl | rfl | hc
    · have := (h.row.lt _ e.symm).1; omega
    · have := (h.row.lt _ e.symm).1; omega
    · obtain ⟨_, p, _, hbk, ho, hn⟩ := h.bu
      exact rows_apart h.row ho (by decide) e.symm hc
  refine ⟨h.bel.grown hg hsz (fun k hk => by have := (h.row.lt k hk).1; omega), ?_, ?_, ?_⟩
  · exact (hg.block _ h.pr.lt (hne _ h.pr.lt (.inl rfl))).trans h.pr
  · exact h.bu.keep hg.os hg.tape hg.output hg.size (fun k hk hc => hg.block k hk (hne k hk (.inr hc)))
  · rw [List.length_append, List.length_singleton, fxs_append]
    simpa [fxs] using hrow
set_option maxRecDepth 100000 in
set_option maxHeartbeats 16000000 in
theorem wput_any {S : Nat → Prop} {g q : Nat} {d : Dk} {N : Nat} {l : Lg} {w : World} (h : LgS w S g q d N l) (pages : Nat) (A : Option Addr) (n c : Nat) (ims : List Im) (hO : ImAt w A ims) (hn : n = ims.length) (hn0 : 0 < n) (hsm : n ≤ 256) (hp : pages ≤ 256) (hbad : ims.any imBad = false) :
    Calls Try.prog 36 #[lp q, .int .i64 pages, .slice A n c] w fun e w' => ∃ A' c', e = .returned (.tuple #[.slice A' n c', .string (bstr (wputL l.N l.e (mkFs pages ims))), .agg #[.int .u32 (wputE l.N l.e (mkFs pages ims)).1, .int .u32 (wputE l.N l.e (mkFs pages ims)).2]]) ∧ w'.ownsRow w.heap.size 61 3 (.slice A' n c') n (fxs (mkFs pages ims)) ∧ Below w.heap.size w w' := by
  have HO := Lib.hid hO
  have HN := Lib.hid hn
  have hnI : (n : Int) ≤ 256 := by omega
  have HOK := Lib.hid (mkFs_ok hp hbad)
  have HBAD := Lib.hid hbad
  have HP := Lib.hid hp
  obtain ⟨Sd, AL, cL, hm⟩ := h
  obtain ⟨-, d1, -, -, -, -, d6, d7, -⟩ := lg_cells hm
  have HFIT := Lib.hid hm.fit
  have HNN := Lib.hid hm.ub.1
  have HQ := Lib.hid (And.intro hm.blk.lt d1)
  obtain ⟨N0, hN0⟩ : ∃ N0, N0 = l.N := ⟨_, rfl⟩
  obtain ⟨e0, he0⟩ : ∃ e0, e0 = l.e := ⟨_, rfl⟩
  rw [← hN0] at HNN d1 HQ ⊢
  rw [← he0] at HFIT d6 d7 ⊢
  obtain ⟨fs0, hfs0⟩ : ∃ fs0, fs0 = mkFs pages ims := ⟨_, rfl⟩
  have HFS := Lib.hid hfs0
  rw [← hfs0] at HOK ⊢
  have HFL := Lib.hid (show fs0.length = n by rw [hfs0, mkFs_length, hn])
  clear hO hn hp hbad hm hN0 he0 hfs0
  go_enter Try.func36, Try.ntmps36
  have HPP0 := Lib.hid (show Pp w e0 [] [] none 0 (.slice none 0 0) ((w.alloc (.cells #[.int .u32 e0.1, .int .u32 e0.2] 73)).alloc (.cells #[.pointer none, .slice none 0 0] 111)) from by
    have hs : (w.alloc (.cells #[.int .u32 e0.1, .int .u32 e0.2] 73)).heap.size = w.heap.size + 1 := by simp
    have hbu := bu_new (w.heap.size + 1) (w.alloc (.cells #[.int .u32 e0.1, .int .u32 e0.2] 73)) (Nat.le_of_eq hs.symm)
    rw [hs] at hbu
    exact ⟨bj allocB allocB, blk_step (Blk.new _ _ _) allocB, hbu, World.ownsRow_nil _ _ _ _⟩)
  have hb2 : Below w.heap.size w ((w.alloc (.cells #[.int .u32 0, .int .u32 0] 73)).alloc (.cells #[.pointer none, .slice none 0 0] 111)) := bj allocB allocB
  have a6 := (hb2.cell (p := ⟨q, 6, none⟩) HQ.out.1).trans d6
  have a7 := (hb2.cell (p := ⟨q, 7, none⟩) HQ.out.1).trans d7
  clear hb2
  go_wp2_with fail
  generalize hW0 : (w.alloc (.cells #[.int .u32 e0.1, .int .u32 e0.2] 73)).alloc (.cells #[.pointer none, .slice none 0 0] 111) = W0 at *
  clear hW0 d1 d6 d7 a6 a7
  go_loopw [6, 20] (fun t i W => ∃ (j : Nat) (A1 : Option Addr) (c1 : Nat) (v1 : Value), j ≤ n ∧ i = .int .i64 j ∧ t = .slice A1 j c1 ∧ Pp w (wputE N0 e0 (fs0.take j)) (wputL N0 e0 (fs0.take j)) (fs0.take j) A1 c1 v1 W) (fun _ i _ => n - (intOf i).toNat)
  case atStart => exact ⟨0, none, 0, _, Nat.zero_le _, rfl, rfl, HPP0.out⟩
  case round =>
    clear HPP0
    obtain ⟨j, A1, c1, v1, hj, rfl, rfl, hpp⟩ := hrel
    have HPP := Lib.hid hpp
    clear hpp
    by_cases hjn : j < n
    rotate_left
    · obtain rfl : j = n := by omega
      have ht : fs0.take j = fs0 := List.take_of_length_le (Nat.le_of_eq HFL.out)
      rw [ht] at HPP
      clear ht hjn
      go_wp2_with fail
      have hLn : (bstr (wputL N0 e0 fs0)).data.toList ≠ [] := by
        have h1 : (wputL N0 e0 fs0).length = 576 * fs0.length := wputL_len N0 fs0 e0 HOK.out
        rw [HFL.out] at h1
        intro h
        have h2 : (bstr (wputL N0 e0 fs0)).size = 0 := by
          have h3 := congrArg List.length h
          simpa using h3
        rw [bstr_size] at h2
        omega
      have hEV : ∀ k : Nat, k = 0 → True := fun _ _ => trivial
      have HST := Lib.hid (bu_string (w.heap.size + 1) (w.heap.size + 1) v1 (bstr (wputL N0 e0 fs0)).data.toList wr.drew (pp_below HPP.out (Below.refl _ _).drew).bu hLn)
      have HRB := Lib.hid HFL.out
      have hT : (⟨(bstr (wputL N0 e0 fs0)).data.toList.toArray⟩ : ByteArray) = bstr (wputL N0 e0 fs0) := rfl
      rw [hT] at HST
      clear hLn hEV HOK HFS HFIT HQ HBAD HO HP hT
      obtain ⟨L, E1, E2, hL, hE⟩ : ∃ L E1 E2, wputL N0 e0 fs0 = L ∧ wputE N0 e0 fs0 = (E1, E2) := ⟨_, _, _, rfl, rfl⟩
      rw [hL] at HST HPP
      rw [hE] at HPP
      have HLE := Lib.hid (And.intro hL hE)
      clear hL hE
      have HC := Lib.hid (show ∀ W, Below (w.heap.size + 1) wr.drew W → W.cell? ⟨w.heap.size, 0, none⟩ = some (.int .u32 E1) ∧ W.cell? ⟨w.heap.size, 1, none⟩ = some (.int .u32 E2) ∧ W.frozen? ⟨w.heap.size, 0, none⟩ = false ∧ W.frozen? ⟨w.heap.size, 1, none⟩ = false ∧ Blk W w.heap.size 73 #[.int .u32 E1, .int .u32 E2] from fun W hb => by
        have h := (HPP.out.pr.drew).below hb (Nat.lt_succ_self _)
        exact ⟨h.cell 0, h.cell 1, h.frozen 0, h.frozen 1, h⟩)
      have HFIN := Lib.hid (show ∀ W, Below (w.heap.size + 1) wr.drew W → FrB (w.heap.size + 1) v1 wr.drew W → ((W.setCell ⟨w.heap.size, 0, none⟩ (.int .u32 E1)).setCell ⟨w.heap.size, 1, none⟩ (.int .u32 E2)).ownsRow w.heap.size 61 3 (.slice A1 fs0.length c1) fs0.length (fxs fs0) ∧ Below w.heap.size w ((W.setCell ⟨w.heap.size, 0, none⟩ (.int .u32 E1)).setCell ⟨w.heap.size, 1, none⟩ (.int .u32 E2)) from fun W hb hf => by
        obtain ⟨_, p_, _, hbk_, ho_, hn_⟩ := HPP.out.bu
        refine ⟨own_base5 (own_block HPP.out.row (fun z hz => ?_)), ((HPP.out.bel.drew.trans (hb.mono (by omega))).setCell (p := ⟨w.heap.size, 0, none⟩) (Nat.le_refl _) _).setCell (p := ⟨w.heap.size, 1, none⟩) (Nat.le_refl _) _⟩
        have hz2 := HPP.out.row.lt z hz
        rw [Below.heap_setCell _ _ _ _ (show z ≠ w.heap.size by omega), Below.heap_setCell _ _ _ _ (show z ≠ w.heap.size by omega)]
        exact hf.2 z hz2.2 (by omega) (rows_apart HPP.out.row ho_ (by decide) hz))
      obtain ⟨p0, p1, -⟩ := HC.out wr.drew (Below.refl _ _)
      rw [HRB.out] at HFIN
      clear HPP
      go_region_with ((go_at_call 59; (with_reducible refine (HST.out).mono ?_); rintro e w6 ⟨rfl, hb6, hf6⟩; obtain ⟨p0, p1, r0, r1, hk6⟩ := HC.out w6 hb6; have HK6 := Lib.hid hk6; clear hk6))
      all_goals
        have hfin := HFIN.out w6 hb6 hf6
        clear HFIN HC HST hb6 hf6
        go_wp2
        refine bodyPost_ret (results_ttc rfl _ _ w.heap.size 73 #[.int .u32 E1, .int .u32 E2] (0, 0) _ rfl (blk2 HK6.out) Try.underlying73 rfl (by kernel_rfl)) rfl ?_
        exact ⟨A1, c1, by rw [HLE.out.1, HLE.out.2]; rfl, hfin.1, hfin.2⟩
    · have hjI : (j : Int) < n := by omega
      have hlt : j < ims.length := by have := HN.out; omega
      obtain ⟨x, hx⟩ : ∃ x, ims[j]? = some x := ⟨_, List.getElem?_eq_getElem hlt⟩
      have hxb : imBad x = false := by
        have := HBAD.out
        rw [List.any_eq_false] at this
        simpa using this _ (List.mem_of_getElem? hx)
      obtain ⟨b, o, rfl, hd⟩ : ∃ b o, A = some ⟨b, o, none⟩ ∧ wr.cell? ⟨b, o + j * 2, none⟩ = some (.int .i64 x.pg) ∧ wr.cell? ⟨b, o + j * 2 + 1, none⟩ = some (.string x.dt) := by
        rcases imAt_below HO.out HPP.out.bel with h | ⟨b, o, hA, _, hc⟩
        · rw [h] at hx; simp at hx
        · exact ⟨b, o, hA, hc j x hx⟩
      obtain ⟨i0, i1⟩ := hd
      obtain ⟨pgn, hpg⟩ : ∃ k : Nat, x.pg = k := ⟨x.pg.toNat, by have := (im_ok hxb).1; omega⟩
      have hcmv : ∃ cm : Nat, cm = (if j + 1 = n then pages else 0) := ⟨_, rfl⟩
      obtain ⟨cm, hcm⟩ := hcmv
      have hfx : mkFx pages ims.length j x = ⟨pgn, cm, x.dt⟩ := by
        unfold mkFx
        rw [← HN.out, ← hcm, hpg]
        rfl
      have HTK := Lib.hid (show fs0.take (j + 1) = fs0.take j ++ [⟨pgn, cm, x.dt⟩] from by rw [HFS.out, mkFs_take hx, hfx])
      have HXO := Lib.hid (show FxOk ⟨pgn, cm, x.dt⟩ from by rw [← hfx]; exact mkFx_ok HP.out hxb)
      rw [hpg] at i0
      obtain ⟨dt, hdt⟩ : ∃ dt, dt = x.dt := ⟨_, rfl⟩
      rw [← hdt] at i1 HTK HXO
      have HFTJ := Lib.hid (show (fs0.take j).length = j from by rw [List.length_take, HFL.out]; omega)
      obtain ⟨fj, hfj⟩ : ∃ fj, fj = fs0.take j := ⟨_, rfl⟩
      rw [← hfj] at HPP HTK HFTJ
      have HE := Lib.hid (fit_wputE N0 fj e0 HFIT.out)
      have HLL := Lib.hid (show (wputL N0 e0 fj).length + 576 ≤ 1000000 from by
        rw [wputL_len N0 fj e0 (fun y hy => HOK.out y (by rw [hfj] at hy; exact List.mem_of_mem_take hy)), HFTJ.out]; omega)
      have HQE := Lib.hid (show ∀ L E, L = wputL N0 e0 (fj ++ [⟨pgn, cm, dt⟩]) → E = wputE N0 e0 (fj ++ [⟨pgn, cm, dt⟩]) → True from fun _ _ _ _ => trivial)
      have HSN := Lib.hid (And.intro (wputL_snoc N0 fj e0 ⟨pgn, cm, dt⟩) (wputE_snoc N0 fj e0 ⟨pgn, cm, dt⟩))
      generalize wputE N0 e0 fj = E at *
      generalize wputL N0 e0 fj = L at *
      obtain ⟨E1, E2⟩ := E
      simp only at HSN
      clear hx hxb hlt hpg hfx hdt HQE
      have hlast : (cm = pages ∧ j + 1 = n) ∨ (cm = 0 ∧ j + 1 ≠ n) := by
        by_cases he : j + 1 = n
        · exact .inl ⟨by rw [hcm, if_pos he], he⟩
        · exact .inr ⟨by rw [hcm, if_neg he], he⟩
      clear hcm hfj
      obtain ⟨T, Q1, Q2, hT, hQ⟩ : ∃ T Q1 Q2, frameL (E1, E2) pgn cm N0 (bts dt) = T ∧ frameQ (E1, E2) pgn cm N0 (bts dt) = (Q1, Q2) := ⟨_, _, _, rfl, rfl⟩
      have hTl : T.length = 576 := by rw [← hT, frameL_length _ _ _ _ _ (by rw [bts_length]; exact HXO.out.2.2.2)]
      have hTb : bts (bstr T) = T := bts_bstr _ (by rw [← hT]; exact frameL_lt _ _ _ _ _ (bts_lt dt))
      have HPUT := Lib.hid (fun W => put_ok E1 E2 N0 pgn cm dt W HE.out HNN.out HXO.out.2.1 HXO.out.2.2.1 HXO.out.2.2.2 ((okF_iff _ _ _).2 ⟨by have h := HXO.out.1; simp only at h; omega, by have h := HXO.out.2.1; simp only at h; omega, by omega, by have h := HXO.out.2.2.1; simp only at h; omega, HXO.out.2.2.2⟩))
      rw [hT, hQ] at HPUT
      rw [hT, hQ] at HSN
      simp only at HPUT
      have HTB := Lib.hid (And.intro hTl hTb)
      clear hT hQ hTl hTb
      rcases hlast with ⟨hcc, hl⟩ | ⟨hcc, hl⟩
      · have hlI : ((j : Int) == (n : Int) - 1) = true := by simp; omega
        subst hcc
        go_wp2_with fail
        generalize hWk : (wr.alloc (.cells #[.int .i64 pgn, .string dt] 36)).alloc (.cells #[.int .i64 pgn, .int .i64 (cm : Int), .string dt] 61) = Wk
        have hs1 : (wr.alloc (.cells #[.int .i64 pgn, .string dt] 36)).heap.size = wr.heap.size + 1 := by simp
        have hkf : Blk Wk (wr.heap.size + 1) 61 #[.int .i64 pgn, .int .i64 (cm : Int), .string dt] := by
          rw [← hWk, ← hs1]
          exact Blk.new _ _ _
        have hpk : Pp w (E1, E2) L fj A1 c1 v1 Wk := by
          rw [← hWk]
          exact pp_below HPP.out (bj allocB allocB)
        have HK := Lib.hid (And.intro hkf hpk)
        have HKL := Lib.hid (show w.heap.size + 1 < wr.heap.size + 1 from by have := HPP.out.bu.lt; omega)
        clear hWk hs1 hkf hpk HPP i0 i1
        refine wp_region_noPanic ?_
        refine wp_region_any (by kernel_rfl) ?_
        refine facts_sw [0, 1, 2, 3, 4, 5, 6, 7, 8, 9, 10, 11, 12, 13] (fun i => match i with | 2 => [1] | 3 => [2] | 4 => [3] | 5 => [4] | 7 => [0, 5, 6] | 8 => [7] | 9 => [8] | 10 => [8] | 11 => [8] | 12 => [9] | 13 => [10, 0] | _ => []) 13 0 (fun i v W => match i with | 0 => v = .agg #[.int .u32 E1, .int .u32 E2] | 1 => v = lp q | 2 => v = lp q | 3 => v = .pointer (some ⟨q, 1, none⟩) | 4 => v = .pointer (some ⟨q, 1, none⟩) | 5 => v = .int .u64 N0 | 6 => v = .agg #[.int .i64 pgn, .int .i64 (cm : Int), .string dt] | 7 => v = .tuple #[.string (bstr T), .agg #[.int .u32 Q1, .int .u32 Q2], .int .i64 0] | 8 => v = .tuple #[.string (bstr T), .agg #[.int .u32 Q1, .int .u32 Q2], .int .i64 0] | 9 => v = .string (bstr T) | 10 => v = .agg #[.int .u32 Q1, .int .u32 Q2] | 11 => v = .int .i64 0 | 12 => v = .string (bstr T) | _ => True) (fun _ _ => True) (fun b c W => (c = true → b = true) ∧ Pp w (if b then (E1, E2) else (Q1, Q2)) L fj A1 c1 v1 W ∧ Blk W (wr.heap.size + 1) 61 #[.int .i64 pgn, .int .i64 (cm : Int), .string dt]) _ _ _ 0 _ #[true, true, true, true, true, true, true, true, true, true, true, true, true, true] (fun _ _ _ _ h _ => h) (by kernel_rfl) (by rfl) ⟨fun _ => rfl, pp_below HK.out.2 (Below.refl _ _).drew, HK.out.1⟩ ?hstep ?hend
        case hstep =>
          intro i hi b_ c_ hbp hcq hbd hcd x W hd hI K hK
          simp only [List.mem_cons, List.not_mem_nil, or_false] at hi
          rcases hi with rfl | rfl | rfl | rfl | rfl | rfl | rfl | rfl | rfl | rfl | rfl | rfl | rfl | rfl
          · generalize hA : putsA _ _ x [0, 1, 2, 3, 4, 5, 6, 7, 8, 9, 10, 11, 12, 13] = A_ at *
            have e8 : A_.tmps[8]? = some (.pointer (some ⟨w.heap.size, 0, none⟩)) := by rw [← hA]; exact putsA_at 8 _ (by decide +kernel)
            clear hA hd
            obtain rfl := hcq rfl
            obtain rfl := hI.1 rfl
            obtain ⟨p0, p1⟩ := pair_at (show Blk W w.heap.size 73 #[.int .u32 E1, .int .u32 E2] from hI.2.1.pr)
            refine wpOp_step rfl (fun K' hK' => ?_)
            go_simp
            exact hK' _ _ (hK _ _ rfl trivial ⟨fun h => (by cases h), hI.2⟩)
          · generalize hA : putsA _ _ x [0, 1, 2, 3, 4, 5, 6, 7, 8, 9, 10, 11, 12, 13] = A_ at *
            have e0 : A_.tmps[0]? = some (lp q) := by rw [← hA]; exact putsA_at 0 _ (by decide +kernel)
            clear hA hd
            refine wpOp_step rfl (fun K' hK' => ?_)
            go_simp
            exact hK' _ _ (hK _ _ rfl trivial hI)
          · generalize hA : putsA _ _ x [0, 1, 2, 3, 4, 5, 6, 7, 8, 9, 10, 11, 12, 13] = A_ at *
            have e39 : A_.tmps[39]? = some (x 1) := by rw [← hA]; exact putsA_in (i := 1) 39 (by rfl) (by show (39 : Nat) < 59; decide) _ (by decide +kernel) (by decide)
            have f1 : x 1 = lp q := hd 1 (by decide)
            rw [f1] at e39
            clear hA hd
            refine wpOp_step rfl (fun K' hK' => ?_)
            go_simp
            exact hK' _ _ (hK _ _ rfl trivial hI)
          · generalize hA : putsA _ _ x [0, 1, 2, 3, 4, 5, 6, 7, 8, 9, 10, 11, 12, 13] = A_ at *
            have e40 : A_.tmps[40]? = some (x 2) := by rw [← hA]; exact putsA_in (i := 2) 40 (by rfl) (by show (40 : Nat) < 59; decide) _ (by decide +kernel) (by decide)
            have f2 : x 2 = lp q := hd 2 (by decide)
            rw [f2] at e40
            clear hA hd
            refine wpOp_step rfl (fun K' hK' => ?_)
            go_simp
            exact hK' _ _ (hK _ _ rfl trivial hI)
          · generalize hA : putsA _ _ x [0, 1, 2, 3, 4, 5, 6, 7, 8, 9, 10, 11, 12, 13] = A_ at *
            have e41 : A_.tmps[41]? = some (x 3) := by rw [← hA]; exact putsA_in (i := 3) 41 (by rfl) (by show (41 : Nat) < 59; decide) _ (by decide +kernel) (by decide)
            have f3 : x 3 = .pointer (some ⟨q, 1, none⟩) := hd 3 (by decide)
            rw [f3] at e41
            clear hA hd
            refine wpOp_step rfl (fun K' hK' => ?_)
            go_simp
            exact hK' _ _ (hK _ _ rfl trivial hI)
          · generalize hA : putsA _ _ x [0, 1, 2, 3, 4, 5, 6, 7, 8, 9, 10, 11, 12, 13] = A_ at *
            have e42 : A_.tmps[42]? = some (x 4) := by rw [← hA]; exact putsA_in (i := 4) 42 (by rfl) (by show (42 : Nat) < 59; decide) _ (by decide +kernel) (by decide)
            have f4 : x 4 = .pointer (some ⟨q, 1, none⟩) := hd 4 (by decide)
            rw [f4] at e42
            clear hA hd
            have z1 : W.cell? ⟨q, 1, none⟩ = some (.int .u64 N0) := (hI.2.1.bel.cell (p := ⟨q, 1, none⟩) HQ.out.1).trans HQ.out.2
            refine wpOp_step rfl (fun K' hK' => ?_)
            go_simp
            exact hK' _ _ (hK _ _ rfl trivial hI)
          · generalize hA : putsA _ _ x [0, 1, 2, 3, 4, 5, 6, 7, 8, 9, 10, 11, 12, 13] = A_ at *
            have e12 : A_.tmps[12]? = some (.pointer (some ⟨wr.heap.size + 1, 0, none⟩)) := by rw [← hA]; exact putsA_at 12 _ (by decide +kernel)
            clear hA hd
            obtain ⟨p0, p1, p2⟩ := trip_at hI.2.2
            refine wpOp_step rfl (fun K' hK' => ?_)
            go_simp
            exact hK' _ _ (hK _ _ rfl trivial hI)
          · generalize hA : putsA _ _ x [0, 1, 2, 3, 4, 5, 6, 7, 8, 9, 10, 11, 12, 13] = A_ at *
            have e38 : A_.tmps[38]? = some (x 0) := by rw [← hA]; exact putsA_in (i := 0) 38 (by rfl) (by show (38 : Nat) < 59; decide) _ (by decide +kernel) (by decide)
            have f0 : x 0 = .agg #[.int .u32 E1, .int .u32 E2] := hd 0 (by decide)
            rw [f0] at e38
            have e43 : A_.tmps[43]? = some (x 5) := by rw [← hA]; exact putsA_in (i := 5) 43 (by rfl) (by show (43 : Nat) < 59; decide) _ (by decide +kernel) (by decide)
            have f5 : x 5 = .int .u64 N0 := hd 5 (by decide)
            rw [f5] at e43
            have e44 : A_.tmps[44]? = some (x 6) := by rw [← hA]; exact putsA_in (i := 6) 44 (by rfl) (by show (44 : Nat) < 59; decide) _ (by decide +kernel) (by decide)
            have f6 : x 6 = .agg #[.int .i64 pgn, .int .i64 (cm : Int), .string dt] := hd 6 (by decide)
            rw [f6] at e44
            clear hA hd
            refine wpOp_step rfl (fun K' hK' => ?_)
            go_simp
            refine (HPUT.out W).mono ?_
            rintro e w6 ⟨rfl, hb6⟩
            exact hK' _ _ (hK _ _ rfl trivial ⟨hI.1, pp_below hI.2.1 hb6, blk_step hI.2.2 hb6⟩)
          · generalize hA : putsA _ _ x [0, 1, 2, 3, 4, 5, 6, 7, 8, 9, 10, 11, 12, 13] = A_ at *
            have e45 : A_.tmps[45]? = some (x 7) := by rw [← hA]; exact putsA_in (i := 7) 45 (by rfl) (by show (45 : Nat) < 59; decide) _ (by decide +kernel) (by decide)
            have f7 : x 7 = .tuple #[.string (bstr T), .agg #[.int .u32 Q1, .int .u32 Q2], .int .i64 0] := hd 7 (by decide)
            rw [f7] at e45
            clear hA hd
            refine wpOp_step rfl (fun K' hK' => ?_)
            go_simp
            exact hK' _ _ (hK _ _ rfl trivial hI)
          · generalize hA : putsA _ _ x [0, 1, 2, 3, 4, 5, 6, 7, 8, 9, 10, 11, 12, 13] = A_ at *
            have e37 : A_.tmps[37]? = some (x 8) := by rw [← hA]; exact putsA_in (i := 8) 37 (by rfl) (by show (37 : Nat) < 59; decide) _ (by decide +kernel) (by decide)
            have f8 : x 8 = .tuple #[.string (bstr T), .agg #[.int .u32 Q1, .int .u32 Q2], .int .i64 0] := hd 8 (by decide)
            rw [f8] at e37
            clear hA hd
            refine wpOp_step rfl (fun K' hK' => ?_)
            go_simp
            exact hK' _ _ (hK _ _ rfl trivial hI)
          · generalize hA : putsA _ _ x [0, 1, 2, 3, 4, 5, 6, 7, 8, 9, 10, 11, 12, 13] = A_ at *
            have e37 : A_.tmps[37]? = some (x 8) := by rw [← hA]; exact putsA_in (i := 8) 37 (by rfl) (by show (37 : Nat) < 59; decide) _ (by decide +kernel) (by decide)
            have f8 : x 8 = .tuple #[.string (bstr T), .agg #[.int .u32 Q1, .int .u32 Q2], .int .i64 0] := hd 8 (by decide)
            rw [f8] at e37
            clear hA hd
            refine wpOp_step rfl (fun K' hK' => ?_)
            go_simp
            exact hK' _ _ (hK _ _ rfl trivial hI)
          · generalize hA : putsA _ _ x [0, 1, 2, 3, 4, 5, 6, 7, 8, 9, 10, 11, 12, 13] = A_ at *
            have e37 : A_.tmps[37]? = some (x 8) := by rw [← hA]; exact putsA_in (i := 8) 37 (by rfl) (by show (37 : Nat) < 59; decide) _ (by decide +kernel) (by decide)
            have f8 : x 8 = .tuple #[.string (bstr T), .agg #[.int .u32 Q1, .int .u32 Q2], .int .i64 0] := hd 8 (by decide)
            rw [f8] at e37
            clear hA hd
            refine wpOp_step rfl (fun K' hK' => ?_)
            go_simp
            exact hK' _ _ (hK _ _ rfl trivial hI)
          · generalize hA : putsA _ _ x [0, 1, 2, 3, 4, 5, 6, 7, 8, 9, 10, 11, 12, 13] = A_ at *
            have e46 : A_.tmps[46]? = some (x 9) := by rw [← hA]; exact putsA_in (i := 9) 46 (by rfl) (by show (46 : Nat) < 59; decide) _ (by decide +kernel) (by decide)
            have f9 : x 9 = .string (bstr T) := hd 9 (by decide)
            rw [f9] at e46
            clear hA hd
            refine wpOp_step rfl (fun K' hK' => ?_)
            go_simp
            exact hK' _ _ (hK _ _ rfl trivial hI)
          · generalize hA : putsA _ _ x [0, 1, 2, 3, 4, 5, 6, 7, 8, 9, 10, 11, 12, 13] = A_ at *
            have e8 : A_.tmps[8]? = some (.pointer (some ⟨w.heap.size, 0, none⟩)) := by rw [← hA]; exact putsA_at 8 _ (by decide +kernel)
            have e47 : A_.tmps[47]? = some (x 10) := by rw [← hA]; exact putsA_in (i := 10) 47 (by rfl) (by show (47 : Nat) < 59; decide) _ (by decide +kernel) (by decide)
            have f10 : x 10 = .agg #[.int .u32 Q1, .int .u32 Q2] := hd 10 (by decide)
            rw [f10] at e47
            clear hA hd
            obtain rfl := hbp rfl
            obtain rfl := hcd (by decide)
            have hpr : Blk W w.heap.size 73 #[.int .u32 E1, .int .u32 E2] := hI.2.1.pr
            obtain ⟨p0, p1⟩ := pair_at hpr
            have r0 := hpr.frozen 0
            have r1 := hpr.frozen 1
            refine wpOp_step rfl (fun K' hK' => ?_)
            go_simp
            refine hK' _ _ (hK undef _ trivial trivial ⟨fun h => (by cases h), pp_pair hI.2.1 (Q1, Q2), ?_⟩)
            exact (hI.2.2.far (p := ⟨w.heap.size, 0, none⟩) (show wr.heap.size + 1 ≠ w.heap.size by have := HKL.out; omega) _).far (p := ⟨w.heap.size, 1, none⟩) (show wr.heap.size + 1 ≠ w.heap.size by have := HKL.out; omega) _
        case hend =>
          intro x W b_ c_ hf hpf hqf hI
          have f0 : x 0 = .agg #[.int .u32 E1, .int .u32 E2] := hf 0 (by decide)
          have f1 : x 1 = lp q := hf 1 (by decide)
          have f2 : x 2 = lp q := hf 2 (by decide)
          have f3 : x 3 = .pointer (some ⟨q, 1, none⟩) := hf 3 (by decide)
          have f4 : x 4 = .pointer (some ⟨q, 1, none⟩) := hf 4 (by decide)
          have f5 : x 5 = .int .u64 N0 := hf 5 (by decide)
          have f6 : x 6 = .agg #[.int .i64 pgn, .int .i64 (cm : Int), .string dt] := hf 6 (by decide)
          have f7 : x 7 = .tuple #[.string (bstr T), .agg #[.int .u32 Q1, .int .u32 Q2], .int .i64 0] := hf 7 (by decide)
          have f8 : x 8 = .tuple #[.string (bstr T), .agg #[.int .u32 Q1, .int .u32 Q2], .int .i64 0] := hf 8 (by decide)
          have f9 : x 9 = .string (bstr T) := hf 9 (by decide)
          have f10 : x 10 = .agg #[.int .u32 Q1, .int .u32 Q2] := hf 10 (by decide)
          have f11 : x 11 = .int .i64 0 := hf 11 (by decide)
          have f12 : x 12 = .string (bstr T) := hf 12 (by decide)
          rw [putsA_lit _ _ [0, 1, 2, 3, 4, 5, 6, 7, 8, 9, 10, 11, 12, 13] ((13, 12) :: (37, 8) :: (38, 0) :: (39, 1) :: (40, 2) :: (41, 3) :: (42, 4) :: (43, 5) :: (44, 6) :: (45, 7) :: (46, 9) :: (47, 10) :: (48, 11) :: []) (by kernel_rfl)]
          simp only [setAll, ↓reduceIte, Nat.reduceAdd, Nat.reduceEqDiff]
          rw [f0, f1, f2, f3, f4, f5, f6, f7, f8, f9, f10, f11, f12]
          obtain rfl : b_ = false := hpf (by decide)
          obtain rfl : c_ = false := hqf (by decide)
          clear hf hpf hqf f0 f1 f2 f3 f4 f5 f6 f7 f8 f9 f10 f11 f12
          refine wpAny_done (by kernel_rfl) ?_ _
          refine NoPanic.normal ?_
          have hpp : Pp w (Q1, Q2) L fj A1 c1 v1 W := hI.2.1
          have HP1 := Lib.hid hpp
          have HK1 := Lib.hid hI.2.2
          have HWS := Lib.hid (bu_writeString (w.heap.size + 1) (w.heap.size + 1) v1 (Lib.strCells (bstr L)) (bstr T) W hpp.bu (by rw [Lib.strCells_length, bstr_size, bstr_size, HTB.out.1]; have := HLL.out; omega) (by have := hpp.bu.lt; omega))
          clear hI hpp x
          go_wp2_with fail
          refine (HWS.out).mono ?_
          rintro e w7 ⟨rfl, v2, hbu, hfr, hbe, -⟩
          have hP2 := pp_write HP1.out hbu hfr hbe
          rw [HTB.out.2] at hP2
          have HK2 := Lib.hid (show Blk w7 (wr.heap.size + 1) 61 #[.int .i64 pgn, .int .i64 (cm : Int), .string dt] from (hfr.2 _ HK1.out.lt (by have := HKL.out; omega) (by
            obtain ⟨_, p_, _, hbk_, ho_, hn_⟩ := HP1.out.bu
            exact row_ne_blk ho_ HK1.out (by decide))).trans HK1.out)
          have HP2 := Lib.hid hP2
          obtain ⟨p0, p1, p2⟩ := trip_at HK2.out
          obtain ⟨iv, hv1, hv2, hv3, hv4⟩ := info_parts fr_info
          have HP3 := Lib.hid (pp_below HP2.out (allocB (o := .cells #[.int .i64 pgn, .int .i64 (cm : Int), .string dt] 61)))
          have hrd := reads_three (Blk.new w7 61 #[.int .i64 pgn, .int .i64 (cm : Int), .string dt])
          have hjl : fj.length = j := HFTJ.out
          have HROW := Lib.hid (show (w7.alloc (.cells #[.int .i64 pgn, .int .i64 (cm : Int), .string dt] 61)).ownsRow (w.heap.size + 2) 61 3 (.slice A1 j c1) j (fxs fj) from by have h := HP3.out.row; rw [hjl] at h; exact h)
          have hszw : w.heap.size + 2 ≤ w7.heap.size + 1 := by have := HP2.out.bu.lt; omega
          clear hbu hfr hbe hP2 HWS HP1 HK1
          go_wp2_with (at_builtin; refine wpList_append_any _ rfl (.tmp 51) (.tmp 53) 39 rfl (w.heap.size + 2) 61 iv _ 3 32 Try.underlying39 hv1 hv2 hv3 hv4 rfl (by omega) _ j (fxs fj) rfl HROW.out (w7.alloc (.cells #[.int .i64 pgn, .int .i64 (cm : Int), .string dt] 61)).heap.size (some ⟨w7.heap.size, 0, none⟩) 1 1 [.int .i64 pgn, .int .i64 (cm : Int), .string dt] rfl hrd (by intro u hu; simp at hu; rcases hu with rfl | rfl | rfl <;> rfl) (by simp only [maxLen]; omega) (by omega) (by simp only [World.alloc, Array.size_push]; exact hszw) ?_; intro v3 w8 hown1 hg1 hat1; obtain ⟨A3, c3, rfl⟩ := own_form hown1; (have HO1 := Lib.hid hown1); (have HG1 := Lib.hid hg1); clear hown1 hg1 hat1)
          go_roundw
          case rel =>
            refine ⟨j + 1, A3, c3, v2, by omega, by first | rfl | simp | (rw [hl]), by first | rfl | rw [hl], ?_⟩
            rw [HTK.out, HSN.out.1, HSN.out.2]
            have hg := HG1.out
            rw [← hjl] at hg
            exact pp_push (x := ⟨pgn, cm, dt⟩) HP3.out (by rw [hjl]; exact HO1.out) hg
          case measure => simp [intOf]; omega
      · have hlI : ((j : Int) == (n : Int) - 1) = false := by simp; omega
        go_wp2_with fail
        have hc0 : (cm : Int) = 0 := by rw [hcc]; rfl
        rw [hc0] at HPUT
        generalize hWk : (wr.alloc (.cells #[.int .i64 pgn, .string dt] 36)).alloc (.cells #[.int .i64 pgn, .int .i64 0, .string dt] 61) = Wk
        have hs1 : (wr.alloc (.cells #[.int .i64 pgn, .string dt] 36)).heap.size = wr.heap.size + 1 := by simp
        have hkf : Blk Wk (wr.heap.size + 1) 61 #[.int .i64 pgn, .int .i64 0, .string dt] := by
          rw [← hWk, ← hs1]
          exact Blk.new _ _ _
        have hpk : Pp w (E1, E2) L fj A1 c1 v1 Wk := by
          rw [← hWk]
          exact pp_below HPP.out (bj allocB allocB)
        have HK := Lib.hid (And.intro hkf hpk)
        have HKL := Lib.hid (show w.heap.size + 1 < wr.heap.size + 1 from by have := HPP.out.bu.lt; omega)
        clear hWk hs1 hkf hpk HPP i0 i1
        refine wp_region_noPanic ?_
        refine wp_region_any (by kernel_rfl) ?_
        refine facts_sw [0, 1, 2, 3, 4, 5, 6, 7, 8, 9, 10, 11, 12, 13] (fun i => match i with | 2 => [1] | 3 => [2] | 4 => [3] | 5 => [4] | 7 => [0, 5, 6] | 8 => [7] | 9 => [8] | 10 => [8] | 11 => [8] | 12 => [9] | 13 => [10, 0] | _ => []) 13 0 (fun i v W => match i with | 0 => v = .agg #[.int .u32 E1, .int .u32 E2] | 1 => v = lp q | 2 => v = lp q | 3 => v = .pointer (some ⟨q, 1, none⟩) | 4 => v = .pointer (some ⟨q, 1, none⟩) | 5 => v = .int .u64 N0 | 6 => v = .agg #[.int .i64 pgn, .int .i64 0, .string dt] | 7 => v = .tuple #[.string (bstr T), .agg #[.int .u32 Q1, .int .u32 Q2], .int .i64 0] | 8 => v = .tuple #[.string (bstr T), .agg #[.int .u32 Q1, .int .u32 Q2], .int .i64 0] | 9 => v = .string (bstr T) | 10 => v = .agg #[.int .u32 Q1, .int .u32 Q2] | 11 => v = .int .i64 0 | 12 => v = .string (bstr T) | _ => True) (fun _ _ => True) (fun b c W => (c = true → b = true) ∧ Pp w (if b then (E1, E2) else (Q1, Q2)) L fj A1 c1 v1 W ∧ Blk W (wr.heap.size + 1) 61 #[.int .i64 pgn, .int .i64 0, .string dt]) _ _ _ 0 _ #[true, true, true, true, true, true, true, true, true, true, true, true, true, true] (fun _ _ _ _ h _ => h) (by kernel_rfl) (by rfl) ⟨fun _ => rfl, pp_below HK.out.2 (Below.refl _ _).drew, HK.out.1⟩ ?hstep ?hend
        case hstep =>
          intro i hi b_ c_ hbp hcq hbd hcd x W hd hI K hK
          simp only [List.mem_cons, List.not_mem_nil, or_false] at hi
          rcases hi with rfl | rfl | rfl | rfl | rfl | rfl | rfl | rfl | rfl | rfl | rfl | rfl | rfl | rfl
          · generalize hA : putsA _ _ x [0, 1, 2, 3, 4, 5, 6, 7, 8, 9, 10, 11, 12, 13] = A_ at *
            have e8 : A_.tmps[8]? = some (.pointer (some ⟨w.heap.size, 0, none⟩)) := by rw [← hA]; exact putsA_at 8 _ (by decide +kernel)
            clear hA hd
            obtain rfl := hcq rfl
            obtain rfl := hI.1 rfl
            obtain ⟨p0, p1⟩ := pair_at (show Blk W w.heap.size 73 #[.int .u32 E1, .int .u32 E2] from hI.2.1.pr)
            refine wpOp_step rfl (fun K' hK' => ?_)
            go_simp
            exact hK' _ _ (hK _ _ rfl trivial ⟨fun h => (by cases h), hI.2⟩)
          · generalize hA : putsA _ _ x [0, 1, 2, 3, 4, 5, 6, 7, 8, 9, 10, 11, 12, 13] = A_ at *
            have e0 : A_.tmps[0]? = some (lp q) := by rw [← hA]; exact putsA_at 0 _ (by decide +kernel)
            clear hA hd
            refine wpOp_step rfl (fun K' hK' => ?_)
            go_simp
            exact hK' _ _ (hK _ _ rfl trivial hI)
          · generalize hA : putsA _ _ x [0, 1, 2, 3, 4, 5, 6, 7, 8, 9, 10, 11, 12, 13] = A_ at *
            have e39 : A_.tmps[39]? = some (x 1) := by rw [← hA]; exact putsA_in (i := 1) 39 (by rfl) (by show (39 : Nat) < 59; decide) _ (by decide +kernel) (by decide)
            have f1 : x 1 = lp q := hd 1 (by decide)
            rw [f1] at e39
            clear hA hd
            refine wpOp_step rfl (fun K' hK' => ?_)
            go_simp
            exact hK' _ _ (hK _ _ rfl trivial hI)
          · generalize hA : putsA _ _ x [0, 1, 2, 3, 4, 5, 6, 7, 8, 9, 10, 11, 12, 13] = A_ at *
            have e40 : A_.tmps[40]? = some (x 2) := by rw [← hA]; exact putsA_in (i := 2) 40 (by rfl) (by show (40 : Nat) < 59; decide) _ (by decide +kernel) (by decide)
            have f2 : x 2 = lp q := hd 2 (by decide)
            rw [f2] at e40
            clear hA hd
            refine wpOp_step rfl (fun K' hK' => ?_)
            go_simp
            exact hK' _ _ (hK _ _ rfl trivial hI)
          · generalize hA : putsA _ _ x [0, 1, 2, 3, 4, 5, 6, 7, 8, 9, 10, 11, 12, 13] = A_ at *
            have e41 : A_.tmps[41]? = some (x 3) := by rw [← hA]; exact putsA_in (i := 3) 41 (by rfl) (by show (41 : Nat) < 59; decide) _ (by decide +kernel) (by decide)
            have f3 : x 3 = .pointer (some ⟨q, 1, none⟩) := hd 3 (by decide)
            rw [f3] at e41
            clear hA hd
            refine wpOp_step rfl (fun K' hK' => ?_)
            go_simp
            exact hK' _ _ (hK _ _ rfl trivial hI)
          · generalize hA : putsA _ _ x [0, 1, 2, 3, 4, 5, 6, 7, 8, 9, 10, 11, 12, 13] = A_ at *
            have e42 : A_.tmps[42]? = some (x 4) := by rw [← hA]; exact putsA_in (i := 4) 42 (by rfl) (by show (42 : Nat) < 59; decide) _ (by decide +kernel) (by decide)
            have f4 : x 4 = .pointer (some ⟨q, 1, none⟩) := hd 4 (by decide)
            rw [f4] at e42
            clear hA hd
            have z1 : W.cell? ⟨q, 1, none⟩ = some (.int .u64 N0) := (hI.2.1.bel.cell (p := ⟨q, 1, none⟩) HQ.out.1).trans HQ.out.2
            refine wpOp_step rfl (fun K' hK' => ?_)
            go_simp
            exact hK' _ _ (hK _ _ rfl trivial hI)
          · generalize hA : putsA _ _ x [0, 1, 2, 3, 4, 5, 6, 7, 8, 9, 10, 11, 12, 13] = A_ at *
            have e12 : A_.tmps[12]? = some (.pointer (some ⟨wr.heap.size + 1, 0, none⟩)) := by rw [← hA]; exact putsA_at 12 _ (by decide +kernel)
            clear hA hd
            obtain ⟨p0, p1, p2⟩ := trip_at hI.2.2
            refine wpOp_step rfl (fun K' hK' => ?_)
            go_simp
            exact hK' _ _ (hK _ _ rfl trivial hI)
          · generalize hA : putsA _ _ x [0, 1, 2, 3, 4, 5, 6, 7, 8, 9, 10, 11, 12, 13] = A_ at *
            have e38 : A_.tmps[38]? = some (x 0) := by rw [← hA]; exact putsA_in (i := 0) 38 (by rfl) (by show (38 : Nat) < 59; decide) _ (by decide +kernel) (by decide)
            have f0 : x 0 = .agg #[.int .u32 E1, .int .u32 E2] := hd 0 (by decide)
            rw [f0] at e38
            have e43 : A_.tmps[43]? = some (x 5) := by rw [← hA]; exact putsA_in (i := 5) 43 (by rfl) (by show (43 : Nat) < 59; decide) _ (by decide +kernel) (by decide)
            have f5 : x 5 = .int .u64 N0 := hd 5 (by decide)
            rw [f5] at e43
            have e44 : A_.tmps[44]? = some (x 6) := by rw [← hA]; exact putsA_in (i := 6) 44 (by rfl) (by show (44 : Nat) < 59; decide) _ (by decide +kernel) (by decide)
            have f6 : x 6 = .agg #[.int .i64 pgn, .int .i64 0, .string dt] := hd 6 (by decide)
            rw [f6] at e44
            clear hA hd
            refine wpOp_step rfl (fun K' hK' => ?_)
            go_simp
            refine (HPUT.out W).mono ?_
            rintro e w6 ⟨rfl, hb6⟩
            exact hK' _ _ (hK _ _ rfl trivial ⟨hI.1, pp_below hI.2.1 hb6, blk_step hI.2.2 hb6⟩)
          · generalize hA : putsA _ _ x [0, 1, 2, 3, 4, 5, 6, 7, 8, 9, 10, 11, 12, 13] = A_ at *
            have e45 : A_.tmps[45]? = some (x 7) := by rw [← hA]; exact putsA_in (i := 7) 45 (by rfl) (by show (45 : Nat) < 59; decide) _ (by decide +kernel) (by decide)
            have f7 : x 7 = .tuple #[.string (bstr T), .agg #[.int .u32 Q1, .int .u32 Q2], .int .i64 0] := hd 7 (by decide)
            rw [f7] at e45
            clear hA hd
            refine wpOp_step rfl (fun K' hK' => ?_)
            go_simp
            exact hK' _ _ (hK _ _ rfl trivial hI)
          · generalize hA : putsA _ _ x [0, 1, 2, 3, 4, 5, 6, 7, 8, 9, 10, 11, 12, 13] = A_ at *
            have e37 : A_.tmps[37]? = some (x 8) := by rw [← hA]; exact putsA_in (i := 8) 37 (by rfl) (by show (37 : Nat) < 59; decide) _ (by decide +kernel) (by decide)
            have f8 : x 8 = .tuple #[.string (bstr T), .agg #[.int .u32 Q1, .int .u32 Q2], .int .i64 0] := hd 8 (by decide)
            rw [f8] at e37
            clear hA hd
            refine wpOp_step rfl (fun K' hK' => ?_)
            go_simp
            exact hK' _ _ (hK _ _ rfl trivial hI)
          · generalize hA : putsA _ _ x [0, 1, 2, 3, 4, 5, 6, 7, 8, 9, 10, 11, 12, 13] = A_ at *
            have e37 : A_.tmps[37]? = some (x 8) := by rw [← hA]; exact putsA_in (i := 8) 37 (by rfl) (by show (37 : Nat) < 59; decide) _ (by decide +kernel) (by decide)
            have f8 : x 8 = .tuple #[.string (bstr T), .agg #[.int .u32 Q1, .int .u32 Q2], .int .i64 0] := hd 8 (by decide)
            rw [f8] at e37
            clear hA hd
            refine wpOp_step rfl (fun K' hK' => ?_)
            go_simp
            exact hK' _ _ (hK _ _ rfl trivial hI)
          · generalize hA : putsA _ _ x [0, 1, 2, 3, 4, 5, 6, 7, 8, 9, 10, 11, 12, 13] = A_ at *
            have e37 : A_.tmps[37]? = some (x 8) := by rw [← hA]; exact putsA_in (i := 8) 37 (by rfl) (by show (37 : Nat) < 59; decide) _ (by decide +kernel) (by decide)
            have f8 : x 8 = .tuple #[.string (bstr T), .agg #[.int .u32 Q1, .int .u32 Q2], .int .i64 0] := hd 8 (by decide)
            rw [f8] at e37
            clear hA hd
            refine wpOp_step rfl (fun K' hK' => ?_)
            go_simp
            exact hK' _ _ (hK _ _ rfl trivial hI)
          · generalize hA : putsA _ _ x [0, 1, 2, 3, 4, 5, 6, 7, 8, 9, 10, 11, 12, 13] = A_ at *
            have e46 : A_.tmps[46]? = some (x 9) := by rw [← hA]; exact putsA_in (i := 9) 46 (by rfl) (by show (46 : Nat) < 59; decide) _ (by decide +kernel) (by decide)
            have f9 : x 9 = .string (bstr T) := hd 9 (by decide)
            rw [f9] at e46
            clear hA hd
            refine wpOp_step rfl (fun K' hK' => ?_)
            go_simp
            exact hK' _ _ (hK _ _ rfl trivial hI)
          · generalize hA : putsA _ _ x [0, 1, 2, 3, 4, 5, 6, 7, 8, 9, 10, 11, 12, 13] = A_ at *
            have e8 : A_.tmps[8]? = some (.pointer (some ⟨w.heap.size, 0, none⟩)) := by rw [← hA]; exact putsA_at 8 _ (by decide +kernel)
            have e47 : A_.tmps[47]? = some (x 10) := by rw [← hA]; exact putsA_in (i := 10) 47 (by rfl) (by show (47 : Nat) < 59; decide) _ (by decide +kernel) (by decide)
            have f10 : x 10 = .agg #[.int .u32 Q1, .int .u32 Q2] := hd 10 (by decide)
            rw [f10] at e47
            clear hA hd
            obtain rfl := hbp rfl
            obtain rfl := hcd (by decide)
            have hpr : Blk W w.heap.size 73 #[.int .u32 E1, .int .u32 E2] := hI.2.1.pr
            obtain ⟨p0, p1⟩ := pair_at hpr
            have r0 := hpr.frozen 0
            have r1 := hpr.frozen 1
            refine wpOp_step rfl (fun K' hK' => ?_)
            go_simp
            refine hK' _ _ (hK undef _ trivial trivial ⟨fun h => (by cases h), pp_pair hI.2.1 (Q1, Q2), ?_⟩)
            exact (hI.2.2.far (p := ⟨w.heap.size, 0, none⟩) (show wr.heap.size + 1 ≠ w.heap.size by have := HKL.out; omega) _).far (p := ⟨w.heap.size, 1, none⟩) (show wr.heap.size + 1 ≠ w.heap.size by have := HKL.out; omega) _
        case hend =>
          intro x W b_ c_ hf hpf hqf hI
          have f0 : x 0 = .agg #[.int .u32 E1, .int .u32 E2] := hf 0 (by decide)
          have f1 : x 1 = lp q := hf 1 (by decide)
          have f2 : x 2 = lp q := hf 2 (by decide)
          have f3 : x 3 = .pointer (some ⟨q, 1, none⟩) := hf 3 (by decide)
          have f4 : x 4 = .pointer (some ⟨q, 1, none⟩) := hf 4 (by decide)
          have f5 : x 5 = .int .u64 N0 := hf 5 (by decide)
          have f6 : x 6 = .agg #[.int .i64 pgn, .int .i64 0, .string dt] := hf 6 (by decide)
          have f7 : x 7 = .tuple #[.string (bstr T), .agg #[.int .u32 Q1, .int .u32 Q2], .int .i64 0] := hf 7 (by decide)
          have f8 : x 8 = .tuple #[.string (bstr T), .agg #[.int .u32 Q1, .int .u32 Q2], .int .i64 0] := hf 8 (by decide)
          have f9 : x 9 = .string (bstr T) := hf 9 (by decide)
          have f10 : x 10 = .agg #[.int .u32 Q1, .int .u32 Q2] := hf 10 (by decide)
          have f11 : x 11 = .int .i64 0 := hf 11 (by decide)
          have f12 : x 12 = .string (bstr T) := hf 12 (by decide)
          rw [putsA_lit _ _ [0, 1, 2, 3, 4, 5, 6, 7, 8, 9, 10, 11, 12, 13] ((13, 12) :: (37, 8) :: (38, 0) :: (39, 1) :: (40, 2) :: (41, 3) :: (42, 4) :: (43, 5) :: (44, 6) :: (45, 7) :: (46, 9) :: (47, 10) :: (48, 11) :: []) (by kernel_rfl)]
          simp only [setAll, ↓reduceIte, Nat.reduceAdd, Nat.reduceEqDiff]
          rw [f0, f1, f2, f3, f4, f5, f6, f7, f8, f9, f10, f11, f12]
          obtain rfl : b_ = false := hpf (by decide)
          obtain rfl : c_ = false := hqf (by decide)
          clear hf hpf hqf f0 f1 f2 f3 f4 f5 f6 f7 f8 f9 f10 f11 f12
          refine wpAny_done (by kernel_rfl) ?_ _
          refine NoPanic.normal ?_
          have hpp : Pp w (Q1, Q2) L fj A1 c1 v1 W := hI.2.1
          have HP1 := Lib.hid hpp
          have HK1 := Lib.hid hI.2.2
          have HWS := Lib.hid (bu_writeString (w.heap.size + 1) (w.heap.size + 1) v1 (Lib.strCells (bstr L)) (bstr T) W hpp.bu (by rw [Lib.strCells_length, bstr_size, bstr_size, HTB.out.1]; have := HLL.out; omega) (by have := hpp.bu.lt; omega))
          clear hI hpp x
          go_wp2_with fail
          refine (HWS.out).mono ?_
          rintro e w7 ⟨rfl, v2, hbu, hfr, hbe, -⟩
          have hP2 := pp_write HP1.out hbu hfr hbe
          rw [HTB.out.2] at hP2
          have HK2 := Lib.hid (show Blk w7 (wr.heap.size + 1) 61 #[.int .i64 pgn, .int .i64 0, .string dt] from (hfr.2 _ HK1.out.lt (by have := HKL.out; omega) (by
            obtain ⟨_, p_, _, hbk_, ho_, hn_⟩ := HP1.out.bu
            exact row_ne_blk ho_ HK1.out (by decide))).trans HK1.out)
          have HP2 := Lib.hid hP2
          obtain ⟨p0, p1, p2⟩ := trip_at HK2.out
          obtain ⟨iv, hv1, hv2, hv3, hv4⟩ := info_parts fr_info
          have HP3 := Lib.hid (pp_below HP2.out (allocB (o := .cells #[.int .i64 pgn, .int .i64 0, .string dt] 61)))
          have hrd := reads_three (Blk.new w7 61 #[.int .i64 pgn, .int .i64 0, .string dt])
          have hjl : fj.length = j := HFTJ.out
          have HROW := Lib.hid (show (w7.alloc (.cells #[.int .i64 pgn, .int .i64 0, .string dt] 61)).ownsRow (w.heap.size + 2) 61 3 (.slice A1 j c1) j (fxs fj) from by have h := HP3.out.row; rw [hjl] at h; exact h)
          have hszw : w.heap.size + 2 ≤ w7.heap.size + 1 := by have := HP2.out.bu.lt; omega
          clear hbu hfr hbe hP2 HWS HP1 HK1
          go_wp2_with (at_builtin; refine wpList_append_any _ rfl (.tmp 51) (.tmp 53) 39 rfl (w.heap.size + 2) 61 iv _ 3 32 Try.underlying39 hv1 hv2 hv3 hv4 rfl (by omega) _ j (fxs fj) rfl HROW.out (w7.alloc (.cells #[.int .i64 pgn, .int .i64 0, .string dt] 61)).heap.size (some ⟨w7.heap.size, 0, none⟩) 1 1 [.int .i64 pgn, .int .i64 0, .string dt] rfl hrd (by intro u hu; simp at hu; rcases hu with rfl | rfl | rfl <;> rfl) (by simp only [maxLen]; omega) (by omega) (by simp only [World.alloc, Array.size_push]; exact hszw) ?_; intro v3 w8 hown1 hg1 hat1; obtain ⟨A3, c3, rfl⟩ := own_form hown1; (have HO1 := Lib.hid hown1); (have HG1 := Lib.hid hg1); clear hown1 hg1 hat1)
          go_roundw
          case rel =>
            refine ⟨j + 1, A3, c3, v2, by omega, by first | rfl | simp | (rw [hl]), by first | rfl | rw [hl], ?_⟩
            rw [HTK.out, HSN.out.1, HSN.out.2]
            have hg := HG1.out
            rw [← hjl] at hg
            exact pp_push (x := ⟨pgn, cm, dt⟩) HP3.out (by rw [hjl, hcc]; exact HO1.out) hg
          case measure => simp [intOf]; omega
end Go.Proofs.Ythipaabjmlgjmaa
namespace Go.Proofs.Ythipaabjmlgjmaa
open Go.RowKit Go Go.Maps
set_option linter.unusedVariables false
set_option linter.unusedSimpArgs false
abbrev wrV (k : Nat) : Value := .func (.func 74) #[] #[lp k, lp (k + 1), lp (k + 2), lp (k + 3)]
abbrev syV (q : Nat) : Value := .func (.func 41) #[lp q] #[]
abbrev layV (k : Nat) : Value := .func (.func 75) #[] #[lp k, lp (k + 1)]
/-- a write's four boxes -/
def WrB (W : World) (q k : Nat) (f a : Int) (s : ByteArray) : Prop := PtrBlk W k q ∧ Blk W (k + 1) 3 #[.int .i64 f] ∧ Blk W (k + 2) 3 #[.int .i64 a] ∧ Blk W (k + 3) 9 #[.string s]
theorem wrB_below {W W' : World} {q k : Nat} {f a : Int} {s : ByteArray} (h : WrB W q k f a s) (hb : Below W.heap.size W W') : WrB W' q k f a s := ⟨blk_step h.1 hb, blk_step h.2.1 hb, blk_step h.2.2.1 hb, blk_step h.2.2.2 hb⟩
theorem wrB_spV {W : World} {S : Nat → Prop} {q k : Nat} {f a : Int} {s : ByteArray} (h : WrB W q k f a s) (hs : s.size ≤ 140737488351232) (hk : ∀ b, S b → b < k) : SpV W S q (.wr f a s) (wrV k) :=
  ⟨hs, k, k + 1, k + 2, k + 3, rfl, h.1, h.2.1, h.2.2.1, h.2.2.2, fun e => by have := hk _ e; omega, fun e => by have := hk _ e; omega, fun e => by have := hk _ e; omega, fun e => by have := hk _ e; omega⟩
theorem alloc_size (W : World) (o : Obj) : (W.alloc o).heap.size = W.heap.size + 1 := by simp
theorem blk_alloc {W : World} {g k : Nat} {t : TypeId} {cs : Array Value} (h : Blk W g t cs) (o : Obj) : Blk (W.alloc o) g t cs := blk_step h allocB
set_option maxRecDepth 100000 in
set_option maxHeartbeats 4000000 in
theorem wwrite_any (q : Nat) (f a : Int) (s : ByteArray) (w : World) : Calls Try.prog 39 #[lp q, .int .i64 f, .int .i64 a, .string s] w fun e w' => e = .returned (wrV w.heap.size) ∧ WrB w' q w.heap.size f a s ∧ Below w.heap.size w w' := by
  have h0 := Blk.new w 24 #[lp q]
  have s0 := alloc_size w (.cells #[lp q] 24)
  generalize hW0 : w.alloc (.cells #[lp q] 24) = W0 at *
  have h1 := Blk.new W0 3 #[.int .i64 f]
  have s1 := alloc_size W0 (.cells #[.int .i64 f] 3)
  generalize hW1 : W0.alloc (.cells #[.int .i64 f] 3) = W1 at *
  have h2 := Blk.new W1 3 #[.int .i64 a]
  have s2 := alloc_size W1 (.cells #[.int .i64 a] 3)
  generalize hW2 : W1.alloc (.cells #[.int .i64 a] 3) = W2 at *
  have h3 := Blk.new W2 9 #[.string s]
  have b01 : Below W0.heap.size W0 W1 := by rw [← hW1]; exact allocB
  have b12 : Below W1.heap.size W1 W2 := by rw [← hW2]; exact allocB
  have b23 : Below W2.heap.size W2 (W2.alloc (.cells #[.string s] 9)) := allocB
  have HWR := Lib.hid (show WrB (W2.alloc (.cells #[.string s] 9)) q w.heap.size f a s from by
    rw [s0] at h1
    rw [s1, s0] at h2
    rw [s2, s1, s0] at h3
    exact ⟨blk_step (blk_step (blk_step h0 b01) b12) b23, blk_step (blk_step h1 b12) b23, blk_step h2 b23, h3⟩)
  have HB := Lib.hid (show Below w.heap.size w (W2.alloc (.cells #[.string s] 9)) from by
    refine bj (bj (bj ?_ b01) b12) b23
    rw [← hW0]; exact allocB)
  subst hW2
  subst hW1
  subst hW0
  clear h0 h1 h2 h3 s0 s1 s2 b01 b12 b23
  go_enter Try.func39, Try.ntmps39
  go_wp2
  go_ret
  exact ⟨rfl, HWR.out, HB.out⟩
/-- what lay hands on -/
def LayB (W : World) (q k : Nat) (s : ByteArray) : Prop := PtrBlk W k q ∧ Blk W (k + 1) 9 #[.string s] ∧ Blk W (k + 2) 86 #[layV k, syV q]
theorem layB_below {W W' : World} {q k : Nat} {s : ByteArray} (h : LayB W q k s) (hb : Below W.heap.size W W') : LayB W' q k s := ⟨blk_step h.1 hb, blk_step h.2.1 hb, blk_step h.2.2 hb⟩
theorem layB_spV {W : World} {S : Nat → Prop} {q k : Nat} {s : ByteArray} (h : LayB W q k s) (hs : s.size ≤ 140737488351232) (hk : ∀ b, S b → b < k) : SpV W S q (.lay s) (layV k) :=
  ⟨hs, k, k + 1, rfl, h.1, h.2.1, fun e => by have := hk _ e; omega, fun e => by have := hk _ e; omega⟩
set_option maxRecDepth 100000 in
set_option maxHeartbeats 4000000 in
theorem wlay_any (q : Nat) (s : ByteArray) (w : World) : Calls Try.prog 43 #[lp q, .string s] w fun e w' => e = .returned (.slice (some ⟨w.heap.size + 2, 0, none⟩) 2 2) ∧ LayB w' q w.heap.size s ∧ Below w.heap.size w w' := by
  have h0 := Blk.new w 24 #[lp q]
  have s0 := alloc_size w (.cells #[lp q] 24)
  generalize hW0 : w.alloc (.cells #[lp q] 24) = W0 at *
  have h1 := Blk.new W0 9 #[.string s]
  have s1 := alloc_size W0 (.cells #[.string s] 9)
  generalize hW1 : W0.alloc (.cells #[.string s] 9) = W1 at *
  have h2 := Blk.new W1 86 #[layV w.heap.size, syV q]
  have b01 : Below W0.heap.size W0 W1 := by rw [← hW1]; exact allocB
  have b12 : Below W1.heap.size W1 (W1.alloc (.cells #[layV w.heap.size, syV q] 86)) := allocB
  have HWR := Lib.hid (show LayB (W1.alloc (.cells #[layV w.heap.size, syV q] 86)) q w.heap.size s from by
    rw [s0] at h1
    rw [s1, s0] at h2
    exact ⟨blk_step (blk_step h0 b01) b12, blk_step h1 b12, h2⟩)
  have HB := Lib.hid (show Below w.heap.size w (W1.alloc (.cells #[layV w.heap.size, syV q] 86)) from by
    refine bj (bj ?_ b01) b12
    rw [← hW0]; exact allocB)
  subst hW1
  subst hW0
  clear h0 h1 h2 s0 s1 b01 b12
  go_enter Try.func43, Try.ntmps43
  go_wp2
  go_ret
  exact ⟨rfl, HWR.out, HB.out⟩
set_option maxRecDepth 100000 in
set_option maxHeartbeats 4000000 in
theorem mended_calm {S : Nat → Prop} {g q : Nat} {d : Dk} {N : Nat} {l : Lg} {w : World} (h : LgS w S g q d N l) (ht : l.torn = false) : Calls Try.prog 38 #[lp q] w fun e w' => e = .returned (.slice none 0 0) ∧ w = w' := by
  obtain ⟨Sd, A, c, hm⟩ := h
  obtain ⟨-, -, -, -, -, -, -, -, d8, -⟩ := lg_cells hm
  rw [ht] at d8
  clear hm ht
  go_enter Try.func38, Try.ntmps38
  go_wp2
  go_ret
  exact ⟨rfl, rfl⟩
/-- the head is set -/
theorem lgAt_head {w : World} {S Sd : Nat → Prop} {g q : Nat} {A : Option Addr} {c : Nat} {d : Dk} {N : Nat} {l : Lg} (h : LgAt w S Sd g q A c d N l) (N' F P : Nat) (hN : N' < 18446744073709551616) (hF : F ≤ 256) (hP : P ≤ 256) : LgAt (((w.setCell ⟨q, 1, none⟩ (.int .u64 N')).setCell ⟨q, 2, none⟩ (.int .i64 F)).setCell ⟨q, 3, none⟩ (.int .i64 P)) S Sd g q A c d N { l with N := N', F := F, P := P } :=
  lgAt_set (lgAt_set (lgAt_set h 1 (.int .u64 N') (l' := { l with N := N' }) rfl rfl h.fit ⟨hN, h.ub.2.1, h.ub.2.2.1⟩) 2 (.int .i64 F) (l' := { l with N := N', F := F }) rfl rfl h.fit ⟨hN, hF, h.ub.2.2.1⟩) 3 (.int .i64 P) (l' := { l with N := N', F := F, P := P }) rfl rfl h.fit ⟨hN, hF, hP⟩
theorem lgAt_hd {w : World} {S Sd : Nat → Prop} {g q : Nat} {A : Option Addr} {c : Nat} {d : Dk} {N : Nat} {l : Lg} (h : LgAt w S Sd g q A c d N l) (b : Bool) : LgAt (w.setCell ⟨q, 4, none⟩ (.bool b)) S Sd g q A c d N { l with hd := b } :=
  lgAt_set h 4 (.bool b) (l' := { l with hd := b }) rfl rfl h.fit ⟨h.ub.1, h.ub.2.1, h.ub.2.2.1⟩
theorem lgAt_end {w : World} {S Sd : Nat → Prop} {g q : Nat} {A : Option Addr} {c : Nat} {d : Dk} {N : Nat} {l : Lg} (h : LgAt w S Sd g q A c d N l) (e : Int × Int) (he : Fit e) : LgAt ((w.setCell ⟨q, 6, none⟩ (.int .u32 e.1)).setCell ⟨q, 7, none⟩ (.int .u32 e.2)) S Sd g q A c d N { l with e := e } := by
  have h6 := h.blk.set_ 6 (.int .u32 e.1)
  have h7 := h6.set_ 7 (.int .u32 e.2)
  have hf := fr_set (fr_set (S := fun b => b = q) (fr_refl _ w) (p := ⟨q, 6, none⟩) (.inl rfl) (.int .u32 e.1)) (p := ⟨q, 7, none⟩) (.inl rfl) (.int .u32 e.2)
  exact { dk := dkS_keep h.dk hf (fun b hb e => h.nq (e ▸ hb)), blk := h7, row := own_block h.row (fun z hz => hf.block z (h.lt z (h.sz z hz)) (h.nz z hz).2), nq := h.nq, nz := h.nz, sd := h.sd, sq := h.sq, sz := h.sz, lt := fun b hb => Nat.lt_of_lt_of_le (h.lt b hb) hf.size, fit := he, ub := h.ub, fok := h.fok }
theorem lgAt_moreq {w w' : World} {S Sd : Nat → Prop} {g q : Nat} {A : Option Addr} {c : Nat} {d : Dk} {N : Nat} {l : Lg} (h : LgAt w S Sd g q A c d N l) (hg : w.grownBy w' (Value.slice A l.fs.length c).ownBlock) : Blk w' q 75 (lgC g l A c) := (hg.block q h.blk.lt (fun e => (h.nz q e.symm).2 rfl)).trans h.blk
/-- the frames grow -/
theorem lgAt_more {w w' : World} {S Sd : Nat → Prop} {g q : Nat} {A A' : Option Addr} {c c' m : Nat} {d : Dk} {N : Nat} {l : Lg} {fs : List Fx} (h : LgAt w S Sd g q A c d N l) (hm : m = fs.length) (hrow : w'.ownsRow 0 61 3 (.slice A' (l.fs.length + m) c') (l.fs.length + m) (fxs l.fs ++ fxs fs)) (hg : w.grownBy w' (Value.slice A l.fs.length c).ownBlock) (hat : (Value.slice A' (l.fs.length + m) c').ownBlock = (Value.slice A l.fs.length c).ownBlock ∨ (Value.slice A' (l.fs.length + m) c').ownBlock = some w.heap.size) (hle : l.fs.length + m ≤ 256) (hok : ∀ x ∈ fs, FxOk x) :
    LgAt (w'.setCell ⟨q, 5, none⟩ (.slice A' (l.fs.length + m) c')) (fun b => S b ∨ (Value.slice A' (l.fs.length + m) c').ownBlock = some b) Sd g q A' c' d N { l with fs := l.fs ++ fs } := by
  have hlen : (l.fs ++ fs).length = l.fs.length + m := by rw [List.length_append, hm]
  have hold : ∀ z, (Value.slice A l.fs.length c).ownBlock = some z → S z ∧ ¬ Sd z ∧ z ≠ q := fun z hz => ⟨h.sz z hz, h.nz z hz⟩
  have hnew : ∀ z, (Value.slice A' (l.fs.length + m) c').ownBlock = some z → ¬ Sd z ∧ z ≠ q := fun z hz => by
    rcases hat with ha | ha
    · exact h.nz z (ha ▸ hz)
    · rw [ha] at hz
      cases hz
      exact ⟨fun e => by have := h.lt _ (h.sd _ e); omega, fun e => by have := h.lt _ h.sq; omega⟩
  have hf : Fr (fun b => S b ∧ (Value.slice A l.fs.length c).ownBlock = some b) w w' := fr_grown (fr_refl _ w) hg (fun z hz => .inl ⟨h.sz z hz, hz⟩)
  have hbq : Blk w' q 75 (lgC g l A c) := fr_blk hf h.blk (fun e => (h.nz q e.2).2 rfl)
  have hb5 := hbq.set_ 5 (.slice A' (l.fs.length + m) c')
  have hf5 := fr_set (S := fun b => b = q) (fr_refl _ w') (p := ⟨q, 5, none⟩) (.inl rfl) (.slice A' (l.fs.length + m) c')
  refine { dk := dkS_keep (dkS_keep h.dk hf (fun b hb e => (h.nz b e.2).1 hb)) hf5 (fun b hb e => h.nq (e ▸ hb)), blk := ?_, row := ?_, nq := h.nq, nz := ?_, sd := fun b hb => .inl (h.sd b hb), sq := .inl h.sq, sz := ?_, lt := ?_, fit := h.fit, ub := ⟨h.ub.1, h.ub.2.1, h.ub.2.2.1, ?_⟩, fok := ?_ }
  · have e1 : (lgC g l A c).setIfInBounds 5 (.slice A' (l.fs.length + m) c') = lgC g { l with fs := l.fs ++ fs } A' c' := by
      show (#[_, _, _, _, _, _, _, _, _, _] : Array Value) = _
      unfold lgC
      simp only [hlen]
    rw [← e1]
    exact hb5
  · show World.ownsRow _ 0 _ 3 (.slice A' (l.fs ++ fs).length c') (l.fs ++ fs).length (fxs (l.fs ++ fs))
    rw [hlen, fxs_append]
    exact own_block hrow (fun z hz => hf5.block z (hrow.lt z hz).2 (hnew z hz).2)
  · intro z hz
    have hz : (Value.slice A' (l.fs ++ fs).length c').ownBlock = some z := hz
    rw [hlen] at hz
    exact hnew z hz
  · intro z hz
    have hz : (Value.slice A' (l.fs ++ fs).length c').ownBlock = some z := hz
    rw [hlen] at hz
    exact .inr hz
  · intro b hb
    rcases hb with hb | hb
    · exact Nat.lt_of_lt_of_le (h.lt b hb) (Nat.le_trans hf.size hf5.size)
    · exact Nat.lt_of_lt_of_le (hrow.lt b hb).2 hf5.size
  · show (l.fs ++ fs).length ≤ 256
    rw [hlen]; exact hle
  · intro x hx
    rcases List.mem_append.1 hx with hx | hx
    · exact h.fok x hx
    · exact hok x hx
end Go.Proofs.Ythipaabjmlgjmaa
