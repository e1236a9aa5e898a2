/- Layer 5: a Builder; frames written and taken. Conditions: those of each lemma. -/
import Derived.Test.YthipaabjmlgjmaaProg
import Derived.Test.YthipaabjmlgjmaaShelf
import Derived.Test.YthipaabjmlgjmaaMwB
import Derived.Test.YthipaabjmlgjmaaWords
import Derived.Maps.AppendAt
import Derived.Lib.AppendStr
import Derived.Outline
import Derived.Test.YthipaabjmlgjmaaFrameSpec
namespace Go.Proofs.Ythipaabjmlgjmaa
open Go.RowKit
set_option linter.unusedVariables false
set_option linter.unusedSimpArgs false
def Bu (B b : Nat) (v : Value) (bs : List Value) (W : World) : Prop :=
  B ≤ b ∧ ∃ p, (p = .pointer none ∨ p = .pointer (some ⟨b, 0, none⟩)) ∧ W.heap[b]? = some (.cells #[p, v] 111 (0, 0)) ∧ W.ownsRow B 5 1 v bs.length bs ∧ v.ownBlock ≠ some b
def Bp (B b : Nat) (v : Value) (bs : List Value) (W : World) : Prop :=
  B ≤ b ∧ W.heap[b]? = some (.cells #[.pointer (some ⟨b, 0, none⟩), v] 111 (0, 0)) ∧ W.ownsRow B 5 1 v bs.length bs ∧ v.ownBlock ≠ some b
def FrB (b : Nat) (v : Value) (W W' : World) : Prop := W.heap.size ≤ W'.heap.size ∧ ∀ k, k < W.heap.size → k ≠ b → v.ownBlock ≠ some k → W'.heap[k]? = W.heap[k]?
theorem Bp.bu {B b : Nat} {v : Value} {bs : List Value} {W : World} (h : Bp B b v bs W) : Bu B b v bs W := ⟨h.1, _, .inr rfl, h.2.1, h.2.2.1, h.2.2.2⟩
theorem Bu.lt {B b : Nat} {v : Value} {bs : List Value} {W : World} (h : Bu B b v bs W) : b < W.heap.size := by
  obtain ⟨_, p, _, hb, _⟩ := h
  rcases Nat.lt_or_ge b W.heap.size with h' | h'
  · exact h'
  · simp [Array.getElem?_eq_none h'] at hb
theorem Bu.old {B b : Nat} {v : Value} {bs : List Value} {W : World} (h : Bu B b v bs W) : Lib.IsBuilder 111 5 B b bs W := by
  obtain ⟨hB, p, hp, hb, ho, hn⟩ := h
  rcases hp with rfl | rfl
  · exact .inl ⟨hB, v, hb, ho, hn⟩
  · exact .inr ⟨hB, v, hb, ho, hn⟩
theorem Bu.rowlt {B b : Nat} {v : Value} {bs : List Value} {W : World} (h : Bu B b v bs W) : ∀ k, v.ownBlock = some k → B ≤ k ∧ k < W.heap.size := by
  obtain ⟨_, p, _, _, ho, _⟩ := h
  exact fun k hk => ho.lt k hk
/-- a builder stands where neither its block nor its row is touched -/
theorem Bu.keep {B b : Nat} {v : Value} {bs : List Value} {W W' : World} (h : Bu B b v bs W) (hos : W'.os = W.os) (htape : W'.tape = W.tape) (hout : W'.output = W.output) (hs : W.heap.size ≤ W'.heap.size)
    (hk : ∀ k, k < W.heap.size → (k = b ∨ v.ownBlock = some k) → W'.heap[k]? = W.heap[k]?) : Bu B b v bs W' := by
  have hl := h.lt
  obtain ⟨hB, p, hp, hb, ho, hn⟩ := h
  refine ⟨hB, p, hp, (hk b hl (.inl rfl)).trans hb, ⟨ho.1, ?_⟩, hn⟩
  rcases ho.2 with h0 | ⟨g, cap, cur, hv, hbg, hg, rest⟩
  · exact .inl h0
  · refine .inr ⟨g, cap, cur, hv, hbg, ?_, rest⟩
    rw [hk g (Array.getElem?_eq_some_iff.1 hg).1 (.inr (by rw [hv]; rfl))]
    exact hg
theorem bu_new (B : Nat) (w : World) (hB : B ≤ w.heap.size) : Bu B w.heap.size (.slice none 0 0) [] (w.alloc (.cells #[.pointer none, .slice none 0 0] 111)) :=
  ⟨hB, _, .inl rfl, heap_alloc_new w _, World.ownsRow_nil _ _ _ _, by simp [Value.ownBlock]⟩
theorem frb_set (W : World) (b i : Nat) (v u : Value) : FrB b v W (W.setCell ⟨b, i, none⟩ u) :=
  ⟨by simp [World.setCell], fun k _ hk _ => Below.heap_setCell _ _ _ _ (fun e => hk (by simp [e]))⟩
theorem frb_refl (W : World) (b : Nat) (v : Value) : FrB b v W W := ⟨Nat.le_refl _, fun _ _ _ _ => rfl⟩
theorem frb_trans {b : Nat} {v v' : Value} {W W1 W2 : World} (h : FrB b v W W1) (k : FrB b v' W1 W2) (hv : v'.ownBlock = v.ownBlock ∨ ∃ k, W.heap.size ≤ k ∧ v'.ownBlock = some k) : FrB b v W W2 :=
  ⟨Nat.le_trans h.1 k.1, fun i hi hb hn => (k.2 i (Nat.lt_of_lt_of_le hi h.1) hb (by
    rcases hv with e | ⟨j, hj, e⟩
    · rw [e]; exact hn
    · rw [e]; intro h2; injection h2 with h2; omega)).trans (h.2 i hi hb hn)⟩
set_option maxRecDepth 100000 in
theorem bcc (B b : Nat) (v : Value) (bs : List Value) (w : World) (h : Bu B b v bs w) :
    Calls Try.prog 85 #[.pointer (some ⟨b, 0, none⟩)] w fun e w' => e = .returned (.tuple #[]) ∧ Bp B b v bs w' ∧ FrB b v w w' ∧ Below B w w' ∧ w'.heap.size = w.heap.size := by
  have hlt := h.lt
  obtain ⟨hB, p, hp, hb, ho, hn⟩ := h
  rcases hp with rfl | rfl
  · have c0 : w.cell? ⟨b, 0, none⟩ = some (.pointer none) := by rw [Lib.cell_of_heap hb]; rfl
    have hsh : w.shape? b = some (111, 2) := by simp [World.shape?, hb]
    have hc := Any.Builder_copyCheck_fresh { Try.lays105 with } Try.Builder_Extra_105.toX72 b w c0 hsh (Lib.frozen_of_heap hb 0)
    refine hc.mono ?_
    rintro e w' ⟨rfl, rfl⟩
    refine ⟨rfl, ⟨hB, ?_, ?_, hn⟩, frb_set w b 0 v _, (Below.refl B w).setCell (p := ⟨b, 0, none⟩) hB _, by simp [World.setCell]⟩
    · simp [World.setCell, Array.getElem?_modify, hb]
    · exact ho.kept (row := some b) ⟨rfl, rfl, rfl, by simp [World.setCell], fun k _ hk => Below.heap_setCell _ _ _ _ (fun e => hk (by simp [e]))⟩ (Or.inr hn)
  · have c0 : w.cell? ⟨b, 0, none⟩ = some (.pointer (some ⟨b, 0, none⟩)) := by rw [Lib.cell_of_heap hb]; rfl
    refine (Any.Builder_copyCheck_used { Try.lays105 with } Try.Builder_Extra_105.toX72 b w c0).mono ?_
    rintro e w' ⟨rfl, rfl⟩
    exact ⟨rfl, ⟨hB, hb, ho, hn⟩, frb_refl _ _ _, Below.refl B _, rfl⟩
/-- a new buffer laid into the builder -/
theorem Bp.put {B b : Nat} {v v' : Value} {bs : List Value} {W : World} (hB : B ≤ b) (hb : W.heap[b]? = some (.cells #[.pointer (some ⟨b, 0, none⟩), v] 111 (0, 0))) (ho : W.ownsRow B 5 1 v' bs.length bs) : Bp B b v' bs (W.setCell ⟨b, 1, none⟩ v') := by
  have hn := Lib.ownBlock_ne ho hb (by decide)
  refine ⟨hB, ?_, ?_, hn⟩
  · simp [World.setCell, Array.getElem?_modify, hb]
  · exact ho.kept (row := some b) ⟨rfl, rfl, rfl, by simp [World.setCell], fun k _ hk => Below.heap_setCell _ _ _ _ (fun e => hk (by simp [e]))⟩ (Or.inr hn)
theorem bstr_at {P : Program} (w : World) (base : Nat) (t u ty e : TypeId) (i : TypeInfo) (ht : P.underlying t = some (.slice e)) (hu : P.underlying u = some .string) (hi : P.info? e = some i) (hz : i.zero = some (.int .u8 0))
    (hsize : i.size = 1) (hby : i.bytes = 1)
    (v : Value) (n : Nat) (xs : List Value) (hown : w.ownsRow base e 1 v n xs) (s : ByteArray)
    (h63 : n + s.size ≤ maxLen) (hbytes : n + s.size ≤ 140737488355328) (hbase : base ≤ w.heap.size) :
    ∃ v' w', (Builtin.append_ #[t, u] ty #[v, .string s]).run P w = .ok v' w' ∧ w'.ownsRow base e 1 v' (n + s.size) (xs ++ Lib.strCells s) ∧ w.grownBy w' v.ownBlock ∧
      (v'.ownBlock = v.ownBlock ∨ ∃ k, w.heap.size ≤ k ∧ v'.ownBlock = some k) := by
  obtain ⟨v', w', hr, ho, hg, _⟩ := Lib.run_append_own_string (P := P) w base t u ty e i ht hu hi hz hsize hby v n xs hown s h63 hbytes hbase
  refine ⟨v', w', hr, ho, hg, ?_⟩
  have hxl : xs.length = n := by simpa using hown.1
  rcases hown.2 with ⟨rfl, rfl⟩ | ⟨g, cap, cur, rfl, hbg, hgb, hnc, hcm, hcs, htake⟩
  · have hx : xs = [] := List.eq_nil_of_length_eq_zero hxl
    subst hx
    obtain ⟨v2, w2, hr2, ho2, _, _⟩ := Lib.run_append_own_string (P := P) w w.heap.size t u ty e i ht hu hi hz hsize hby (.slice none 0 0) 0 [] (World.ownsRow_nil _ _ _ _) s h63 hbytes (Nat.le_refl _)
    have he := hr.symm.trans hr2
    simp only [Result.ok.injEq] at he
    obtain ⟨rfl, rfl⟩ := he
    rcases ho2.2 with ⟨h0, _⟩ | ⟨g, cap, cur, hv, hbg, _⟩
    · exact .inl (by rw [h0])
    · exact .inr ⟨g, hbg, by rw [hv]; rfl⟩
  · by_cases hroom : n + s.size ≤ cap
    · have hcs' : cur.size = cap := by simpa using hcs
      have hr2 := Lib.run_append_room_string (P := P) w t u ty e i ht hu hi hsize g n cap cur hgb s hroom (by omega)
      have he := hr.symm.trans hr2
      simp only [Result.ok.injEq] at he
      exact .inl (by rw [he.1]; rfl)
    · have holds : ∀ j u, xs[j]? = some u → w.cell? ((⟨g, 0, none⟩ : Addr).add j) = some u := hown.cells (g := g) rfl
      have hsmall : n + s.size ≤ 9223372036854775807 := by simp only [maxLen] at h63; omega
      have hr2 := Lib.run_append_grow_string (P := P) w t u ty e i (.int .u8 0) ht hu hi hz ⟨g, 0, none⟩ n cap xs (by rw [hsize]; simpa using hxl) holds s (by omega) (by omega) (by rw [hby]; exact growslice_fits (by omega) (by omega))
      have he := hr.symm.trans hr2
      simp only [Result.ok.injEq] at he
      exact .inr ⟨w.heap.size, Nat.le_refl _, by rw [he.1]; rfl⟩
theorem wpList_bstr_at {P : Program} {w : World} {ops : Array Oper} {rest : List Oper} {o : Oper} {a : Act} {Q : Exit → Act → World → Prop} (hgd : o.guard = none) (sl x : Operand) (t u : TypeId)
    (ho : o.op = .call { callee := .builtin .append, args := #[sl, x], argTypes := #[t, u] })
    (base : Nat) (e : TypeId) (i : TypeInfo) (ht : P.underlying t = some (.slice e)) (hu : P.underlying u = some .string) (hi : P.info? e = some i) (hz : i.zero = some (.int .u8 0))
    (hsize : i.size = 1) (hby : i.bytes = 1)
    (v : Value) (n : Nat) (xs : List Value) (hs : a.eval sl = v) (hown : w.ownsRow base e 1 v n xs) (s : ByteArray) (hx : a.eval x = .string s)
    (h63 : n + s.size ≤ maxLen) (hbytes : n + s.size ≤ 140737488355328) (hbase : base ≤ w.heap.size)
    (h : ∀ v' w', w'.ownsRow base e 1 v' (n + s.size) (xs ++ Lib.strCells s) → w.grownBy w' v.ownBlock → (v'.ownBlock = v.ownBlock ∨ ∃ k, w.heap.size ≤ k ∧ v'.ownBlock = some k) → wpList P ops Q rest (a.put o.dst v') w') : wpList P ops Q (o :: rest) a w := by
  refine wpList_plain hgd fun K hK => ?_
  obtain ⟨v', w', hr, h2, h3, h4⟩ := bstr_at (P := P) w base t u o.type e i ht hu hi hz hsize hby v n xs hown s h63 hbytes hbase
  unfold Oper.wp execOp
  simp only [ho, resolve, invoke, builtin, Sem.run_bind, Sem.run_pure, Result.andThen_ok, List.map_toArray, List.map_cons, List.map_nil, hs, hx, hr]
  exact hK _ _ (h v' w' h2 h3 h4)
theorem bu8_parts : ∃ i, Try.prog.info? 5 = some i ∧ i.zero = some (.int .u8 0) ∧ i.size = 1 ∧ i.bytes = 1 := by
  obtain ⟨i0, hi, hz0, hz1, hz2⟩ := info_parts Try.Builder_Extra_105.infoByte
  exact ⟨i0, hi, hz0, hz1, hz2⟩
set_option maxHeartbeats 2000000 in
set_option maxRecDepth 100000 in
theorem bu_writeString (B b : Nat) (v : Value) (bs : List Value) (s : ByteArray) (w : World) (h : Bu B b v bs w) (hlen : bs.length + s.size ≤ 140737488355328) (hBw : B ≤ w.heap.size) :
    Calls Try.prog 62 #[.pointer (some ⟨b, 0, none⟩), .string s] w fun e w' => e = .returned (.tuple #[.int .i64 s.size, .nilIface]) ∧
      ∃ v', Bu B b v' (bs ++ Lib.strCells s) w' ∧ FrB b v w w' ∧ Below B w w' ∧ (v'.ownBlock = v.ownBlock ∨ ∃ k, w.heap.size ≤ k ∧ v'.ownBlock = some k) := by
  obtain ⟨i0, hi, hz0, hz1, hz2⟩ := bu8_parts
  have hlt := h.lt
  have hcc := bcc B b v bs w h
  go_enter Try.func62, Try.ntmps62
  go_wp2_with fail
  refine hcc.mono ?_
  rintro e w1 ⟨rfl, ⟨hB, hbk, hown, hne⟩, hfr1, hb1, hsz⟩
  have c0 : w1.cell? ⟨b, 0, none⟩ = some (.pointer (some ⟨b, 0, none⟩)) := by rw [Lib.cell_of_heap hbk]; rfl
  have c1 : w1.cell? ⟨b, 1, none⟩ = some v := by rw [Lib.cell_of_heap hbk]; rfl
  go_wp2_with (at_builtin; refine wpList_bstr_at rfl _ _ 43 9 rfl B 5 i0 Try.underlying43 Try.underlying9 hi hz0 hz1 hz2 _ _ _ rfl hown s rfl ?c3 ?c4 ?c5 ?_)
  case c3 => unfold maxLen; omega
  case c4 => omega
  case c5 => omega
  intro v' w2 hown' hgrow hat
  have hb2 : w2.heap[b]? = some (.cells #[.pointer (some ⟨b, 0, none⟩), v] 111 (0, 0)) := by
    rw [hgrow.block b (by omega) (fun e => hne e.symm)]
    exact hbk
  have d0 : w2.cell? ⟨b, 0, none⟩ = some (.pointer (some ⟨b, 0, none⟩)) := by rw [Lib.cell_of_heap hb2]; rfl
  have d1 : w2.cell? ⟨b, 1, none⟩ = some v := by rw [Lib.cell_of_heap hb2]; rfl
  have f1 : w2.frozen? ⟨b, 1, none⟩ = false := Lib.frozen_of_heap hb2 1
  obtain ⟨ao, n', cap, rfl⟩ : ∃ ao n' cap, v' = .slice ao n' cap := by
    rcases hown'.2 with ⟨hv, _⟩ | ⟨g, cap, cur, hv, _⟩
    · exact ⟨_, _, _, hv⟩
    · exact ⟨_, _, _, hv⟩
  have HAT := Lib.hid hat
  clear hat
  go_wp2
  go_ret2
  have hfr2 : FrB b v w1 w2 := ⟨hgrow.size, fun k hk _ hn => hgrow.block k hk (fun e => hn e.symm)⟩
  refine ⟨rfl, .slice ao n' cap, (Bp.put (bs := bs ++ Lib.strCells s) hB hb2 (by simpa [Lib.strCells_length] using hown')).bu, ?_, ?_, HAT.out⟩
  · exact frb_trans (frb_trans hfr1 hfr2 (.inl rfl)) (frb_set w2 b 1 v _) (.inl rfl)
  · exact (hb1.grown hgrow (by omega) (fun k hk => (hown.lt k hk).1)).setCell (p := ⟨b, 1, none⟩) hB _
theorem frb_freeze {W W1 : World} {b g : Nat} {v : Value} (h : FrB b v W W1) (hg : v.ownBlock = some g) (n : Nat) : FrB b v W (W1.freeze ⟨g, 0, none⟩ n) := by
  unfold World.freeze
  by_cases h0 : n = 0
  · rw [if_pos h0]; exact h
  · rw [if_neg h0]
    refine ⟨by simp only [Array.size_modify]; exact h.1, fun k hk hb hn => ?_⟩
    have h2 := h.2 k hk hb hn
    rw [← h2]
    have hne : g ≠ k := fun e => hn (by rw [hg, e])
    simp [Array.getElem?_modify, hne]
set_option maxHeartbeats 2000000 in
set_option maxRecDepth 100000 in
theorem bu_string (B b : Nat) (v : Value) (l : List UInt8) (w : World) (h : Bu B b v (Lib.byteCells l) w) (h0 : l ≠ []) :
    Calls Try.prog 59 #[.pointer (some ⟨b, 0, none⟩)] w fun e w' => e = .returned (.string ⟨l.toArray⟩) ∧ Below B w w' ∧ FrB b v w w' := by
  obtain ⟨hB, p, -, hbk, hown, hne⟩ := h
  have hl0 : l.length ≠ 0 := by simpa using h0
  rw [Lib.byteCells_length] at hown
  obtain ⟨g, cap, cur, rfl, hbg, hg, hnc, hcm, hcs, htake⟩ : ∃ g cap cur, v = .slice (some ⟨g, 0, none⟩) l.length cap ∧ B ≤ g ∧ w.heap[g]? = some (.cells cur 5 (0, 0)) ∧ l.length ≤ cap ∧ cap ≤ maxLen ∧ cur.size = cap * 1 ∧ cur.toList.take (l.length * 1) = Lib.byteCells l := by
    rcases hown.2 with ⟨_, hz⟩ | ⟨g, cap, cur, hv, r⟩
    · exact absurd hz hl0
    · exact ⟨g, cap, cur, hv, r⟩
  have c1 : w.drew.cell? ⟨b, 1, none⟩ = some (.slice (some ⟨g, 0, none⟩) l.length cap) := by
    have : w.drew.heap[b]? = some (.cells #[p, .slice (some ⟨g, 0, none⟩) l.length cap] 111 (0, 0)) := hbk
    rw [Lib.cell_of_heap this]; rfl
  have hSD : (Builtin.unsafeSliceData_ #[43] 145 #[.slice (some ⟨g, 0, none⟩) l.length cap]).run Try.prog w.drew = .ok (.pointer (some ⟨g, 0, none⟩)) w.drew :=
    Lib.run_unsafeSliceData_row _ _ _ _ _ _ (by omega)
  have hUS : (Builtin.unsafeString_ #[145, 3] 9 #[.pointer (some ⟨g, 0, none⟩), .int .i64 l.length]).run Try.prog w.drew = .ok (.string ⟨l.toArray⟩) (w.drew.freeze ⟨g, 0, none⟩ l.length) := by
    refine Lib.run_unsafeString_row w.drew 145 3 9 5 Try.lays169.t127 Try.Builder_Extra_169.cellsByte g cur.size (by have hg' : w.drew.heap[g]? = some (.cells cur 5 (0, 0)) := hg; simp [World.shape?, hg']) l h0 (by omega) (by unfold maxLen at hcm; omega) ?_
    intro j x hx
    have := hown.cells (g := g) rfl j (.int .u8 x.toNat) (by simp [Lib.byteCells, hx])
    exact this
  have HB := Lib.hid hbg
  clear htake hcs hcm hnc hg hown hne hbk hB
  go_enter Try.func59, Try.ntmps59
  go_wp2
  go_region
  all_goals (go_wp2; go_ret; exact ⟨rfl, Lib.below_freeze (Below.drew (Below.refl B w)) (p := ⟨g, 0, none⟩) HB.out _, frb_freeze (frb_refl w.drew b _) rfl _⟩)
end Go.Proofs.Ythipaabjmlgjmaa
namespace Go.Proofs.Ythipaabjmlgjmaa
open Go.RowKit
theorem headL_lt (N F P : Nat) : ∀ x ∈ headL N F P, x < 256 := by
  intro x hx
  unfold headL at hx
  rcases List.mem_append.1 hx with h | h
  · rcases List.mem_append.1 h with h | h
    · exact headA_lt _ _ _ x h
    · exact text_lt _ _ x h
  · rw [(List.mem_replicate.1 h).2]; decide
theorem frameL_lt (p : Int × Int) (pg cm salt : Nat) (D : List Nat) (hD : ∀ x ∈ D, x < 256) : ∀ x ∈ frameL p pg cm salt D, x < 256 := by
  intro x hx
  unfold frameL at hx
  rcases List.mem_append.1 hx with h | h
  · rcases List.mem_append.1 h with h | h
    · rcases List.mem_append.1 h with h | h
      · exact frameA_lt _ _ _ x h
      · exact text_lt _ _ x h
    · rw [(List.mem_replicate.1 h).2]; decide
  · exact hD x h
theorem bts_headL (N F P : Nat) : bts (bstr (headL N F P)) = headL N F P := bts_bstr _ (headL_lt N F P)
theorem bts_frameL (p : Int × Int) (pg cm salt : Nat) (d : ByteArray) : bts (bstr (frameL p pg cm salt (bts d))) = frameL p pg cm salt (bts d) := bts_bstr _ (frameL_lt _ _ _ _ _ (bts_lt d))
theorem headL_size (N F P : Nat) : (bstr (headL N F P)).size = 64 := by rw [bstr_size, headL_length]
theorem frameL_size (p : Int × Int) (pg cm salt : Nat) (d : ByteArray) (hd : d.size = 512) : (bstr (frameL p pg cm salt (bts d))).size = 576 := by rw [bstr_size, frameL_length _ _ _ _ _ (by rw [bts_length]; exact hd)]
theorem fit_start (N : Nat) : Fit (startP N) := fit_addL fit0
theorem frame_cut (p : Int × Int) (pg cm salt : Nat) (d x : ByteArray) (hd : d.size = 512) : (bstr (frameL p pg cm salt (bts d)) ++ x).extract 64 576 = d := by
  have hD : (bts d).length = 512 := by rw [bts_length]; exact hd
  have h := bts_cutn (bstr (frameL p pg cm salt (bts d)) ++ x) 64 512
  have h3 := (frame_parts p pg cm salt (bts d) (bts x) hD).2.2.1
  unfold fD at h3
  rw [bts_app, bts_frameL, h3] at h
  rw [← bstr_bts ((bstr (frameL p pg cm salt (bts d)) ++ x).extract 64 576), h, bstr_bts]
theorem take_put (p p' : Int × Int) (pg cm salt salt' : Nat) (d x : ByteArray) (hp : Fit p) (hp' : Fit p') (hs : salt < 18446744073709551616) (h0 : 0 < pg) (hpg : pg ≤ 256) (hcm : cm ≤ 256) (hd : d.size = 512) :
    (fErr p' salt' (bts (bstr (frameL p pg cm salt (bts d)) ++ x)) = 0 ↔ p' = p ∧ salt' = salt) ∧ (fErr p' salt' (bts (bstr (frameL p pg cm salt (bts d)) ++ x)) = 0 →
      tfRet p' salt' (bstr (frameL p pg cm salt (bts d)) ++ x) = .tuple #[.agg #[.int .i64 pg, .int .i64 cm, .string d], .agg #[.int .u32 (frameQ p pg cm salt (bts d)).1, .int .u32 (frameQ p pg cm salt (bts d)).2], .int .i64 0]) := by
  have hD : (bts d).length = 512 := by rw [bts_length]; exact hd
  obtain ⟨b1, b2, b3, b4, b5⟩ := f_back (p := p) (p' := p') (pg := pg) (cm := cm) (salt := salt) (salt' := salt') (D := bts d) (bts x) hp hp' hD hs h0 hpg hcm
  unfold tfRet
  rw [frame_cut p pg cm salt d x hd, bts_app, bts_frameL]
  refine ⟨b1, fun h => ?_⟩
  rw [if_pos h, b2, b3, b5, (b1.1 h).1]
theorem app_none (s : ByteArray) : s ++ ⟨#[]⟩ = s := ByteArray.append_empty
end Go.Proofs.Ythipaabjmlgjmaa
