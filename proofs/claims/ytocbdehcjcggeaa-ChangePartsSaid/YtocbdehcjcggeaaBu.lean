/- strings.Builder, where several of them stand beside each other: what a write leaves as it was. Conditions: those of each lemma. -/
import Derived.Test.YtocbdehcjcggeaaProg
import Derived.Test.YtocbdehcjcggeaaShelf
import Derived.Test.YtocbdehcjcggeaaBase
import Derived.Test.YtocbdehcjcggeaaWords
import Derived.Maps.AppendAt
import Derived.Lib.AppendStr
import Derived.Outline
import Derived.Test.YtocbdehcjcggeaaLay166
namespace Go.Proofs.Ytocbdehcjcggeaa
open Go.RowKit
set_option linter.unusedVariables false
def Bu (B b : Nat) (v : Value) (bs : List Value) (W : World) : Prop :=
  B ≤ b ∧ ∃ p, (p = .pointer none ∨ p = .pointer (some ⟨b, 0, none⟩)) ∧ W.heap[b]? = some (.cells #[p, v] 47 (0, 0)) ∧ W.ownsRow B 5 1 v bs.length bs ∧ v.ownBlock ≠ some b
def Bp (B b : Nat) (v : Value) (bs : List Value) (W : World) : Prop :=
  B ≤ b ∧ W.heap[b]? = some (.cells #[.pointer (some ⟨b, 0, none⟩), v] 47 (0, 0)) ∧ W.ownsRow B 5 1 v bs.length bs ∧ v.ownBlock ≠ some b
def Fr (b : Nat) (v : Value) (W W' : World) : Prop := W.heap.size ≤ W'.heap.size ∧ ∀ k, k < W.heap.size → k ≠ b → v.ownBlock ≠ some k → W'.heap[k]? = W.heap[k]?
theorem Bp.bu {B b : Nat} {v : Value} {bs : List Value} {W : World} (h : Bp B b v bs W) : Bu B b v bs W := ⟨h.1, _, .inr rfl, h.2.1, h.2.2.1, h.2.2.2⟩
theorem Bu.lt {B b : Nat} {v : Value} {bs : List Value} {W : World} (h : Bu B b v bs W) : b < W.heap.size := by
  obtain ⟨_, p, _, hb, _⟩ := h
  rcases Nat.lt_or_ge b W.heap.size with h' | h'
  · exact h'
  · simp [Array.getElem?_eq_none h'] at hb
theorem Bu.old {B b : Nat} {v : Value} {bs : List Value} {W : World} (h : Bu B b v bs W) : Lib.IsBuilder 47 5 B b bs W := by
  obtain ⟨hB, p, hp, hb, ho, hn⟩ := h
  rcases hp with rfl | rfl
  · exact .inl ⟨hB, v, hb, ho, hn⟩
  · exact .inr ⟨hB, v, hb, ho, hn⟩
theorem Bu.rowlt {B b : Nat} {v : Value} {bs : List Value} {W : World} (h : Bu B b v bs W) : ∀ k, v.ownBlock = some k → B ≤ k ∧ k < W.heap.size := by
  obtain ⟨_, p, _, _, ho, _⟩ := h
  exact fun k hk => ho.lt k hk
/-- a builder stands where neither its block nor its row is touched -/
theorem Bu.keep {B b : Nat} {v : Value} {bs : List Value} {W W' : World} (h : Bu B b v bs W) (hos : W'.os = W.os) (htape : W'.tape = W.tape) (hout : W'.output = W.output) (hs : W.heap.size ≤ W'.heap.size)
    (hk : ∀ k, k < W.heap.size → (k = b ∨ v.ownBlock = some k) → W'.heap[k]? = W.heap[k]?) : Bu B b v bs W' := by
  have hl := h.lt
  obtain ⟨hB, p, hp, hb, ho, hn⟩ := h
  refine ⟨hB, p, hp, (hk b hl (.inl rfl)).trans hb, ⟨ho.1, ?_⟩, hn⟩
  rcases ho.2 with h0 | ⟨g, cap, cur, hv, hbg, hg, rest⟩
  · exact .inl h0
  · refine .inr ⟨g, cap, cur, hv, hbg, ?_, rest⟩
    rw [hk g (Array.getElem?_eq_some_iff.1 hg).1 (.inr (by rw [hv]; rfl))]
    exact hg
theorem bu_new (B : Nat) (w : World) (hB : B ≤ w.heap.size) : Bu B w.heap.size (.slice none 0 0) [] (w.alloc (.cells #[.pointer none, .slice none 0 0] 47)) :=
  ⟨hB, _, .inl rfl, heap_alloc_new w _, World.ownsRow_nil _ _ _ _, by simp [Value.ownBlock]⟩
theorem fr_set (W : World) (b i : Nat) (v u : Value) : Fr b v W (W.setCell ⟨b, i, none⟩ u) :=
  ⟨by simp [World.setCell], fun k _ hk _ => Below.heap_setCell _ _ _ _ (fun e => hk (by simp [e]))⟩
theorem fr_refl (W : World) (b : Nat) (v : Value) : Fr b v W W := ⟨Nat.le_refl _, fun _ _ _ _ => rfl⟩
theorem fr_trans {b : Nat} {v v' : Value} {W W1 W2 : World} (h : Fr b v W W1) (k : Fr b v' W1 W2) (hv : v'.ownBlock = v.ownBlock ∨ ∃ k, W.heap.size ≤ k ∧ v'.ownBlock = some k) : Fr b v W W2 :=
  ⟨Nat.le_trans h.1 k.1, fun i hi hb hn => (k.2 i (Nat.lt_of_lt_of_le hi h.1) hb (by
    rcases hv with e | ⟨j, hj, e⟩
    · rw [e]; exact hn
    · rw [e]; intro h2; injection h2 with h2; omega)).trans (h.2 i hi hb hn)⟩
set_option maxRecDepth 100000 in
theorem cc (B b : Nat) (v : Value) (bs : List Value) (w : World) (h : Bu B b v bs w) :
    Calls Try.prog 47 #[.pointer (some ⟨b, 0, none⟩)] w fun e w' => e = .returned (.tuple #[]) ∧ Bp B b v bs w' ∧ Fr b v w w' ∧ Below B w w' ∧ w'.heap.size = w.heap.size := by
  have hlt := h.lt
  obtain ⟨hB, p, hp, hb, ho, hn⟩ := h
  rcases hp with rfl | rfl
  · have c0 : w.cell? ⟨b, 0, none⟩ = some (.pointer none) := by rw [Lib.cell_of_heap hb]; rfl
    have hsh : w.shape? b = some (47, 2) := by simp [World.shape?, hb]
    have hc := Any.Builder_copyCheck_fresh { wsLays with } wsExtra.toX72 b w c0 hsh (Lib.frozen_of_heap hb 0)
    refine hc.mono ?_
    rintro e w' ⟨rfl, rfl⟩
    refine ⟨rfl, ⟨hB, ?_, ?_, hn⟩, fr_set w b 0 v _, (Below.refl B w).setCell (p := ⟨b, 0, none⟩) hB _, by simp [World.setCell]⟩
    · simp [World.setCell, Array.getElem?_modify, hb]
    · exact ho.kept (row := some b) ⟨rfl, rfl, rfl, by simp [World.setCell], fun k _ hk => Below.heap_setCell _ _ _ _ (fun e => hk (by simp [e]))⟩ (Or.inr hn)
  · have c0 : w.cell? ⟨b, 0, none⟩ = some (.pointer (some ⟨b, 0, none⟩)) := by rw [Lib.cell_of_heap hb]; rfl
    refine (Any.Builder_copyCheck_used { wsLays with } wsExtra.toX72 b w c0).mono ?_
    rintro e w' ⟨rfl, rfl⟩
    exact ⟨rfl, ⟨hB, hb, ho, hn⟩, fr_refl _ _ _, Below.refl B _, rfl⟩
/-- a new buffer laid into the builder -/
theorem Bp.put {B b : Nat} {v v' : Value} {bs : List Value} {W : World} (hB : B ≤ b) (hb : W.heap[b]? = some (.cells #[.pointer (some ⟨b, 0, none⟩), v] 47 (0, 0))) (ho : W.ownsRow B 5 1 v' bs.length bs) : Bp B b v' bs (W.setCell ⟨b, 1, none⟩ v') := by
  have hn := Lib.ownBlock_ne ho hb (by decide)
  refine ⟨hB, ?_, ?_, hn⟩
  · simp [World.setCell, Array.getElem?_modify, hb]
  · exact ho.kept (row := some b) ⟨rfl, rfl, rfl, by simp [World.setCell], fun k _ hk => Below.heap_setCell _ _ _ _ (fun e => hk (by simp [e]))⟩ (Or.inr hn)
theorem str_at {P : Program} (w : World) (base : Nat) (t u ty e : TypeId) (i : TypeInfo) (ht : P.underlying t = some (.slice e)) (hu : P.underlying u = some .string) (hi : P.info? e = some i) (hz : i.zero = some (.int .u8 0))
    (hsize : i.size = 1) (hby : i.bytes = 1)
    (v : Value) (n : Nat) (xs : List Value) (hown : w.ownsRow base e 1 v n xs) (s : ByteArray)
    (h63 : n + s.size ≤ maxLen) (hbytes : n + s.size ≤ 140737488355328) (hbase : base ≤ w.heap.size) :
    ∃ v' w', (Builtin.append_ #[t, u] ty #[v, .string s]).run P w = .ok v' w' ∧ w'.ownsRow base e 1 v' (n + s.size) (xs ++ Lib.strCells s) ∧ w.grownBy w' v.ownBlock ∧
      (v'.ownBlock = v.ownBlock ∨ ∃ k, w.heap.size ≤ k ∧ v'.ownBlock = some k) := by
  obtain ⟨v', w', hr, ho, hg, _⟩ := Lib.run_append_own_string (P := P) w base t u ty e i ht hu hi hz hsize hby v n xs hown s h63 hbytes hbase
  refine ⟨v', w', hr, ho, hg, ?_⟩
  have hxl : xs.length = n := by simpa using hown.1
  rcases hown.2 with ⟨rfl, rfl⟩ | ⟨g, cap, cur, rfl, hbg, hgb, hnc, hcm, hcs, htake⟩
  · have hx : xs = [] := List.eq_nil_of_length_eq_zero hxl
    subst hx
    obtain ⟨v2, w2, hr2, ho2, _, _⟩ := Lib.run_append_own_string (P := P) w w.heap.size t u ty e i ht hu hi hz hsize hby (.slice none 0 0) 0 [] (World.ownsRow_nil _ _ _ _) s h63 hbytes (Nat.le_refl _)
    have he := hr.symm.trans hr2
    simp only [Result.ok.injEq] at he
    obtain ⟨rfl, rfl⟩ := he
    rcases ho2.2 with ⟨h0, _⟩ | ⟨g, cap, cur, hv, hbg, _⟩
    · exact .inl (by rw [h0])
    · exact .inr ⟨g, hbg, by rw [hv]; rfl⟩
  · by_cases hroom : n + s.size ≤ cap
    · have hcs' : cur.size = cap := by simpa using hcs
      have hr2 := Lib.run_append_room_string (P := P) w t u ty e i ht hu hi hsize g n cap cur hgb s hroom (by omega)
      have he := hr.symm.trans hr2
      simp only [Result.ok.injEq] at he
      exact .inl (by rw [he.1]; rfl)
    · have holds : ∀ j u, xs[j]? = some u → w.cell? ((⟨g, 0, none⟩ : Addr).add j) = some u := hown.cells (g := g) rfl
      have hsmall : n + s.size ≤ 9223372036854775807 := by simp only [maxLen] at h63; omega
      have hr2 := Lib.run_append_grow_string (P := P) w t u ty e i (.int .u8 0) ht hu hi hz ⟨g, 0, none⟩ n cap xs (by rw [hsize]; simpa using hxl) holds s (by omega) (by omega) (by rw [hby]; exact growslice_fits (by omega) (by omega))
      have he := hr.symm.trans hr2
      simp only [Result.ok.injEq] at he
      exact .inr ⟨w.heap.size, Nat.le_refl _, by rw [he.1]; rfl⟩
theorem wpList_str_at {P : Program} {w : World} {ops : Array Oper} {rest : List Oper} {o : Oper} {a : Act} {Q : Exit → Act → World → Prop} (hgd : o.guard = none) (sl x : Operand) (t u : TypeId)
    (ho : o.op = .call { callee := .builtin .append, args := #[sl, x], argTypes := #[t, u] })
    (base : Nat) (e : TypeId) (i : TypeInfo) (ht : P.underlying t = some (.slice e)) (hu : P.underlying u = some .string) (hi : P.info? e = some i) (hz : i.zero = some (.int .u8 0))
    (hsize : i.size = 1) (hby : i.bytes = 1)
    (v : Value) (n : Nat) (xs : List Value) (hs : a.eval sl = v) (hown : w.ownsRow base e 1 v n xs) (s : ByteArray) (hx : a.eval x = .string s)
    (h63 : n + s.size ≤ maxLen) (hbytes : n + s.size ≤ 140737488355328) (hbase : base ≤ w.heap.size)
    (h : ∀ v' w', w'.ownsRow base e 1 v' (n + s.size) (xs ++ Lib.strCells s) → w.grownBy w' v.ownBlock → (v'.ownBlock = v.ownBlock ∨ ∃ k, w.heap.size ≤ k ∧ v'.ownBlock = some k) → wpList P ops Q rest (a.put o.dst v') w') : wpList P ops Q (o :: rest) a w := by
  refine wpList_plain hgd fun K hK => ?_
  obtain ⟨v', w', hr, h2, h3, h4⟩ := str_at (P := P) w base t u o.type e i ht hu hi hz hsize hby v n xs hown s h63 hbytes hbase
  unfold Oper.wp execOp
  simp only [ho, resolve, invoke, builtin, Sem.run_bind, Sem.run_pure, Result.andThen_ok, List.map_toArray, List.map_cons, List.map_nil, hs, hx, hr]
  exact hK _ _ (h v' w' h2 h3 h4)
theorem u8_parts : ∃ i, Try.prog.info? 5 = some i ∧ i.zero = some (.int .u8 0) ∧ i.size = 1 ∧ i.bytes = 1 := by
  obtain ⟨i0, hi, hz0, hz1, hz2⟩ := info_parts wsExtra.infoByte
  exact ⟨i0, hi, hz0, hz1, hz2⟩
set_option maxHeartbeats 2000000 in
set_option maxRecDepth 100000 in
theorem bu_writeString (B b : Nat) (v : Value) (bs : List Value) (s : ByteArray) (w : World) (h : Bu B b v bs w) (hlen : bs.length + s.size ≤ 140737488355328) (hBw : B ≤ w.heap.size) :
    Calls Try.prog 23 #[.pointer (some ⟨b, 0, none⟩), .string s] w fun e w' => e = .returned (.tuple #[.int .i64 s.size, .nilIface]) ∧
      ∃ v', Bu B b v' (bs ++ Lib.strCells s) w' ∧ Fr b v w w' ∧ Below B w w' ∧ (v'.ownBlock = v.ownBlock ∨ ∃ k, w.heap.size ≤ k ∧ v'.ownBlock = some k) := by
  obtain ⟨i0, hi, hz0, hz1, hz2⟩ := u8_parts
  have hlt := h.lt
  have hcc := cc B b v bs w h
  go_enter Try.func23, Try.ntmps23
  go_wp2_with fail
  refine hcc.mono ?_
  rintro e w1 ⟨rfl, ⟨hB, hbk, hown, hne⟩, hfr1, hb1, hsz⟩
  have c0 : w1.cell? ⟨b, 0, none⟩ = some (.pointer (some ⟨b, 0, none⟩)) := by rw [Lib.cell_of_heap hbk]; rfl
  have c1 : w1.cell? ⟨b, 1, none⟩ = some v := by rw [Lib.cell_of_heap hbk]; rfl
  go_wp2_with (at_builtin; refine wpList_str_at rfl _ _ 45 9 rfl B 5 i0 Try.underlying45 Try.underlying9 hi hz0 hz1 hz2 _ _ _ rfl hown s rfl ?c3 ?c4 ?c5 ?_)
  case c3 => unfold maxLen; omega
  case c4 => omega
  case c5 => omega
  intro v' w2 hown' hgrow hat
  have hb2 : w2.heap[b]? = some (.cells #[.pointer (some ⟨b, 0, none⟩), v] 47 (0, 0)) := by
    rw [hgrow.block b (by omega) (fun e => hne e.symm)]
    exact hbk
  have d0 : w2.cell? ⟨b, 0, none⟩ = some (.pointer (some ⟨b, 0, none⟩)) := by rw [Lib.cell_of_heap hb2]; rfl
  have d1 : w2.cell? ⟨b, 1, none⟩ = some v := by rw [Lib.cell_of_heap hb2]; rfl
  have f1 : w2.frozen? ⟨b, 1, none⟩ = false := Lib.frozen_of_heap hb2 1
  obtain ⟨ao, n', cap, rfl⟩ : ∃ ao n' cap, v' = .slice ao n' cap := by
    rcases hown'.2 with ⟨hv, _⟩ | ⟨g, cap, cur, hv, _⟩
    · exact ⟨_, _, _, hv⟩
    · exact ⟨_, _, _, hv⟩
  have HAT := Lib.hid hat
  clear hat
  go_wp2
  go_ret2
  have hfr2 : Fr b v w1 w2 := ⟨hgrow.size, fun k hk _ hn => hgrow.block k hk (fun e => hn e.symm)⟩
  refine ⟨rfl, .slice ao n' cap, (Bp.put (bs := bs ++ Lib.strCells s) hB hb2 (by simpa [Lib.strCells_length] using hown')).bu, ?_, ?_, HAT.out⟩
  · exact fr_trans (fr_trans hfr1 hfr2 (.inl rfl)) (fr_set w2 b 1 v _) (.inl rfl)
  · exact (hb1.grown hgrow (by omega) (fun k hk => (hown.lt k hk).1)).setCell (p := ⟨b, 1, none⟩) hB _
set_option maxHeartbeats 2000000 in
set_option maxRecDepth 100000 in
theorem bu_writeByte (B b : Nat) (v : Value) (bs : List Value) (c : Int) (w : World) (h : Bu B b v bs w) (hlen : bs.length + 1 ≤ 140737488355328) (hBw : B ≤ w.heap.size) :
    Calls Try.prog 50 #[.pointer (some ⟨b, 0, none⟩), .int .u8 c] w fun e w' => e = .returned .nilIface ∧
      ∃ v', Bu B b v' (bs ++ [.int .u8 c]) w' ∧ Fr b v w w' ∧ Below B w w' ∧ (v'.ownBlock = v.ownBlock ∨ ∃ k, w.heap.size ≤ k ∧ v'.ownBlock = some k) := by
  obtain ⟨i0, hi, hz0, hz1, hz2⟩ := u8_parts
  have hlt := h.lt
  have hcc := cc B b v bs w h
  go_enter Try.func50, Try.ntmps50
  go_wp2_with fail
  refine hcc.mono ?_
  rintro e w1 ⟨rfl, ⟨hB, hbk, hown, hne⟩, hfr1, hb1, hsz⟩
  have c0 : w1.cell? ⟨b, 0, none⟩ = some (.pointer (some ⟨b, 0, none⟩)) := by rw [Lib.cell_of_heap hbk]; rfl
  have c1 : w1.cell? ⟨b, 1, none⟩ = some v := by rw [Lib.cell_of_heap hbk]; rfl
  have hrd : Reads (w1.alloc (.cells #[.int .u8 c] 5)) (w1.heap.size + 1) 1 (some ⟨w1.heap.size, 0, none⟩) 1 [.int .u8 c] := by
    refine ⟨rfl, fun _ => ⟨_, rfl, by simp, fun j u hj => ?_⟩⟩
    match j, hj with
    | 0, hj => simp at hj; subst hj; simp [Addr.add]
  have HSZ := Lib.hid hsz
  clear hsz
  have hownA : (w1.alloc (.cells #[.int .u8 c] 5)).ownsRow B 5 1 v bs.length bs := hown.alloc _
  go_wp2_with (at_builtin; refine wpList_append_any _ rfl (.tmp 11) (.tmp 13) 45 rfl B 5 i0 (.int .u8 0) 1 1 Try.underlying45 hi hz0 hz1 hz2 rfl (by decide) v bs.length bs rfl hownA (w1.heap.size + 1) (some ⟨w1.heap.size, 0, none⟩) 1 1 [.int .u8 c] rfl hrd (by intro u hu; simp at hu; subst hu; rfl) ?c3 ?c4 ?c5 ?_)
  case c3 => unfold maxLen; omega
  case c4 => omega
  case c5 => have := HSZ.out; simp; omega
  intro v' w2 hown' hgrow hat
  have hb2 : w2.heap[b]? = some (.cells #[.pointer (some ⟨b, 0, none⟩), v] 47 (0, 0)) := by
    rw [hgrow.block b (by have := HSZ.out; simp; omega) (fun e => hne e.symm), Lib.alloc_old w1 _ b (by have := HSZ.out; omega)]
    exact hbk
  have d0 : w2.cell? ⟨b, 0, none⟩ = some (.pointer (some ⟨b, 0, none⟩)) := by rw [Lib.cell_of_heap hb2]; rfl
  have d1 : w2.cell? ⟨b, 1, none⟩ = some v := by rw [Lib.cell_of_heap hb2]; rfl
  have f1 : w2.frozen? ⟨b, 1, none⟩ = false := Lib.frozen_of_heap hb2 1
  obtain ⟨g, cap, rfl⟩ : ∃ g cap, v' = .slice (some ⟨g, 0, none⟩) (bs.length + 1) cap := by
    rcases hown'.2 with ⟨_, h0⟩ | ⟨g, cap, cur, hv, _⟩
    · omega
    · exact ⟨g, cap, hv⟩
  have hat' : (Value.slice (some ⟨g, 0, none⟩) (bs.length + 1) cap).ownBlock = v.ownBlock ∨ ∃ k, w.heap.size ≤ k ∧ (Value.slice (some ⟨g, 0, none⟩) (bs.length + 1) cap).ownBlock = some k := by
    rcases hat with e | e
    · exact .inl e
    · exact .inr ⟨_, by have := HSZ.out; simp; omega, e⟩
  have HAT := Lib.hid hat'
  clear hat hat' hownA hrd
  go_wp2
  go_ret
  have hfr2 : Fr b v w1 w2 := ⟨Nat.le_trans (by simp) hgrow.size, fun k hk _ hn => (hgrow.block k (by simp; omega) (fun e => hn e.symm)).trans (Lib.alloc_old w1 _ k hk)⟩
  refine ⟨rfl, .slice (some ⟨g, 0, none⟩) (bs.length + 1) cap, (Bp.put (bs := bs ++ [.int .u8 c]) hB hb2 (by simpa using hown')).bu, ?_, ?_, HAT.out⟩
  · exact fr_trans (fr_trans hfr1 hfr2 (.inl rfl)) (fr_set w2 b 1 v _) (.inl rfl)
  · exact ((hb1.alloc (by have := HSZ.out; omega) _).grown hgrow (by have := HSZ.out; simp; omega) (fun k hk => (hown.lt k hk).1)).setCell (p := ⟨b, 1, none⟩) hB _
end Go.Proofs.Ytocbdehcjcggeaa
