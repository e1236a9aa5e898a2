/- Layer 3: files.Write. Conditions: those of each lemma. -/
import Derived.Test.YtffojihhjiogpaaFi9
import Derived.Laws.MakeOwn
import Derived.Lib.BufferWrite
namespace Go.Proofs.Ytffojihhjiogpaa
open Go.RowKit Go Go.Maps
set_option linter.unusedVariables false
set_option linter.unusedSimpArgs false
/-- the sector that a Write of s writes q-th -/
def wrC (f pl : Nat) (s : ByteArray) (q : Nat) : Ch := ⟨f, pl + q, false, ((bts s).drop (q * 64)).take 64⟩
def wrL (f pl : Nat) (s : ByteArray) : List Ch := (List.range (s.size / 64)).map (wrC f pl s)
def writeD (d : Dk) (f pl : Int) (s : ByteArray) : Dk × Int :=
  if readyD d f ≠ 0 then (d, readyD d f) else if s.size / 64 = 0 ∨ s.size % 64 ≠ 0 then (d, 2)
  else if pl < 0 ∨ 8192 < s.size / 64 ∨ 8192 - (s.size / 64 : Nat) < pl then (d, 5) else opD d (wrL f.toNat pl.toNat s)
theorem wrC_ok {f pl q : Nat} {s : ByteArray} (hf : f < 8) (hp : pl + q < 8192) (hq : q * 64 + 64 ≤ s.size) : ChOk (wrC f pl s q) := by
  refine ⟨hf, by show pl + q ≤ _; omega, fun _ => hp, ?_, fun x hx => ?_⟩
  · show (((bts s).drop (q * 64)).take 64).length = 64
    rw [List.length_take, List.length_drop, bts_length]; omega
  · have h1 := List.mem_of_mem_drop (List.mem_of_mem_take hx)
    obtain ⟨i, hi, rfl⟩ := List.mem_iff_getElem.1 h1
    have := bts_getD_lt s i
    rwa [List.getD_eq_getElem?_getD, List.getElem?_eq_getElem hi] at this
theorem blk_setCells {t : TypeId} {b : Nat} : ∀ (vs : List Value) (o : Nat) (W : World) (cur : Array Value), Blk W b t cur → o + vs.length ≤ cur.size →
    ∃ cur', Blk (W.setCells b o vs) b t cur' ∧ cur'.size = cur.size ∧ (∀ k, k < o ∨ o + vs.length ≤ k → cur'[k]? = cur[k]?) ∧ (∀ k, k < vs.length → cur'[o + k]? = vs[k]?)
  | [], o, W, cur, h, _ => ⟨cur, h, rfl, fun _ _ => rfl, fun k hk => absurd hk (Nat.not_lt_zero k)⟩
  | v :: r, o, W, cur, h, hl => by
    rw [List.length_cons] at hl
    obtain ⟨cur', h1, h2, h3, h4⟩ := blk_setCells r (o + 1) (W.setCell ⟨b, o, none⟩ v) (cur.setIfInBounds o v) (h.set_ o v) (by simp; omega)
    refine ⟨cur', h1, by simpa using h2, fun k hk => ?_, fun k hk => ?_⟩
    · rw [List.length_cons] at hk
      rw [h3 k (by omega), Array.getElem?_setIfInBounds, if_neg (by omega)]
    · rw [List.length_cons] at hk
      rcases k with _ | k
      · rw [h3 (o + 0) (by omega), Array.getElem?_setIfInBounds, if_pos (by omega), if_pos (by omega)]; rfl
      · have := h4 k (by omega)
        rw [show o + (k + 1) = o + 1 + k by omega, this]; rfl
theorem fr_setCells {b : Nat} : ∀ (vs : List Value) (o : Nat) (W : World), Fr (fun x => x = b) W (W.setCells b o vs)
  | [], _, _ => fr_refl _ _
  | v :: r, o, W => fr_trans (fr_one W b o v) (fr_setCells r (o + 1) _) (fun x hx => .inl hx)
theorem fr_setRow (W : World) (b : Nat) (cs : Array Value) : Fr (fun x => x = b) W (W.setRow b cs) :=
  ⟨rfl, rfl, rfl, by simp [World.setRow], fun k hk hS => by
    simp only [World.setRow, Array.getElem?_modify]
    rw [if_neg (fun e => hS e.symm)]⟩
theorem blk_setRow {W : World} {b : Nat} {t : TypeId} {cur : Array Value} (h : Blk W b t cur) (cs : Array Value) : Blk (W.setRow b cs) b t cs := by
  unfold Blk at h ⊢
  simp [World.setRow, Array.getElem?_modify, h]
/-- what is made, up to the j-th -/
def MkIs (f pl : Nat) (s : ByteArray) (n j : Nat) (cur : Array Value) : Prop := cur.size = n * 67 ∧ ∀ q r u, q < j → (chL (wrC f pl s q))[r]? = some u → cur[q * 67 + r]? = some u
theorem run_copy_min {P : Program} (w : World) (dT sT ty elem : TypeId) (g o dLen dCap n : Nat) (s : ByteArray) (cur : Array Value) (t : TypeId)
    (hu : P.underlying dT = some (.slice elem)) (hs : (P.info? elem).map (·.size) = some 1) (hg : w.heap[g]? = some (.cells cur t (0, 0))) (hn : Nat.min s.size dLen = n) (hfit : o + n ≤ cur.size) :
    (Builtin.copy_ #[dT, sT] ty #[.slice (some ⟨g, o, none⟩) dLen dCap, .string s]).run P w =
      .ok (goInt n) (w.setRow g (cur.toList.take o ++ Lib.byteCells (s.data.toList.take n) ++ cur.toList.drop (o + n)).toArray) := by
  have hns : n ≤ s.size := by rw [← hn]; exact Nat.min_le_left _ _
  have hlen : (Lib.byteCells (s.data.toList.take n)).length = n := by
    rw [Lib.byteCells_length, List.length_take, ← Lib.size_eq]; omega
  have hst := run_storeCells_at P g o t (Lib.byteCells (s.data.toList.take n)) 0 cur w hg (by rw [hlen]; simpa using hfit) (Lib.byteCells_one _)
  have htk : List.take n (List.map (fun b : UInt8 => Value.int IntKind.u8 (b.toNat : Int)) s.data.toList) = Lib.byteCells (s.data.toList.take n) := by
    rw [← List.map_take]
    rfl
  rw [hlen] at hst
  simp only [Nat.add_zero] at hst
  cases hq : P.info? elem with
  | none => simp [hq] at hs
  | some i =>
    simp [Builtin.copy_, run_underlying hu, Builtin.lenOf, Builtin.firstCells, sizeOf, typeInfo, hq, hn]
    rw [htk, hst]
    simp [Result.andThen]
theorem step_copy {P : Program} {ops : Array Oper} {op : Oper} {a : Act} {w : World} {K : Act → World → Prop} {Q : Exit → Act → World → Prop} {E : Prop}
    (hgd : op.guard = none) (x y : Operand) (dT sT elem : TypeId) (hop : op.op = .call { callee := .builtin .copy, args := #[x, y], argTypes := #[dT, sT] })
    (g o dLen dCap n : Nat) (s : ByteArray) (cur : Array Value) (t : TypeId) (hx : a.eval x = .slice (some ⟨g, o, none⟩) dLen dCap) (hy : a.eval y = .string s)
    (hu : P.underlying dT = some (.slice elem)) (hs : (P.info? elem).map (·.size) = some 1) (hg : w.heap[g]? = some (.cells cur t (0, 0))) (hn : Nat.min s.size dLen = n) (hfit : o + n ≤ cur.size)
    (h : K (a.put op.dst (goInt n)) (w.setRow g (cur.toList.take o ++ Lib.byteCells (s.data.toList.take n) ++ cur.toList.drop (o + n)).toArray)) :
    if Region.wanted op (yielded ops a.tmps) = true then Oper.wp P op a w K Q else E := by
  have hw : Region.wanted op (yielded ops a.tmps) = true := by simp [Region.wanted, hgd]
  rw [if_pos hw]
  have hrun := run_copy_min (P := P) w dT sT op.type elem g o dLen dCap n s cur t hu hs hg hn hfit
  unfold Oper.wp execOp
  simp only [hop, resolve, invoke, builtin, Sem.run_bind, Sem.run_pure, Result.andThen_ok, List.map_toArray, List.map_cons, List.map_nil, hx, hy, hrun]
  exact h
/-- behind the store of the j-th, and the copy of its bytes -/
theorem mk_step {f pl n j b : Nat} {s : ByteArray} {W : World} {cur : Array Value} (hb : Blk W b 74 cur) (h : MkIs f pl s n j cur) (hj : j < n) (hs : j * 64 + 64 ≤ s.size) :
    ∃ cur', Blk (W.setCells b (j * 67) (chL ⟨f, pl + j, false, zS⟩)) b 74 cur' ∧ cur'.size = n * 67 ∧
      ∀ bs : List Value, bs = vals8 (((bts s).drop (j * 64)).take 64) → MkIs f pl s n (j + 1) (cur'.toList.take (j * 67 + 3) ++ bs ++ cur'.toList.drop (j * 67 + 3 + 64)).toArray := by
  have hz : (chL ⟨f, pl + j, false, zS⟩).length = 67 := rfl
  have h67 : j * 67 + 67 ≤ n * 67 := by omega
  obtain ⟨cur', h1, h2, h3, h4⟩ := blk_setCells (t := 74) (chL ⟨f, pl + j, false, zS⟩) (j * 67) W cur hb (by rw [hz, h.1]; exact h67)
  rw [hz] at h3 h4
  refine ⟨cur', h1, by rw [h2, h.1], fun bs hbs => ?_⟩
  have hbl : bs.length = 64 := by rw [hbs, vals8_length, List.length_take, List.length_drop, bts_length]; omega
  have hcs : cur'.toList.length = n * 67 := by rw [Array.length_toList, h2, h.1]
  refine ⟨by simp [hbl, hcs]; omega, fun q r u hq hu => ?_⟩
  have hr : r < 67 := by
    have h5 := (List.getElem?_eq_some_iff.1 hu).1
    have h6 : (chL (wrC f pl s q)).length ≤ 67 := by
      show (vals8 (((bts s).drop (q * 64)).take 64)).length + 1 + 1 + 1 ≤ 67
      rw [vals8_length, List.length_take]; omega
    omega
  rw [List.getElem?_toArray]
  by_cases hqj : q = j
  · subst hqj
    by_cases h5 : r < 3
    · rw [List.append_assoc, List.getElem?_append_left (by rw [List.length_take, hcs]; omega), List.getElem?_take, if_pos (by omega), Array.getElem?_toList, h4 r (by omega), ← hu]
      match r, h5 with
      | 0, _ => rfl
      | 1, _ => rfl
      | 2, _ => rfl
    · rw [List.getElem?_append_left (by rw [List.length_append, List.length_take, hcs, hbl]; omega), List.getElem?_append_right (by rw [List.length_take, hcs]; omega), List.length_take, hcs, hbs, ← hu]
      rw [show q * 67 + r - min (q * 67 + 3) (n * 67) = r - 3 by omega]
      obtain ⟨k, rfl⟩ : ∃ k, r = k + 3 := ⟨r - 3, by omega⟩
      rfl
  · have hqj' : q < j := by omega
    have h6 : q * 67 + 67 ≤ j * 67 := by omega
    rw [List.append_assoc, List.getElem?_append_left (by rw [List.length_take, hcs]; omega), List.getElem?_take, if_pos (by omega), Array.getElem?_toList, h3 _ (by omega)]
    exact h.2 q r u hqj' hu
theorem mk_all {f pl n b : Nat} {s : ByteArray} {W : World} {cur : Array Value} (hb : Blk W b 74 cur) (h : MkIs f pl s n n cur) (hn : n = s.size / 64) : ChsAt W (some ⟨b, 0, none⟩) (wrL f pl s) := by
  refine .inr ⟨b, 0, rfl, hb.lt, fun j c hj k v hv => ?_⟩
  unfold wrL at hj
  rw [List.getElem?_map] at hj
  have hjn : j < s.size / 64 := by
    rcases Nat.lt_or_ge j (s.size / 64) with h1 | h1
    · exact h1
    · rw [List.getElem?_eq_none (by simpa using h1)] at hj; cases hj
  rw [List.getElem?_range hjn] at hj
  simp at hj
  subst hj
  rw [hb.cell, show 0 + j * 67 + k = j * 67 + k by omega]
  exact h.2 j k v (by omega) hv
end Go.Proofs.Ytffojihhjiogpaa
