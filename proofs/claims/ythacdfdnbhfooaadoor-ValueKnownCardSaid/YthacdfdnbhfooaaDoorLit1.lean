/- What the program's laid variables hold; strconv.FormatInt, strconv.ParseInt; quotes doubled. Conditions: those of each lemma. -/
import Derived.Test.YthacdfdnbhfooaaDoorProg
import Derived.Test.YthacdfdnbhfooaaDoorShelf
import Derived.Test.YthacdfdnbhfooaaDoorKey1
import Derived.Test.YthacdfdnbhfooaaDoorLitMath
import Derived.Lib.AtoiErrMem
namespace Go.Proofs.YthacdfdnbhfooaaDoor
open Go.RowKit
set_option linter.unusedVariables false
theorem gn_pow : Tryd.prog.globalNamed "internal/strconv.uint64pow10" = some 1 := by kernel_rfl
theorem gn_max : Tryd.prog.globalNamed "internal/bytealg.MaxLen" = some 0 := by kernel_rfl
/-- what the laid variables hold -/
def Gl (w : World) : Prop := ∃ (m : Int) (t1 t2 : TypeId) (p1 p2 : Value), w.cell? ⟨0, 0, none⟩ = some (.int .i64 m) ∧ Lib.TabIs Tryd.prog w "internal/strconv.uint64pow10" .u64 Lib.pow10Tab ∧
  w.cell? ⟨2, 0, none⟩ = some (.iface t1 p1) ∧ w.cell? ⟨3, 0, none⟩ = some (.iface t2 p2)
theorem lt_of_cell7 {w : World} {a : Addr} {v : Value} (h : w.cell? a = some v) : a.block < w.heap.size := World.block_lt_of_cell? w a h
theorem cell_bel {w w' : World} (hb : Below w.heap.size w w') {a : Addr} {v : Value} (hc : w.cell? a = some v) : w'.cell? a = some v := (hb.cell (World.block_lt_of_cell? w a hc)).trans hc
theorem tab_bel {n : String} {g : Nat} {k : IntKind} {zs : List Int} {w w' : World} (hg : Tryd.prog.globalNamed n = some g) (h : Lib.TabIs Tryd.prog w n k zs) (hb : Below w.heap.size w w') : Lib.TabIs Tryd.prog w' n k zs := by
  unfold Lib.TabIs World.var? at h ⊢
  rw [hg] at h ⊢
  simp only [Option.bind_some] at h ⊢
  have hlt : g < w.heap.size := by
    rcases Nat.lt_or_ge g w.heap.size with h' | h'
    · exact h'
    · rw [Array.getElem?_eq_none h'] at h; cases h
  rw [hb.block g hlt]
  exact h
theorem gl_below {w w' : World} (h : Gl w) (hb : Below w.heap.size w w') : Gl w' := by
  obtain ⟨m, t1, t2, p1, p2, h1, h2, h3, h4⟩ := h
  exact ⟨m, t1, t2, p1, p2, cell_bel hb h1, tab_bel gn_pow h2 hb, cell_bel hb h3, cell_bel hb h4⟩
theorem below_gr (w : World) (k : Nat) (os : Array Obj) : Below w.heap.size w (Sort.grow (w.drewN k) os) :=
  ⟨rfl, rfl, rfl, by show w.heap.size ≤ (w.heap ++ os).size; rw [Array.size_append]; omega, fun j hj => by
    show (w.heap ++ os)[j]? = w.heap[j]?
    rw [Array.getElem?_append_left (by omega)]⟩
theorem ito_str (n : Int) : (⟨(Lib.itoa n).toArray⟩ : ByteArray) = bstr (itoL n) := by
  unfold bstr itoL
  rw [List.map_map]
  congr 2
  exact (List.map_id' _).symm.trans (List.map_congr_left fun b _ => by simp)
theorem fmt_any (n : Int) (w : World) (hG : Gl w) (h0 : -9223372036854775808 ≤ n) (h1 : n ≤ 9223372036854775807) :
    Calls Tryd.prog 24 #[.int .i64 n, .int .i64 10] w fun e w' => e = .returned (.string (bstr (itoL n))) ∧ Below w.heap.size w w' := by
  obtain ⟨_, _, _, _, _, _, ht, _⟩ := hG
  refine (Tryd.strconv_FormatInt_10 n h0 h1 w ht).mono ?_
  rintro e w' ⟨rfl, k, os, rfl⟩
  exact ⟨by rw [ito_str], below_gr w k os⟩
/-- what ParseInt answers -/
def ParP (l : List UInt8) (w : World) (e : Ending) (w' : World) : Prop := Below w.heap.size w w' ∧
  ((∃ v, Lib.atoiAll l = .ok v ∧ e = .returned (.tuple #[.int .i64 v, .nilIface])) ∨ ((∀ v, Lib.atoiAll l ≠ .ok v) ∧ ∃ (x : Int) (t : TypeId) (p : Value), e = .returned (.tuple #[.int .i64 x, .iface t p])))
theorem parse_any (s : ByteArray) (w : World) (hG : Gl w) (hs : s.size ≤ 100000) :
    Calls Tryd.prog 30 #[.string s, .int .i64 10, .int .i64 64] w (ParP s.data.toList w) := by
  obtain ⟨_, t1, t2, p1, p2, _, _, h1, h2⟩ := hG
  rcases h : Lib.parseIntB 64 s.data.toList with v | _ | _
  · refine (Tryd.strconv_ParseInt_10_at64_ok s (by omega) v h w).mono ?_
    rintro e w' ⟨rfl, hw⟩
    refine ⟨?_, .inl ⟨v, by rw [← Lib.parseIntB_64]; exact h, rfl⟩⟩
    rcases hw with rfl | ⟨t, rfl⟩
    · exact Below.refl _ _
    · exact Lib.bytesWorld_below _ _ _
  · refine (Any.strconv_ParseInt_10_at64_syntax Tryd.laysC174 s (by omega) h _ w h1 (.inr ⟨_, _, rfl⟩)).mono ?_
    rintro e w' ⟨N, rfl, _, _, hb⟩
    exact ⟨hb, .inr ⟨(fun v hv => by rw [← Lib.parseIntB_64, h] at hv; cases hv), _, _, _, rfl⟩⟩
  · refine (Tryd.strconv_ParseInt_10_at64_range s (by omega) h _ w h2 (.inr ⟨_, _, rfl⟩)).mono ?_
    rintro e w' ⟨N, rfl, _, _, hb⟩
    exact ⟨hb, .inr ⟨(fun v hv => by rw [← Lib.parseIntB_64, h] at hv; cases hv), _, _, _, rfl⟩⟩
theorem dq_map : ∀ s : List UInt8, (s.flatMap (fun b => if b = 39 then [39, 39] else [b])).map UInt8.toNat = dqL (s.map UInt8.toNat)
  | [] => rfl
  | b :: s => by
    have ih := dq_map s
    by_cases h : b = 39
    · subst h
      simp [dqL, ih]
    · have h2 : b.toNat ≠ 39 := fun e => h (UInt8.toNat_inj.1 e)
      simp [dqL, h, h2, ih]
theorem replaceAll_dq (s : ByteArray) : (⟨(Lib.replaceAll s.data.toList (⟨#[39]⟩ : ByteArray).data.toList (⟨#[39, 39]⟩ : ByteArray).data.toList).toArray⟩ : ByteArray) = bstr (dqL (bts s)) := by
  apply bts_inj
  rw [bts_bstr _ (dqL_lt (bts_lt s))]
  unfold bts
  rw [← dq_map]
  congr 1
  show Lib.replaceAll s.data.toList [39] [39, 39] = _
  unfold Lib.replaceAll Lib.replace
  rw [if_neg (by decide)]
  have : Lib.replaceNum s.data.toList [39] (-1) = Lib.count s.data.toList [39] := by unfold Lib.replaceNum; rw [if_pos (.inl (by omega))]
  rw [this, replaceK_one]
theorem dq_any (s : ByteArray) (w : World) (hG : Gl w) (hs : s.size ≤ 1000) :
    Calls Tryd.prog 26 #[.string s, .string ⟨#[39]⟩, .string ⟨#[39, 39]⟩] w fun e w' => e = .returned (.string (bstr (dqL (bts s)))) ∧ Below w.heap.size w w' := by
  obtain ⟨m, _, _, _, _, hm, _⟩ := hG
  have hc : Lib.countB s ⟨#[39]⟩ ≤ s.size := by
    show Lib.count s.data.toList [39] ≤ _
    rw [Lib.count_one]
    exact List.count_le_length
  have h := Tryd.strings_ReplaceAll s ⟨#[39]⟩ ⟨#[39, 39]⟩ m w (by omega) hm (by decide) (by have : (⟨#[39, 39]⟩ : ByteArray).size = 2 := rfl; rw [this]; omega)
  rw [replaceAll_dq] at h
  exact h
/-- a builder, and one other block that stands -/
def Obx (w : World) (b : Nat) (L : List Nat) (g : Nat) (o : Obj) (W : World) : Prop := (∃ v, Bu w.heap.size b v (Lib.strCells (bstr L)) W ∧ v.ownBlock ≠ some g) ∧ g ≠ b ∧ W.heap[g]? = some o ∧ Below w.heap.size w W
theorem obx_lt {w W : World} {b g : Nat} {L : List Nat} {o : Obj} (h : Obx w b L g o W) : g < W.heap.size := by
  rcases Nat.lt_or_ge g W.heap.size with h' | h'
  · exact h'
  · have := h.2.2.1; rw [Array.getElem?_eq_none h'] at this; cases this
theorem obx_wb {w W : World} {b g : Nat} {L : List Nat} {o : Obj} (x : Int) (h : Obx w b L g o W) (h0 : 0 ≤ x) (hx : x < 256) (hlen : L.length + 1 ≤ 140737488355328) :
    Calls Tryd.prog 25 #[.pointer (some ⟨b, 0, none⟩), .int .u8 x] W fun e w' => e = .returned .nilIface ∧ Obx w b (L ++ [x.toNat]) g o w' ∧ Oth W w' := by
  have hg := obx_lt h
  obtain ⟨⟨v, h1, hv⟩, hgb, hgo, hw⟩ := h
  refine (bu_writeByte _ b v _ x W h1 (by rw [Lib.strCells_length, bstr_size]; exact hlen) hw.size).mono ?_
  rintro e w' ⟨rfl, v', h1', hfr, hb, hat⟩
  obtain ⟨n, rfl⟩ := Int.eq_ofNat_of_zero_le h0
  have e1 : Lib.strCells (bstr L) ++ [Value.int .u8 (n : Int)] = Lib.strCells (bstr (L ++ [n])) := by
    rw [← bstr_append]
    have e2 : (UInt8.ofNat n).toNat = n := by rw [UInt8.toNat_ofNat']; omega
    simp [Lib.strCells, bstr, e2]
  rw [e1] at h1'
  refine ⟨rfl, ⟨⟨v', by simpa using h1', ?_⟩, hgb, (hfr.2 g hg hgb hv).trans hgo, hw.trans hb⟩, bu_oth h1 hfr⟩
  rcases hat with e | ⟨j, hj, e⟩
  · rw [e]; exact hv
  · rw [e]; intro h; injection h with h; omega
theorem obx_ob {w W : World} {b g : Nat} {L : List Nat} {o : Obj} (h : Obx w b L g o W) : Ob w b L W := by
  obtain ⟨⟨v, h1, hv⟩, hgb, hgo, hw⟩ := h
  exact ⟨⟨v, h1⟩, hw⟩
/-- a row of bytes that a text was turned into -/
theorem obx_new {w W : World} {b : Nat} {L : List Nat} (s : ByteArray) (h : Ob w b L W) : Obx w b L W.heap.size (.cells (Lib.bytesCells W 5 s) 5 ((Lib.bytesCells W 5 s).size, (Lib.bytesCells W 5 s).size + 1)) (Lib.bytesWorld W 5 s) := by
  have h2 := ob_step h (Lib.bytesWorld_below W 5 s)
  obtain ⟨⟨v, h1⟩, hw⟩ := h
  have hl := h1.lt
  refine ⟨⟨v, h1.keep rfl rfl rfl (Lib.bytesWorld_below W 5 s).size (fun k hk _ => (Lib.bytesWorld_below W 5 s).block k hk), fun e => ?_⟩, by omega, Lib.bytesWorld_at_new _ _ _, bj hw (Lib.bytesWorld_below W 5 s)⟩
  have := (h1.rowlt _ e).2
  omega
/-- the cells of that row -/
theorem obx_cell {w W W0 : World} {b g : Nat} {L : List Nat} {s : ByteArray} (hg : W0.heap.size = g) (h : Obx w b L g (.cells (Lib.bytesCells W0 5 s) 5 ((Lib.bytesCells W0 5 s).size, (Lib.bytesCells W0 5 s).size + 1)) W) (j : Nat) (hj : j < s.size) :
    W.cell? ⟨g, j, none⟩ = some (.int .u8 ((bts s).getD j 0 : Nat)) := by
  subst hg
  have h1 := Lib.bytesWorld_cell W0 5 s j hj
  have h2 := Lib.bytesWorld_at_new W0 5 s
  have e : W.cell? ⟨W0.heap.size, j, none⟩ = (Lib.bytesWorld W0 5 s).cell? ⟨W0.heap.size, j, none⟩ := by
    unfold World.cell?
    rw [h.2.2.1, h2]
  rw [e, h1]
  congr 2
  simp only [bts, List.getD_eq_getElem?_getD, List.getElem?_map]
  cases s.data.toList[j]? <;> rfl
end Go.Proofs.YthacdfdnbhfooaaDoor
