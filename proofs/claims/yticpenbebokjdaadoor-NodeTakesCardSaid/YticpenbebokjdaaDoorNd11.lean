/- What stands through node.Take. Conditions: those of each lemma. -/
import Derived.Test.YticpenbebokjdaaDoorNdM
import Derived.Test.YticpenbebokjdaaDoorNd3
import Derived.Lib.TrimByte
namespace Go.Proofs.YticpenbebokjdaaDoor
open Go.RowKit Go
set_option linter.unusedVariables false
set_option linter.unusedSimpArgs false
abbrev NZ : Array Value := #[.int .u8 0, .int .i64 0, .slice none 0 0, .string ⟨#[]⟩]
abbrev NC (k f : Int) (v : Value) (d : ByteArray) : Array Value := #[.int .u8 k, .int .i64 f, v, .string d]
theorem take_rk (s : ByteArray) (b : Bool) (w : World) : Rk w.heap.size (w.heap.size + 1) s b [(w.heap.size, 27, NZ)] ((w.alloc (.cells NZ 27)).alloc (.cells (RC s b) 60)) ∧ Below w.heap.size w ((w.alloc (.cells NZ 27)).alloc (.cells (RC s b) 60)) := by
  have h1 := Blk.new w 27 NZ
  have h2 := Blk.new (w.alloc (.cells NZ 27)) 60 (RC s b)
  have e : (w.alloc (.cells NZ 27)).heap.size = w.heap.size + 1 := by simp
  have hb := (one_alloc (w := w) (o := .cells NZ 27))
  refine ⟨⟨by rw [e] at h2; exact h2, fun x hx => ?_, by omega⟩, hb.alloc hb.size _⟩
  rw [List.mem_singleton.1 hx]
  exact ⟨blk_step h1 one_alloc, by show w.heap.size ≠ w.heap.size + 1; omega⟩
theorem zer_nil (s : ByteArray) : zer s = s.data.toList.all (· == 0) := by
  unfold zer bts
  rw [List.all_map]
  congr 1
  funext x
  show (x.toNat == 0) = (x == 0)
  rw [Bool.eq_iff_iff, beq_iff_eq, beq_iff_eq]
  constructor
  · intro h
    exact UInt8.toNat_inj.1 h
  · rintro rfl
    rfl
theorem dw_nil {α : Type} (p : α → Bool) : ∀ l : List α, (l.dropWhile p = [] ↔ l.all p = true)
  | [] => by simp
  | x :: l => by
    by_cases h : p x = true
    · rw [List.dropWhile_cons_of_pos h, dw_nil p l, List.all_cons, h]; simp
    · rw [List.dropWhile_cons_of_neg h, List.all_cons]; simp [h]
theorem dw_all {α : Type} (p : α → Bool) : ∀ l : List α, ((l.dropWhile p).all p = true ↔ l.all p = true)
  | [] => by simp
  | x :: l => by
    by_cases h : p x = true
    · rw [List.dropWhile_cons_of_pos h, dw_all p l, List.all_cons, h]; simp
    · rw [List.dropWhile_cons_of_neg h]
theorem trim_zer (s : ByteArray) : (Lib.trimB s.data.toList 0 = []) ↔ zer s = true := by
  unfold Lib.trimB Lib.trimLeftB Lib.trimRightB
  rw [dw_nil, List.all_reverse, dw_all, List.all_reverse, zer_nil]
def trimS (s : ByteArray) : ByteArray := ⟨(Lib.trimB s.data.toList 0).toArray⟩
theorem trim_yes {s : ByteArray} (h : zer s = true) : trimS s = ⟨#[]⟩ := by unfold trimS; rw [(trim_zer s).2 h]
theorem trim_no {s : ByteArray} (h : zer s = false) : ¬ (trimS s).toList = [] := by
  intro e
  rw [ByteArray.toList_eq] at e
  have := (trim_zer s).1 (by simpa [trimS] using e)
  rw [h] at this
  cases this
theorem rdC_len {rd : ByteArray × Bool → Cl × (ByteArray × Bool)} : ∀ (n : Nat) (s : ByteArray × Bool), ((rdC rd n s).1.getD []).length ≤ n
  | 0, s => by simp [rdC]
  | n + 1, s => by
    rw [rdC]
    by_cases hw : s.2 = false
    · rw [if_pos hw]; simp
    · rw [if_neg hw]
      have := rdC_len (rd := rd) n (rd s).2
      cases h : (rdC rd n (rd s).2).1 with
      | none => simp
      | some l => rw [h] at this; simpa using this
/-- what stands behind the switch: the reader, the node's box, the result's box, the cells' row -/
def TkSt (w : World) (G : Nat) (K F : Int) (v : Value) (D left : ByteArray) (well : Bool) (l : List Cl) (W : World) : Prop :=
  Rk w.heap.size (w.heap.size + 1) left well [(G, 27, NC K F v D), (w.heap.size, 27, NZ)] W ∧ (∃ base, G < base ∧ W.ownsRow base 30 4 v l.length (clCs l)) ∧ Below w.heap.size w W ∧ w.heap.size < G
theorem tkst_step {w : World} {G : Nat} {K F : Int} {v : Value} {D left : ByteArray} {well : Bool} {l : List Cl} {W W' : World} (h : TkSt w G K F v D left well l W) (hb : Below W.heap.size W W') : TkSt w G K F v D left well l W' := by
  obtain ⟨h1, ⟨base, hb1, h2⟩, h3, h4⟩ := h
  exact ⟨rk_below h1 hb, ⟨base, hb1, own_step h2 hb⟩, bj h3 hb, h4⟩
theorem tkst_far {w : World} {G : Nat} {v : Value} {l : List Cl} {W : World} (h : ∃ base, G < base ∧ W.ownsRow base 30 4 v l.length (clCs l)) (p : Addr) (hp : p.block ≤ G) (u : Value) : ∃ base, G < base ∧ (W.setCell p u).ownsRow base 30 4 v l.length (clCs l) := by
  obtain ⟨base, h1, h2⟩ := h
  exact ⟨base, h1, ownsRow_setCell_below h2 (by omega) u⟩
/-- the answer -/
def takeZ (s : ByteArray) : Int × Int × List Cl × ByteArray × Int := if tkOk s then (tkK s, tkF s, tkL s, tkD s, 0) else (0, 0, [], ⟨#[]⟩, 7)
def TkP (w : World) (s : ByteArray) (e : Ending) (w' : World) : Prop :=
  ∃ A n c, e = .returned (.tuple #[.agg #[.int .u8 (takeZ s).1, .int .i64 (takeZ s).2.1, .slice A n c, .string (takeZ s).2.2.2.1], .int .i64 (takeZ s).2.2.2.2]) ∧ Cls w' w'.heap.size A (takeZ s).2.2.1 ∧ n = (takeZ s).2.2.1.length ∧ Below w.heap.size w w'
theorem tk_may {w : World} {G : Nat} {K F : Int} {v : Value} {D left : ByteArray} {well : Bool} {l : List Cl} {W : World} (h : TkSt w G K F v D left well l W) (hl : l.length ≤ 1000000) :
    Calls Tryd.prog 33 #[.agg #[.int .u8 K, .int .i64 F, v, .string D]] W fun e w' => e = .returned (.bool (mayB K F l D)) ∧ TkSt w G K F v D left well l w' := by
  obtain ⟨base, hb1, h2⟩ := h.2.1
  obtain ⟨A, c, rfl, hC⟩ := cls_of_own h2
  refine (mayBe_any K F A l l.length c D W hC rfl hl).mono ?_
  rintro e w' ⟨rfl, hb⟩
  exact ⟨rfl, tkst_step h hb⟩
theorem tk_trim {w : World} {G : Nat} {K F : Int} {v : Value} {D left : ByteArray} {well : Bool} {l : List Cl} {W : World} (h : TkSt w G K F v D left well l W) (hl : left.size ≤ 100000) :
    Calls Tryd.prog 32 #[.string left, .string ⟨#[0]⟩] W fun e w' => e = .returned (.string (trimS left)) ∧ TkSt w G K F v D left well l w' := by
  refine (Tryd.strings_Trim_one left 0 (by decide) W (by omega)).mono ?_
  rintro e w' ⟨rfl, h0⟩
  refine ⟨rfl, ?_⟩
  rcases h0 with rfl | rfl
  · exact h
  · exact tkst_step h (Below.refl _ _).drew
/-- behind the four stores to the result's box -/
theorem tk_end {w : World} {G : Nat} {K F : Int} {v : Value} {D left : ByteArray} {well : Bool} {l : List Cl} {W : World} (h : TkSt w G K F v D left well l W) (a b c d : Value) :
    Blk ((((W.setCell ⟨w.heap.size, 0, none⟩ a).setCell ⟨w.heap.size, 1, none⟩ b).setCell ⟨w.heap.size, 2, none⟩ c).setCell ⟨w.heap.size, 3, none⟩ d) w.heap.size 27 #[a, b, c, d] ∧ (∃ base, G < base ∧ ((((W.setCell ⟨w.heap.size, 0, none⟩ a).setCell ⟨w.heap.size, 1, none⟩ b).setCell ⟨w.heap.size, 2, none⟩ c).setCell ⟨w.heap.size, 3, none⟩ d).ownsRow base 30 4 v l.length (clCs l)) ∧ Below w.heap.size w ((((W.setCell ⟨w.heap.size, 0, none⟩ a).setCell ⟨w.heap.size, 1, none⟩ b).setCell ⟨w.heap.size, 2, none⟩ c).setCell ⟨w.heap.size, 3, none⟩ d) := by
  obtain ⟨h1, h2, h3, h4⟩ := h
  have hz := rk_get h1 (.tail _ (.head _))
  have z0 : Blk _ w.heap.size 27 #[a, .int .i64 0, .slice none 0 0, .string ⟨#[]⟩] := hz.set_ 0 a
  have z1 : Blk _ w.heap.size 27 #[a, b, .slice none 0 0, .string ⟨#[]⟩] := z0.set_ 1 b
  have z2 : Blk _ w.heap.size 27 #[a, b, c, .string ⟨#[]⟩] := z1.set_ 2 c
  have z3 : Blk _ w.heap.size 27 #[a, b, c, d] := z2.set_ 3 d
  refine ⟨z3, ?_, ?_⟩
  · exact tkst_far (w := w) (tkst_far (w := w) (tkst_far (w := w) (tkst_far (w := w) h2 _ (Nat.le_of_lt h4) _) _ (Nat.le_of_lt h4) _) _ (Nat.le_of_lt h4) _) _ (Nat.le_of_lt h4) _
  · exact (((h3.setCell (Nat.le_refl _) _).setCell (Nat.le_refl _) _).setCell (Nat.le_refl _) _).setCell (Nat.le_refl _) _
theorem tk_bad {w : World} {s : ByteArray} {W : World} (h : Below w.heap.size w W) (hk : tkOk s = false) : TkP w s (.returned (.tuple #[.agg #[.int .u8 0, .int .i64 0, .slice none 0 0, .string ⟨#[]⟩], .int .i64 7])) W := by
  have e : takeZ s = (0, 0, [], ⟨#[]⟩, 7) := by unfold takeZ; rw [hk]; rfl
  unfold TkP
  rw [e]
  exact ⟨none, 0, 0, rfl, .inl rfl, rfl, h⟩
theorem tk_good {w : World} {s : ByteArray} {K F : Int} {v : Value} {D : ByteArray} {l : List Cl} {W : World} {G : Nat} (h : Below w.heap.size w W) (ho : ∃ base, G < base ∧ W.ownsRow base 30 4 v l.length (clCs l)) (hk : tkOk s = true) (h1 : (tkK s : Int) = K) (h2 : (tkF s : Int) = F) (h3 : tkL s = l) (h4 : tkD s = D) : TkP w s (.returned (.tuple #[.agg #[.int .u8 K, .int .i64 F, v, .string D], .int .i64 0])) W := by
  have e : takeZ s = (K, F, l, D, 0) := by unfold takeZ; rw [if_pos hk, h1, h2, h3, h4]
  obtain ⟨base, _, h5⟩ := ho
  obtain ⟨A, c, rfl, hC⟩ := cls_of_own h5
  unfold TkP
  rw [e]
  exact ⟨A, l.length, c, rfl, hC, rfl, h⟩
theorem rdC_size {rd : ByteArray × Bool → Cl × (ByteArray × Bool)} (h : ∀ s, (rd s).2.1.size ≤ s.1.size) : ∀ (n : Nat) (s : ByteArray × Bool), (rdC rd n s).2.1.size ≤ s.1.size
  | 0, s => Nat.le_refl _
  | n + 1, s => by
    rw [rdC]
    by_cases hw : s.2 = false
    · rw [if_pos hw]; exact Nat.le_refl _
    · rw [if_neg hw]; exact Nat.le_trans (rdC_size h n (rd s).2) (h s)
theorem tkS_size (s : ByteArray) : (tkS s).1.size ≤ s.size := by
  have h0 : (tk0 s).2.1.size ≤ s.size := stp_size (s, (s.size : Int) == 512) 1
  have h1 : (tk1 s).2.1.size ≤ (tk0 s).2.1.size := stp_size (tk0 s).2 2
  have h2 : (tk2 s).2.1.size ≤ (tk1 s).2.1.size := stp_size (tk1 s).2 4
  unfold tkS
  split <;> omega
theorem tkE_size (s : ByteArray) : (tkE s).1.size ≤ s.size := by
  have h := tkS_size s
  unfold tkE tkC
  split
  · split
    · exact Nat.le_trans (rdC_size rdLeaf_size _ _) h
    · exact Nat.le_trans (rdC_size rdInner_size _ _) h
  · split
    · exact Nat.le_trans (stp_size _ _) h
    · exact h
def KR (s : ByteArray) (K : Int) : Prop := (tkK s : Int) = K
def QR (s : ByteArray) : Prop := tkK s ≠ 1 ∧ tkK s ≠ 2 ∧ tkK s ≠ 3
theorem rk_rd {B r : Nat} {left : ByteArray} {well : Bool} {X : BL} {W : World} (h : Rk B r left well X W) : W.cell? ⟨r, 0, none⟩ = some (.string left) ∧ W.cell? ⟨r, 1, none⟩ = some (.bool well) ∧ W.frozen? ⟨r, 0, none⟩ = false ∧ W.frozen? ⟨r, 1, none⟩ = false := ⟨h.1.cell 0, h.1.cell 1, h.1.frozen 0, h.1.frozen 1⟩
end Go.Proofs.YticpenbebokjdaaDoor
