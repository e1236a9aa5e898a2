/- strings.ReplaceAll at one byte; one strings.Builder and what stands beside it. Conditions: those of each lemma. -/
import Derived.Test.YthacdfdnbhfooaaDoorProg
import Derived.Test.YthacdfdnbhfooaaDoorBu
import Derived.Test.YthacdfdnbhfooaaDoorKeyMath
import Derived.Test.YthacdfdnbhfooaaDoorVal
import Derived.Lib.SplitLaws
import Derived.Lib.Replace
namespace Go.Proofs.YthacdfdnbhfooaaDoor
open Go.RowKit
set_option linter.unusedVariables false
theorem index_cons_eq (c : UInt8) (s : List UInt8) : Lib.index (c :: s) [c] = 0 := by simp [Lib.index, List.isPrefixOf]
theorem index_cons_ne {b c : UInt8} (s : List UInt8) (h : b ≠ c) : Lib.index (b :: s) [c] = if Lib.index s [c] == -1 then -1 else Lib.index s [c] + 1 := by
  have : (List.isPrefixOf [c] (b :: s)) = false := by simp [List.isPrefixOf]; exact fun e => h e.symm
  simp [Lib.index, this]
theorem replaceK_one (c : UInt8) (new : List UInt8) : ∀ s : List UInt8, Lib.replaceK [c] new (Lib.count s [c]) s = s.flatMap (fun b => if b = c then new else [b])
  | [] => by
    have : Lib.count [] [c] = 0 := by rw [Lib.count_one]; rfl
    rw [this]; rfl
  | b :: s => by
    have ih := replaceK_one c new s
    by_cases h : b = c
    · subst h
      rw [Lib.count_cons_eq, Nat.add_comm, Lib.replaceK_hit _ _ _ _ 0 (index_cons_eq b s)]
      simp [ih]
    · rw [Lib.count_cons_ne b c s h]
      have e : (b :: s).flatMap (fun b => if b = c then new else [b]) = b :: s.flatMap (fun b => if b = c then new else [b]) := by simp [h]
      rw [e, ← ih]
      by_cases hi : Lib.index s [c] = -1
      · rw [Lib.count_miss hi]; rfl
      · have hge := Lib.index_ge s [c]
        obtain ⟨i, hI⟩ := Int.eq_ofNat_of_zero_le (show 0 ≤ Lib.index s [c] by omega)
        have hc := Lib.count_hit (sub := [c]) (by simp) hI
        rw [hc, Nat.add_comm, Lib.replaceK_hit _ _ _ _ i hI]
        have h2 : Lib.index (b :: s) [c] = ((i + 1 : Nat) : Int) := by
          rw [index_cons_ne s h, hI]
          have : (((i : Nat) : Int) == -1) = false := by rw [beq_eq_false_iff_ne]; omega
          rw [this]; simp
        rw [Lib.replaceK_hit _ _ _ _ (i + 1) h2]
        simp
theorem esc_map : ∀ s : List UInt8, (s.flatMap (fun b => if b = 0 then [0, 255] else [b])).map UInt8.toNat = escL (s.map UInt8.toNat)
  | [] => rfl
  | b :: s => by
    have ih := esc_map s
    by_cases h : b = 0
    · subst h
      simp [escL, ih]
    · have h2 : b.toNat ≠ 0 := fun e => h (UInt8.toNat_inj.1 e)
      simp [escL, h, h2, ih]
theorem replaceAll_esc (s : ByteArray) : (⟨(Lib.replaceAll s.data.toList (⟨#[0]⟩ : ByteArray).data.toList (⟨#[0, 255]⟩ : ByteArray).data.toList).toArray⟩ : ByteArray) = bstr (escL (bts s)) := by
  apply bts_inj
  rw [bts_bstr _ (escL_lt (bts_lt s))]
  unfold bts
  rw [← esc_map]
  congr 1
  show Lib.replaceAll s.data.toList [0] [0, 255] = _
  unfold Lib.replaceAll Lib.replace
  rw [if_neg (by decide)]
  have : Lib.replaceNum s.data.toList [0] (-1) = Lib.count s.data.toList [0] := by unfold Lib.replaceNum; rw [if_pos (.inl (by omega))]
  rw [this, replaceK_one]
theorem esc_any (s : ByteArray) (m : Int) (w : World) (hs : s.size ≤ 1000) (hm : w.cell? ⟨0, 0, none⟩ = some (.int .i64 m)) :
    Calls Tryd.prog 26 #[.string s, .string ⟨#[0]⟩, .string ⟨#[0, 255]⟩] w fun e w' => e = .returned (.string (bstr (escL (bts s)))) ∧ Below w.heap.size w w' := by
  have hc : Lib.countB s ⟨#[0]⟩ ≤ s.size := by
    show Lib.count s.data.toList [0] ≤ _
    rw [Lib.count_one]
    exact List.count_le_length
  have h := Tryd.strings_ReplaceAll s ⟨#[0]⟩ ⟨#[0, 255]⟩ m w (by omega) hm (by decide) (by have : (⟨#[0, 255]⟩ : ByteArray).size = 2 := rfl; rw [this]; omega)
  rw [replaceAll_esc] at h
  exact h
theorem escL_len (L : List Nat) : (escL L).length ≤ 2 * L.length := by
  induction L with
  | nil => simp [escL]
  | cons c r ih => unfold escL; split <;> simp <;> omega
/-- one builder, and what lies below -/
def Ob (w : World) (b : Nat) (L : List Nat) (W : World) : Prop := (∃ v, Bu w.heap.size b v (Lib.strCells (bstr L)) W) ∧ Below w.heap.size w W
/-- blocks that are no builder and no row of bytes stand -/
def Oth (W W' : World) : Prop := ∀ g t cs, t ≠ 45 → t ≠ 5 → Blk W g t cs → Blk W' g t cs
theorem bu_oth {B b : Nat} {v : Value} {bs : List Value} {W W' : World} (h : Bu B b v bs W) (hf : Fr b v W W') : Oth W W' := by
  intro g t cs h1 h2 hb
  obtain ⟨_, p, _, hbk, ho, _⟩ := h
  refine (hf.2 g hb.lt ?_ ?_).trans hb
  · rintro rfl
    unfold Blk at hb
    rw [hbk] at hb
    simp only [Option.some.injEq, Obj.cells.injEq] at hb
    exact h1 hb.2.1.symm
  · intro e
    rcases ho.2 with ⟨hv, _⟩ | ⟨g', cap, cur, hv, _, hg, _⟩
    · rw [hv] at e; cases e
    · rw [hv] at e
      simp only [Value.ownBlock, Option.some.injEq] at e
      subst e
      unfold Blk at hb
      rw [hg] at hb
      simp only [Option.some.injEq, Obj.cells.injEq] at hb
      exact h2 hb.2.1.symm
theorem ob_step {w W W' : World} {b : Nat} {L : List Nat} (h : Ob w b L W) (hb : Below W.heap.size W W') : Ob w b L W' := by
  obtain ⟨⟨v, h⟩, hw⟩ := h
  exact ⟨⟨v, h.keep hb.os hb.tape hb.output hb.size (fun k hk _ => hb.block k hk)⟩, bj hw hb⟩
theorem ob_new {w w1 : World} (hb : Below w.heap.size w w1) : Ob w w1.heap.size [] (w1.alloc (.cells #[.pointer none, .slice none 0 0] 45)) := ⟨⟨_, bu_new _ w1 hb.size⟩, hb.alloc hb.size _⟩
theorem strCells_app (L : List Nat) (s : ByteArray) : Lib.strCells (bstr L) ++ Lib.strCells s = Lib.strCells (bstr (L ++ bts s)) := by
  rw [← bstr_append, bstr_bts]
  simp [Lib.strCells]
theorem ob_ws {w W : World} {b : Nat} {L : List Nat} (s : ByteArray) (h : Ob w b L W) (hlen : L.length + s.size ≤ 140737488355328) :
    Calls Tryd.prog 16 #[.pointer (some ⟨b, 0, none⟩), .string s] W fun e w' => e = .returned (.tuple #[.int .i64 s.size, .nilIface]) ∧ Ob w b (L ++ bts s) w' ∧ Oth W w' := by
  obtain ⟨⟨v, h1⟩, hw⟩ := h
  refine (bu_writeString _ b v _ s W h1 (by rw [Lib.strCells_length, bstr_size]; exact hlen) hw.size).mono ?_
  rintro e w' ⟨rfl, v', h1', hfr, hb, hat⟩
  rw [strCells_app] at h1'
  exact ⟨rfl, ⟨⟨v', h1'⟩, hw.trans hb⟩, bu_oth h1 hfr⟩
theorem ob_wb {w W : World} {b : Nat} {L : List Nat} (x : Int) (h : Ob w b L W) (h0 : 0 ≤ x) (hx : x < 256) (hlen : L.length + 1 ≤ 140737488355328) :
    Calls Tryd.prog 25 #[.pointer (some ⟨b, 0, none⟩), .int .u8 x] W fun e w' => e = .returned .nilIface ∧ Ob w b (L ++ [x.toNat]) w' ∧ Oth W w' := by
  obtain ⟨⟨v, h1⟩, hw⟩ := h
  refine (bu_writeByte _ b v _ x W h1 (by rw [Lib.strCells_length, bstr_size]; exact hlen) hw.size).mono ?_
  rintro e w' ⟨rfl, v', h1', hfr, hb, hat⟩
  obtain ⟨n, rfl⟩ := Int.eq_ofNat_of_zero_le h0
  have e1 : Lib.strCells (bstr L) ++ [Value.int .u8 (n : Int)] = Lib.strCells (bstr (L ++ [n])) := by
    rw [← bstr_append]
    have e2 : (UInt8.ofNat n).toNat = n := by rw [UInt8.toNat_ofNat']; omega
    simp [Lib.strCells, bstr, e2]
  rw [e1] at h1'
  exact ⟨rfl, ⟨⟨v', by simpa using h1'⟩, hw.trans hb⟩, bu_oth h1 hfr⟩
theorem ob_str {w W : World} {b : Nat} {L : List Nat} (h : Ob w b L W) :
    Calls Tryd.prog 18 #[.pointer (some ⟨b, 0, none⟩)] W fun e w' => e = .returned (.string (bstr L)) ∧ Below w.heap.size w w' := by
  obtain ⟨⟨v, h1⟩, hw⟩ := h
  have hc := Tryd.Builder_String_any w.heap.size b (bstr L).data.toList W h1.old hw.size
  exact hc.mono fun e w' he => ⟨he.1, hw.trans he.2⟩
end Go.Proofs.YthacdfdnbhfooaaDoor
