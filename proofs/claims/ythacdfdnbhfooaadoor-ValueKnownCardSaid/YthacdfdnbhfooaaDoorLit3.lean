/- counterfoilref07.Check; what a call owns as text; counterfoilref07.Digits. Conditions: those of each lemma. -/
import Derived.Test.YthacdfdnbhfooaaDoorLit2
import Derived.Test.YthacdfdnbhfooaaDoorRefFixed
import Derived.Test.YthacdfdnbhfooaaDoorRows2
import Derived.Shelf.Bytes.SlSmallAll
namespace Go.Proofs.YthacdfdnbhfooaaDoor
open Go.RowKit
set_option linter.unusedVariables false
theorem str_em {s : ByteArray} (h : s.size ≠ 0) : s.toList.isEmpty = false := by
  have := str_no h
  cases hh : s.toList with
  | nil => exact absurd hh this
  | cons a l => rfl
theorem bne_yes {a b : Int} (h : ¬ a = b) : (a != b) = true := by rw [bne_iff_ne]; exact h
theorem bstr_app2 (a b : List Nat) : bstr a ++ bstr b = bstr (a ++ b) := by
  simp [bstr, ByteArray.ext_iff]
theorem reads1 (W : World) (g : Nat) (x : Value) (t : TypeId) (hg : W.heap.size = g) : Reads (W.alloc (.cells #[x] t)) (g + 1) 1 (some ⟨g, 0, none⟩) 1 [x] := by
  subst hg
  refine ⟨rfl, fun _ => ⟨_, rfl, by simp, fun j v hj => ?_⟩⟩
  have hb := Blk.new W t #[x]
  match j, hj with
  | 0, hj => simp at hj; subst hj; exact hb.cell 0
theorem reads2 (W : World) (g : Nat) (x y : Value) (t : TypeId) (hg : W.heap.size = g) : Reads (W.alloc (.cells #[x, y] t)) (g + 1) 1 (some ⟨g, 0, none⟩) 2 [x, y] := by
  subst hg
  refine ⟨rfl, fun _ => ⟨_, rfl, by simp, fun j v hj => ?_⟩⟩
  have hb := Blk.new W t #[x, y]
  match j, hj with
  | 0, hj => simp at hj; subst hj; exact hb.cell 0
  | 1, hj => simp at hj; subst hj; simp [Addr.add]
theorem own_next {w0 W : World} {base : Nat} {e : TypeId} {v : Value} {n : Nat} {xs : List Value} (h : W.ownsRow base e 1 v n xs) (hb : Below base w0 W) (hs : base ≤ W.heap.size) (o : Obj) : (W.alloc o).ownsRow base e 1 v n xs ∧ Below base w0 (W.alloc o) ∧ base ≤ (W.alloc o).heap.size :=
  ⟨own_below h ((Below.refl W.heap.size W).alloc (Nat.le_refl _) o), hb.alloc hs o, by simp; omega⟩
theorem base_le {w W : World} {B : Nat} {o : Obj} (h : Below B (w.alloc o) W) : w.heap.size + 1 ≤ W.heap.size := by have := h.size; simp at this; exact this
theorem vals8_app (l m : List Nat) : vals8 l ++ vals8 m = vals8 (l ++ m) := by simp [vals8]

/-- a row of bytes that a call owns, as text -/
theorem conv_own {W : World} {base c : Nat} {A : Option Addr} {L : List Nat} (h : W.ownsRow base 5 1 (.slice A L.length c) L.length (vals8 L)) :
    (convert 43 9 (.slice A L.length c)).run Tryd.prog W = .ok (.string (bstr L)) W := by
  by_cases h0 : L = []
  · subst h0
    exact run_convert_bytes_zero W 43 5 Tryd.underlying43 Tryd.underlying5 A c 9 Tryd.underlying9
  · obtain ⟨g, cap, hve, hl2, _, _, hcell⟩ := cells_of_own h (by cases L with | nil => exact absurd rfl h0 | cons a b => simp)
    obtain ⟨rfl, rfl⟩ : A = some ⟨g, 0, none⟩ ∧ c = cap := by injection hve with e1 _ e2; exact ⟨e1, e2⟩
    have hcv := run_convert_bytes_arg (P := Tryd.prog) W 43 5 Tryd.underlying43 Tryd.underlying5 g 0 L.length c (L.map Int.ofNat) (by simp) hcell 9 Tryd.underlying9
    rw [bstr_nums] at hcv
    exact hcv
theorem conv_one (W : World) (g n : Nat) (z : Int) (hg : W.heap.size = g) (hz : z = n) : (convert 43 9 (.slice (some ⟨g, 0, none⟩) 1 1)).run Tryd.prog (W.alloc (.cells #[.int .u8 z] 5)) = .ok (.string (bstr [n])) (W.alloc (.cells #[.int .u8 z] 5)) := by
  subst hg hz
  have hcv := run_convert_bytes_arg (P := Tryd.prog) (W.alloc (.cells #[.int .u8 (n : Int)] 5)) 43 5 Tryd.underlying43 Tryd.underlying5 W.heap.size 0 1 1 ([n].map Int.ofNat) (by simp) (fun i hi => by
    obtain rfl : i = 0 := by omega
    exact (Blk.new W 5 #[.int .u8 (n : Int)]).cell 0) 9 Tryd.underlying9
  rw [bstr_nums] at hcv
  exact hcv
theorem neg_parts (u : Nat) (h : u ≤ 9223372036854775808) (hu : 1 ≤ u) : (-(u : Int)).tdiv 10 = -((u / 10 : Nat) : Int) ∧ (-(u : Int)).tmod 10 = -((u % 10 : Nat) : Int) := by
  constructor
  · rw [Int.neg_tdiv]; rfl
  · rw [Int.neg_tmod]; rfl
end Go.Proofs.YthacdfdnbhfooaaDoor
