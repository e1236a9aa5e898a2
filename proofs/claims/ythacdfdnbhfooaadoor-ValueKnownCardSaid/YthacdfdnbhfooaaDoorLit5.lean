/- counterfoilref07.Literal, whole. Conditions: the numbers fit their kinds. -/
import Derived.Test.YthacdfdnbhfooaaDoorLit4
import Derived.Deep.RegionHeld3
import Derived.Deep.RegionLaw
namespace Go.Proofs.YthacdfdnbhfooaaDoor
open Go.RowKit
set_option linter.unusedVariables false
theorem step_append8 {P : Program} (w : World) {ops : Array Oper} {o : Oper} {a : Act} {K : Act → World → Prop} {Q : Exit → Act → World → Prop} {E : Prop} (hgd : o.guard = none) (s x : Operand) (t : TypeId)
    (ho : o.op = .call { callee := .builtin .append, args := #[s, x], argTypes := #[t, t] })
    (base : Nat) (e : TypeId) (i : TypeInfo) (z : Value) (size bytes : Nat) (ht : P.underlying t = some (.slice e)) (hi : P.info? e = some i) (hz : i.zero = some z)
    (hsize : i.size = size) (hby : i.bytes = bytes) (hzs : z.cells.size = size) (hsz : 0 < size)
    (v : Value) (n : Nat) (xs : List Value) (hs : a.eval s = v) (hown : w.ownsRow base e size v n xs)
    (B : Nat) (A : Option Addr) (m c : Nat) (news : List Value) (hx : a.eval x = .slice A m c) (hr : Reads w B size A m news) (h1 : ∀ u ∈ news, u.oneCell' = true)
    (h63 : n + m ≤ maxLen) (hbytes : (n + m) * bytes ≤ 140737488355328) (hbase : base ≤ w.heap.size)
    (h : ∀ A' c' w', w'.ownsRow base e size (.slice A' (n + m) c') (n + m) (xs ++ news) → w.grownBy w' v.ownBlock → K (a.put o.dst (.slice A' (n + m) c')) w') :
    if Region.wanted o (yielded ops a.tmps) = true then Oper.wp P o a w K Q else E := by
  have hw : Region.wanted o (yielded ops a.tmps) = true := by simp [Region.wanted, hgd]
  rw [if_pos hw]
  refine wp_append_any w s x t ho base e i z size bytes ht hi hz hsize hby hzs hsz v n xs hs hown B A m c news hx hr h1 h63 hbytes hbase fun v' w' h2 h3 h4 => ?_
  obtain ⟨A', c', rfl⟩ := own_form h2
  exact h A' c' w' h2 h3
theorem rl_drew {w W : World} {s : ByteArray} {k : Int} {A : Option Addr} {n c : Nat} {L : List Nat} (h : Rl w s k A n c L W) : Rl w s k A n c L W.drew := ⟨own_below h.1 ((Below.refl W.heap.size W).drew), h.2.1.drew, h.2.2.1.drew, h.2.2.2.1, h.2.2.2.2⟩
theorem reads2d (W : World) (g : Nat) (x y : Value) (t : TypeId) (hg : W.heap.size = g) : Reads (W.alloc (.cells #[x, y] t)).drew (g + 1) 1 (some ⟨g, 0, none⟩) 2 [x, y] := by
  subst hg
  refine ⟨rfl, fun _ => ⟨_, rfl, by simp, fun j v hj => ?_⟩⟩
  have hb := (Blk.new W t #[x, y]).drew
  match j, hj with
  | 0, hj => simp at hj; subst hj; exact hb.cell 0
  | 1, hj => simp at hj; subst hj; exact hb.cell 1
theorem rl_S {w W : World} {s : ByteArray} {k : Int} {A : Option Addr} {n c : Nat} {L : List Nat} (h : Rl w s k A n c L W) : W.cell? ⟨w.heap.size, 2, none⟩ = some (.string s) ∧ Rl w s k A n c L W := ⟨rl_cell h, h⟩
theorem hex_take {s : ByteArray} {j : Nat} (h : j < s.size) : hexL ((bts s).take (j + 1)) = hexL ((bts s).take j) ++ [hexc ((bts s).getD j 0 / 16), hexc ((bts s).getD j 0 % 16)] := by
  rw [List.take_succ_eq_append_getElem (by rw [bts_length]; exact h), List.getD_eq_getElem?_getD, List.getElem?_eq_getElem (by rw [bts_length]; exact h), hexL_app]; rfl
theorem hex_run (z : Int) (k : Nat) (hz : z = k) (hk : k < 16) (W : World) : (Instr.index 9 (.string ⟨#[48, 49, 50, 51, 52, 53, 54, 55, 56, 57, 97, 98, 99, 100, 101, 102]⟩) (.int .u8 z)).run Tryd.prog W = .ok (.int .u8 (hexc k : Nat)) W := by
  subst hz
  have e16 : (⟨#[48, 49, 50, 51, 52, 53, 54, 55, 56, 57, 97, 98, 99, 100, 101, 102]⟩ : ByteArray).size = 16 := rfl
  rw [run_index_string W 9 _ .u8 _ Tryd.underlying9, dif_pos ⟨by omega, by rw [e16]; omega⟩]
  have e : ((k : Int)).toNat = k := by omega
  simp only [e]
  rw [hex_get k hk]
end Go.Proofs.YthacdfdnbhfooaaDoor
