/- Layer 22: cmp.Or of two, the order of changes. Conditions: those of each lemma. -/
import Derived.Test.YtocbdehcjcggeaaCg3
import Derived.Test.YtocbdehcjcggeaaValCmp
namespace Go.Proofs.Ytocbdehcjcggeaa
open Go.RowKit Go
set_option linter.unusedVariables false
set_option linter.unusedSimpArgs false
def or2 (x y : Int) : Int := if x = 0 then y else x
set_option maxRecDepth 100000 in
set_option maxHeartbeats 4000000 in
theorem or2_any (b c : Nat) (x y : Int) (w : World) (h0 : w.cell? ⟨b, 0, none⟩ = some (.int .i64 x)) (h1 : w.cell? ⟨b, 1, none⟩ = some (.int .i64 y)) :
    Calls Try.prog 59 #[.slice (some ⟨b, 0, none⟩) 2 c] w fun e w' => e = .returned (.int .i64 (or2 x y)) ∧ w' = w := by
  have H := Lib.hid (And.intro h0 h1)
  clear h0 h1
  go_enter Try.func59, Try.ntmps59
  go_wp2
  go_loopw [8] (fun i wr => ∃ j : Nat, j ≤ 2 ∧ i = .int .i64 j ∧ wr = w ∧ (0 < j → x = 0) ∧ (1 < j → y = 0)) (fun i _ => 2 - (intOf i).toNat)
  case atStart => exact ⟨0, by omega, rfl, rfl, by omega, by omega⟩
  case round =>
    obtain ⟨j, hj, rfl, rfl, e1, e2⟩ := hrel
    have : j = 0 ∨ j = 1 ∨ j = 2 := by omega
    rcases this with rfl | rfl | rfl
    · have g := H.out.1
      by_cases hx : x = 0
      · subst hx
        go_wp2
        go_roundw
        case rel => refine ⟨1, by omega, ?_, ?_, ?_, ?_⟩ <;> simp
        case measure => simp [intOf]
      · have hb : (x != 0) = true := by rw [bne_iff_ne]; exact hx
        have HX := Lib.hid hx
        clear hx
        go_wp2
        go_ret
        exact ⟨by rw [or2, if_neg HX.out]; rfl, rfl⟩
    · have g := H.out.2
      have hx0 := e1 (by omega)
      subst hx0
      by_cases hx : y = 0
      · subst hx
        go_wp2
        go_roundw
        case rel => refine ⟨2, by omega, ?_, ?_, ?_, ?_⟩ <;> simp
        case measure => simp [intOf]
      · have hb : (y != 0) = true := by rw [bne_iff_ne]; exact hx
        have HX := Lib.hid hx
        clear hx
        go_wp2
        go_ret
        exact ⟨by rw [or2, if_pos rfl]; rfl, rfl⟩
    · have hx0 := e1 (by omega)
      have hy0 := e2 (by omega)
      subst hx0 hy0
      go_wp2
      go_ret
      exact ⟨rfl, rfl⟩
/-- the order of changes -/
def cgCmp (x y : Cg) : Int := or2 (cmpL (bts x.t) (bts y.t)) (rowCmp x.k y.k)
/-- two changes, boxed -/
def Cx (w : World) (x y : Array Value) (W : World) : Prop := Blk W w.heap.size 33 x ∧ Blk W (w.heap.size + 1) 33 y ∧ Below w.heap.size w W ∧ w.heap.size + 2 ≤ W.heap.size
theorem cx_step {w W W' : World} {x y : Array Value} (h : Cx w x y W) (hb : Below W.heap.size W W') : Cx w x y W' := ⟨blk_step h.1 hb, blk_step h.2.1 hb, bj h.2.2.1 hb, Nat.le_trans h.2.2.2 hb.size⟩
theorem cx_drew {w W : World} {x y : Array Value} {n : Nat} (h : Cx w x y W) : Cx w x y (W.drewN n) := cx_step h (below_drewN (Below.refl _ _) n)
theorem cx_drew1 {w W : World} {x y : Array Value} (h : Cx w x y W) : Cx w x y W.drew := cx_step h (Below.refl _ _).drew
theorem cx_cells {w W : World} {x y : Cg} (h : Cx w (cgC x) (cgC y) W) : W.cell? ⟨w.heap.size, 0, none⟩ = some (.string x.t) ∧ W.cell? ⟨w.heap.size, 1, none⟩ = some (.slice x.kA x.k.length x.kc) ∧ W.cell? ⟨w.heap.size + 1, 0, none⟩ = some (.string y.t) ∧ W.cell? ⟨w.heap.size + 1, 1, none⟩ = some (.slice y.kA y.k.length y.kc) := ⟨h.1.cell 0, h.1.cell 1, h.2.1.cell 0, h.2.1.cell 1⟩
end Go.Proofs.Ytocbdehcjcggeaa
