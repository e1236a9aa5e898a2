/- Layer 13: from what the rows of the laws that write list to what their walks take. Conditions: those of each lemma. -/
import Derived.Test.YtibnmkjabpoppaaGreatDoorCardGl13
import Derived.Test.YtibnmkjabpoppaaGreatDoorLx29
namespace Go.Proofs.YtibnmkjabpoppaaGreatDoor
open Go Go.RowKit
set_option linter.unusedVariables false
theorem maxLen_cell13 {W : World} (h : W.ShapedOpen Tryz.prog) : ∃ m, W.cell? ⟨3, 0, none⟩ = some (.int .i64 m) :=
  Go.Proofs.cell_of_shapedOpen_int (P := Tryz.prog) (g := 3) (zero := #[.int .i64 0]) (t := 3) h (of_decide_eq_true (by kernel_rfl)) (by kernel_rfl) rfl (by kernel_rfl) (by kernel_rfl) Tryz.underlying3
theorem gty_pow : (Tryz.prog.globals[2]?).map (·.type) = some 102 := by kernel_rfl
theorem cells_pow : Tryz.prog.cellsOf 102 = 20 := by kernel_rfl
theorem cells_u64 : Tryz.prog.cellsOf 32 = 1 := by kernel_rfl
theorem pow_data : (Rows.laid_internal_strconv_uint64pow10 : DataW Unit) = Lib.tabData .u64 Lib.pow10Tab := by rfl
theorem gv_of {W : World} {a b x d : String × DataW Unit} {r : List (String × DataW Unit)}
    (h : laidMet Tryz.prog (a :: b :: ("internal/strconv.uint64pow10", Rows.laid_internal_strconv_uint64pow10) :: x :: ("strconv.ErrRange", Rows.laid_strconv_ErrRange) :: d :: ("counterfoil/lex.words", Rows.laid_counterfoil_lex_words) :: ("counterfoil/lex.signs", Rows.laid_counterfoil_lex_signs) :: r) W)
    (hm : ∃ m, W.cell? ⟨3, 0, none⟩ = some (.int .i64 m)) : Gv W := by
  have hG := gt_of2 h
  have h2 := h.tail.tail
  rw [pow_data] at h2
  exact ⟨hG, Lib.tabIs_of_head gn_pow gty_pow Tryz.underlying102 Tryz.underlying32 cells_u64 cells_pow h2, hm⟩
end Go.Proofs.YtibnmkjabpoppaaGreatDoor
