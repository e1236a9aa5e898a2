/- From what the rows list to what the walks take: the table of powers, the two errors, MaxLen's cell. Conditions: those of each lemma. -/
import Derived.Test.YthacdfdnbhfooaaDoorRows
import Derived.Test.YthacdfdnbhfooaaDoorLit1
import Derived.Test.YthacdfdnbhfooaaDoorCardWrap
import Derived.Stop.LaidErr
import Derived.Lib.LaidTab
import Derived.LaidLaws
import Derived.MakeChecks
namespace Go.Proofs.YthacdfdnbhfooaaDoor
open Go.RowKit
set_option linter.unusedVariables false
theorem gty_pow : (Tryd.prog.globals[1]?).map (·.type) = some 98 := by kernel_rfl
theorem cells_pow : Tryd.prog.cellsOf 98 = 20 := by kernel_rfl
theorem cells_u64 : Tryd.prog.cellsOf 70 = 1 := by kernel_rfl
theorem pow_data : (Rows.laid_internal_strconv_uint64pow10 : DataW Unit) = Lib.tabData .u64 Lib.pow10Tab := by rfl
theorem gn_syn : Tryd.prog.globalNamed "strconv.ErrSyntax" = some 2 := by kernel_rfl
theorem gn_ran : Tryd.prog.globalNamed "strconv.ErrRange" = some 3 := by kernel_rfl
theorem gty_syn : (Tryd.prog.globals[2]?).map (·.type) = some 48 := by kernel_rfl
theorem gty_ran : (Tryd.prog.globals[3]?).map (·.type) = some 48 := by kernel_rfl
theorem cells_es : Tryd.prog.cellsOf 116 = 1 := by kernel_rfl
theorem cells_str : Tryd.prog.cellsOf 9 = 1 := by kernel_rfl
theorem star_es : "*" ++ "errors.errorString" = "*errors.errorString" := by decide
theorem row_es (u : TypeId) (h : Tryd.prog.typeName? 3 u = some "*errors.errorString") : u = 114 :=
  typeName_ptr_named (nm := "errors.errorString") (by rw [star_es]; kernel_rfl) (by kernel_rfl) (by decide) u (by rw [star_es]; exact h)
theorem gl_of {W : World} {a b c : String × DataW Unit} {r : List (String × DataW Unit)}
    (hL : laidMet Tryd.prog (a :: b :: ("internal/strconv.uint64pow10", Rows.laid_internal_strconv_uint64pow10) :: c :: ("strconv.ErrRange", Rows.laid_strconv_ErrRange) :: ("strconv.ErrSyntax", Rows.laid_strconv_ErrSyntax) :: r) W) (hm : ∃ m, W.cell? ⟨0, 0, none⟩ = some (.int .i64 m)) : Gl W := by
  obtain ⟨m, hm⟩ := hm
  have h2 := hL.tail.tail
  rw [pow_data] at h2
  have ht := Lib.tabIs_of_head gn_pow gty_pow Tryd.underlying98 Tryd.underlying70 cells_u64 cells_pow h2
  have h4 := h2.tail.tail
  obtain ⟨a1, s1, hv1, -, -, -⟩ := laid_sentinel h4 gn_ran gty_ran Tryd.underlying48 row_es Tryd.underlying114 Tryd.underlying116 rfl rfl Tryd.underlying9 cells_es cells_str
  obtain ⟨a0, s0, hv0, -, -, -⟩ := laid_sentinel h4.tail gn_syn gty_syn Tryd.underlying48 row_es Tryd.underlying114 Tryd.underlying116 rfl rfl Tryd.underlying9 cells_es cells_str
  have c0 := World.var?_cell gn_syn hv0 0
  have c1 := World.var?_cell gn_ran hv1 0
  exact ⟨m, _, _, _, _, hm, ht, by simpa using c0, by simpa using c1⟩
end Go.Proofs.YthacdfdnbhfooaaDoor
