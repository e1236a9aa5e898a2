/- Layer 13: from what the rows list to what the walks take: the tables of words and signs, the error of too great a number. Conditions: those of each lemma. -/
import Derived.Test.YtibnmkjabpoppaaGreatDoorRows
import Derived.Test.YtibnmkjabpoppaaGreatDoorLx18
import Derived.Test.YtibnmkjabpoppaaGreatDoorCardWrap13
import Derived.Stop.LaidErr
import Derived.Lib.LaidTab
import Derived.LaidLaws
import Derived.MakeChecks
namespace Go.Proofs.YtibnmkjabpoppaaGreatDoor
open Go Go.RowKit
set_option linter.unusedVariables false
/-- a table of texts, as a row lists it -/
def strData {H : Type} (ls : List ByteArray) : DataW H := .agg (ls.map fun s => .lit (.string s.data.toList))
theorem cells_of_strs {H : Type} {enc : TypeId × Value → H} {P : Program} {w : World} {base : Nat} {sp : Nat → Bool} {held : Bool} {fuel : Nat} {t e : TypeId} {n : Nat} {cs : List Value} {ls : List ByteArray} {p : List MemPlace}
    (ht : P.underlying t = some (.array n e)) (he : P.underlying e = some .string) (hce : P.cellsOf e = 1) (hct : P.cellsOf t = n)
    (h : DataW.trod enc P w base sp held fuel t cs = some (strData ls, p)) : cs = ls.map Value.string := by
  cases fuel with
  | zero => simp [DataW.trod] at h
  | succ fuel =>
    simp only [DataW.trod, ht, hce, hct, Nat.mul_one] at h
    split at h
    · rename_i hl
      obtain ⟨xs, hm, hx⟩ := Option.map_eq_some_iff.1 h
      have hxs : xs.map (·.1) = ls.map fun s => (DataW.lit (.string s.data.toList) : DataW H) := by
        have := congrArg Prod.fst hx
        simpa [strData] using this
      have hxl : xs.length = n := by simpa using Lib.mapM_length hm
      have hzl : ls.length = n := by
        have := congrArg List.length hxs
        simp at this
        omega
      apply List.ext_getElem?
      intro i
      by_cases hi : i < n
      · obtain ⟨b, hb, hf⟩ := Lib.mapM_at hm i i (by simp [hi])
        obtain ⟨s, hc, rfl, _⟩ := DataW.trod_string he hf
        have h1 : cs[i]? = some (.string s) := by
          have := congrArg (·[0]?) hc
          simpa [List.getElem?_take, List.getElem?_drop] using this
        have h2 : (xs.map (·.1))[i]? = some (DataW.lit (.string s.data.toList) : DataW H) := by simp [hb]
        rw [hxs] at h2
        simp only [List.getElem?_map, Option.map_eq_some_iff, DataW.lit.injEq, Lit.string.injEq] at h2
        obtain ⟨s', hs', he'⟩ := h2
        have : s' = s := ByteArray.ext (Array.ext' he')
        subst this
        simp [h1, hs']
      · rw [List.getElem?_eq_none (by omega), List.getElem?_eq_none (by simp; omega)]
    · cases h
theorem strs_of_head {P : Program} {W : World} {name : String} {ls : List ByteArray} {rest : List (String × DataW Unit)} {g : Nat} {t e : TypeId} {n : Nat}
    (hg : P.globalNamed name = some g) (hty : (P.globals[g]?).map (·.type) = some t) (ht : P.underlying t = some (.array n e)) (he : P.underlying e = some .string) (hce : P.cellsOf e = 1) (hct : P.cellsOf t = n)
    (h : laidMet P ((name, strData ls) :: rest) W) : W.var? P name = some (ls.map Value.string).toArray := by
  obtain ⟨ps, ⟨g', t', cs, fuel, p, q, hg', ht', hvar, hd, _, _⟩, _⟩ := h
  obtain rfl := Option.some.inj (hg.symm.trans hg')
  obtain rfl := Option.some.inj (hty.symm.trans ht')
  rw [hvar, ← cells_of_strs ht he hce hct hd]
/-- what every walk of this layer asks of the world -/
def Gt (W : World) : Prop := Tb W ∧ Er W
theorem gt_step {W W' : World} (h : Gt W) (hb : Below W.heap.size W W') : Gt W' := ⟨tb_step h.1 hb, er_step h.2 hb⟩
theorem gn_ran : Tryz.prog.globalNamed "strconv.ErrRange" = some 7 := by kernel_rfl
theorem gty_ran : (Tryz.prog.globals[7]?).map (·.type) = some 42 := by kernel_rfl
theorem gty_wd : (Tryz.prog.globals[0]?).map (·.type) = some 75 := by kernel_rfl
theorem gty_sg : (Tryz.prog.globals[1]?).map (·.type) = some 78 := by kernel_rfl
theorem cells_es : Tryz.prog.cellsOf 128 = 1 := by kernel_rfl
theorem cells_str : Tryz.prog.cellsOf 9 = 1 := by kernel_rfl
theorem cells_wd : Tryz.prog.cellsOf 75 = 43 := by kernel_rfl
theorem cells_sg : Tryz.prog.cellsOf 78 = 17 := by kernel_rfl
theorem wd_data : (Rows.laid_counterfoil_lex_words : DataW Unit) = strData wordsB := by rfl
theorem sg_data : (Rows.laid_counterfoil_lex_signs : DataW Unit) = strData signsB := by rfl
theorem star_es : "*" ++ "errors.errorString" = "*errors.errorString" := by decide
theorem row_es (u : TypeId) (h : Tryz.prog.typeName? 3 u = some "*errors.errorString") : u = 126 :=
  typeName_ptr_named (nm := "errors.errorString") (by rw [star_es]; kernel_rfl) (by kernel_rfl) (by decide) u (by rw [star_es]; exact h)
theorem gt_at {W : World} {d : String × DataW Unit} {r : List (String × DataW Unit)}
    (h : laidMet Tryz.prog (("strconv.ErrRange", Rows.laid_strconv_ErrRange) :: d :: ("counterfoil/lex.words", Rows.laid_counterfoil_lex_words) :: ("counterfoil/lex.signs", Rows.laid_counterfoil_lex_signs) :: r) W) : Gt W := by
  obtain ⟨a1, s1, hv1, -, -, -⟩ := laid_sentinel h gn_ran gty_ran Tryz.underlying42 row_es Tryz.underlying126 Tryz.underlying128 rfl rfl Tryz.underlying9 cells_es cells_str
  have h2 := h.tail.tail
  rw [wd_data, sg_data] at h2
  have hw := strs_of_head gn_wd gty_wd Tryz.underlying75 Tryz.underlying9 cells_str cells_wd h2
  have hs := strs_of_head gn_sg gty_sg Tryz.underlying78 Tryz.underlying9 cells_str cells_sg h2.tail
  have c1 := World.var?_cell gn_ran hv1 0
  exact ⟨⟨hs, hw⟩, _, _, by simpa using c1⟩
theorem gt_of {W : World} {a b c d : String × DataW Unit} {r : List (String × DataW Unit)}
    (h : laidMet Tryz.prog (a :: b :: c :: ("strconv.ErrRange", Rows.laid_strconv_ErrRange) :: d :: ("counterfoil/lex.words", Rows.laid_counterfoil_lex_words) :: ("counterfoil/lex.signs", Rows.laid_counterfoil_lex_signs) :: r) W) : Gt W := gt_at h.tail.tail.tail
theorem gt_of2 {W : World} {a b c x d : String × DataW Unit} {r : List (String × DataW Unit)}
    (h : laidMet Tryz.prog (a :: b :: c :: x :: ("strconv.ErrRange", Rows.laid_strconv_ErrRange) :: d :: ("counterfoil/lex.words", Rows.laid_counterfoil_lex_words) :: ("counterfoil/lex.signs", Rows.laid_counterfoil_lex_signs) :: r) W) : Gt W := gt_at h.tail.tail.tail.tail
end Go.Proofs.YtibnmkjabpoppaaGreatDoor
