/- node.Take, whole: what it answers for any bytes up to 100000. Conditions: those of each lemma. -/
import Derived.Test.YticpenbebokjdaaDoorNd12a
import Derived.Test.YticpenbebokjdaaDoorNd12b
import Derived.Test.YticpenbebokjdaaDoorNd12c
import Derived.Test.YticpenbebokjdaaDoorNd12d
namespace Go.Proofs.YticpenbebokjdaaDoor
open Go.RowKit Go
theorem take_any (s : ByteArray) (w : World) (hs : s.size ≤ 100000) : Calls Tryd.prog 11 #[.string s] w fun e w' => TkP w s e w' := by
  have hb : ∀ b : Bool, b = false ∨ b = true := fun b => by cases b; exact .inl rfl; exact .inr rfl
  by_cases h1 : tkK s = 1
  · rcases hb (tkE s).2 with a | a
    · exact take_1a s w hs h1 a
    rcases hb (zer (tkE s).1) with b | b
    · exact take_1b s w hs h1 ⟨a, b⟩
    rcases hb (mayB (tkK s) (tkF s) (tkL s) (tkD s)) with c | c
    · exact take_1c s w hs h1 ⟨a, b, c⟩
    · exact take_1d s w hs h1 ⟨a, b, c⟩
  by_cases h2 : tkK s = 2
  · rcases hb (tkE s).2 with a | a
    · exact take_2a s w hs h2 a
    rcases hb (zer (tkE s).1) with b | b
    · exact take_2b s w hs h2 ⟨a, b⟩
    rcases hb (mayB (tkK s) (tkF s) (tkL s) (tkD s)) with c | c
    · exact take_2c s w hs h2 ⟨a, b, c⟩
    · exact take_2d s w hs h2 ⟨a, b, c⟩
  by_cases h3 : tkK s = 3
  · rcases hb (tkE s).2 with a | a
    · exact take_3a s w hs h3 a
    rcases hb (zer (tkE s).1) with b | b
    · exact take_3b s w hs h3 ⟨a, b⟩
    rcases hb (mayB (tkK s) (tkF s) (tkL s) (tkD s)) with c | c
    · exact take_3c s w hs h3 ⟨a, b, c⟩
    · exact take_3d s w hs h3 ⟨a, b, c⟩
  have ho : tkK s ≠ 1 ∧ tkK s ≠ 2 ∧ tkK s ≠ 3 := ⟨h1, h2, h3⟩
  rcases hb (tkS s).2 with d | d
  · exact take_o1 s w hs ho d
  by_cases hn : tkN s = 0
  · have a : (tkE s).2 = true := by
      unfold tkE
      rw [if_neg (by omega), if_neg h3, d, hn]
      rfl
    rcases hb (zer (tkE s).1) with b | b
    · exact take_ob s w hs ho ⟨a, b⟩
    rcases hb (mayB (tkK s) (tkF s) (tkL s) (tkD s)) with c | c
    · exact take_oc s w hs ho ⟨a, b, c⟩
    · exact take_od s w hs ho ⟨a, b, c⟩
  · exact take_o2 s w hs ho ⟨d, hn⟩
end Go.Proofs.YticpenbebokjdaaDoor
