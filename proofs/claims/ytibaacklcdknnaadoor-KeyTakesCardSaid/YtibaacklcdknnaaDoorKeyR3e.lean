/- counterfoilref08.First. Condition: the text has no more than a hundred thousand bytes. -/
import Derived.Test.YtibaacklcdknnaaDoorKeyR3b
import Derived.Test.YtibaacklcdknnaaDoorKeyR3c
import Derived.Test.YtibaacklcdknnaaDoorKeyR3d
namespace Go.Proofs.YtibaacklcdknnaaDoor
open Go.RowKit
set_option linter.unusedVariables false
theorem refFirst (s : ByteArray) (w : World) (hsz : s.size ≤ 100000) : Calls Tryd.prog 9 #[.string s] w (FirP (bts s) w) := by
  cases h : bts s with
  | nil =>
    obtain rfl := empty_of (s := s) (by rw [← bts_length, h]; rfl)
    exact refFirst_nil w
  | cons c r =>
    rw [← h]
    by_cases h1 : c = 1
    · subst h1; exact refFirst_1 s r w hsz h
    · by_cases h2 : c = 2
      · subst h2; exact refFirst_2 s r w hsz h
      · by_cases h3 : c = 3
        · subst h3; exact refFirst_3 s r w hsz h
        · by_cases h4 : c = 4
          · subst h4; exact refFirst_4 s r w hsz h
          · exact refFirst_bad s c r w hsz h (by omega)
end Go.Proofs.YtibaacklcdknnaaDoor
