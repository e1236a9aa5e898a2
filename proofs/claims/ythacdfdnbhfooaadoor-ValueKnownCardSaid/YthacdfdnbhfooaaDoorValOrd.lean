/- The order of values and rows: the document's own, and the program's. Conditions: those of each lemma. -/
import Derived.Test.YthacdfdnbhfooaaDoorProg
import Derived.Test.YthacdfdnbhfooaaDoorVal
import Derived.Deep.QuietTactic
import Derived.BigQuiet
import Derived.Deep.RegionWith
namespace Go.Proofs.YthacdfdnbhfooaaDoor
open Go.RowKit
set_option linter.unusedVariables false
def cmpI (a b : Int) : Int := if a < b then -1 else if a > b then 1 else 0
/-- two texts, byte by byte -/
def cmpL : List Nat → List Nat → Int
  | [], [] => 0
  | [], _ :: _ => -1
  | _ :: _, [] => 1
  | a :: r, b :: s => if a < b then -1 else if b < a then 1 else cmpL r s
def valCmp (x y : Val) : Int := if x.1 ≠ y.1 then cmpI x.1 y.1 else if x.1 = 1 then cmpI x.2.1 y.2.1 else if x.1 = 2 ∨ x.1 = 3 then cmpL (bts x.2.2) (bts y.2.2) else 0
def rowCmp : List Val → List Val → Int
  | [], [] => 0
  | [], _ :: _ => -1
  | _ :: _, [] => 1
  | x :: a, y :: b => if valCmp x y ≠ 0 then valCmp x y else rowCmp a b
theorem cmpL_lt {a b : Nat} {r s : List Nat} (h : a < b) : cmpL (a :: r) (b :: s) = -1 := by simp [cmpL, h]
theorem cmpL_gt {a b : Nat} {r s : List Nat} (h : b < a) : cmpL (a :: r) (b :: s) = 1 := by simp [cmpL, h]; omega
theorem cmpL_eq {a : Nat} {r s : List Nat} : cmpL (a :: r) (a :: s) = cmpL r s := by simp [cmpL]
theorem cmpL_len : ∀ (a b : List Nat), (a = [] ∨ b = []) → cmpL a b = cmpI a.length b.length
  | [], [], _ => rfl
  | [], _ :: _, _ => by simp [cmpL, cmpI]; try omega
  | _ :: _, [], _ => by simp [cmpL, cmpI]; try omega
  | _ :: _, _ :: _, h => by simp at h
theorem rowCmp_len : ∀ (a b : List Val), (a = [] ∨ b = []) → rowCmp a b = cmpI a.length b.length
  | [], [], _ => rfl
  | [], _ :: _, _ => by simp [rowCmp, cmpI]; try omega
  | _ :: _, [], _ => by simp [rowCmp, cmpI]; try omega
  | _ :: _, _ :: _, h => by simp at h
end Go.Proofs.YthacdfdnbhfooaaDoor
