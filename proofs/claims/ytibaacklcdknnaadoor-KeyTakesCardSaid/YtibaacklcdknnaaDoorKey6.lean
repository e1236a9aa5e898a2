/- key.Take, key.First. Condition: the text has no more than a million bytes. -/
import Derived.Test.YtibaacklcdknnaaDoorProg
import Derived.Test.YtibaacklcdknnaaDoorKey5
namespace Go.Proofs.YtibaacklcdknnaaDoor
open Go.RowKit
set_option linter.unusedVariables false

/-- what key.Take answers -/
def KTakeP (L : List Nat) (w : World) (e : Ending) (w' : World) : Prop :=
  ∃ (A : Option Addr) (n c : Nat) (er : Int) (l : List Val), e = .returned (.tuple #[.slice A n c, .int .i64 er]) ∧ Vals w' w'.heap.size A l ∧ n = l.length ∧ n ≤ L.length ∧ n ≤ c ∧ (∀ x ∈ l, Fits x ∧ chk x = 0) ∧ Below w.heap.size w w' ∧
    ((takeK L = none ∧ l = [] ∧ er = 7) ∨ (takeK L = some l ∧ er = 0))
set_option maxRecDepth 100000 in
set_option maxHeartbeats 2000000 in
theorem ktake_any (s : ByteArray) (w : World) (hs : s.size ≤ 1000000) : Calls Tryd.prog 6 #[.string s] w (KTakeP (bts s) w) := by
  have hc := taken_any s w hs
  have HC := Lib.hid hc
  clear hc hs
  go_enter Tryd.func6, Tryd.ntmps6
  go_wp2_with fail
  refine (HC.out).mono ?_
  rintro e w2 ⟨hb, ⟨hn, rfl⟩ | ⟨l, A, c, hl, rfl, hv, hf, hlen, hcap⟩⟩
  · have HP : Hid (KTakeP (bts s) w (.returned (.tuple #[.slice none 0 0, .int .i64 7])) w2) := Lib.hid ⟨none, 0, 0, 7, [], rfl, .inl rfl, rfl, by omega, by omega, (fun x hx => by cases hx), hb, .inl ⟨hn, rfl, rfl⟩⟩
    clear hb hn
    go_wp2
    go_ret2
    exact HP.out
  · have HP : Hid (KTakeP (bts s) w (.returned (.tuple #[.slice A l.length c, .int .i64 0])) w2) := Lib.hid ⟨A, l.length, c, 0, l, rfl, hv, rfl, hlen, hcap, hf, hb, .inr ⟨hl, rfl⟩⟩
    clear hb hl hv hf hlen hcap
    go_wp2
    go_ret2
    exact HP.out
/-- what key.First answers -/
def firstZ (L : List Nat) : Int × Int := match oneT L with
  | some (_, k) => ((k : Nat), 0)
  | none => (0, 7)
set_option maxRecDepth 100000 in
set_option maxHeartbeats 2000000 in
theorem kfirst_any (s : ByteArray) (w : World) (hs : s.size ≤ 1000000) : Calls Tryd.prog 8 #[.string s] w fun e w' => e = .returned (.tuple #[.int .i64 (firstZ (bts s)).1, .int .i64 (firstZ (bts s)).2]) ∧ Below w.heap.size w w' := by
  have hc := fun W => one_any s W (by omega)
  have HC := Lib.hid hc
  clear hc hs
  go_enter Tryd.func8, Tryd.ntmps8
  go_wp2_with fail
  refine (HC.out _).mono ?_
  rintro e w2 ⟨hb, ⟨⟨k, q, y⟩, sz, hone, rfl⟩ | ⟨hone, ⟨k, q, y⟩, sz, rfl⟩⟩
  · have HP : Hid ((firstZ (bts s)).1 = sz ∧ (firstZ (bts s)).2 = 0) := Lib.hid (by unfold firstZ; rw [hone]; exact ⟨rfl, rfl⟩)
    clear hone
    go_wp2
    go_ret2
    first
      | exact ⟨by rw [HP.out.1, HP.out.2]; rfl, hb⟩
      | exact ⟨by rw [HP.out.1, HP.out.2]; rfl, hb.alloc hb.size _⟩
  · have HP : Hid ((firstZ (bts s)).1 = 0 ∧ (firstZ (bts s)).2 = 7) := Lib.hid (by unfold firstZ; rw [hone]; exact ⟨rfl, rfl⟩)
    clear hone
    go_wp2
    go_ret2
    first
      | exact ⟨by rw [HP.out.1, HP.out.2]; rfl, hb⟩
      | exact ⟨by rw [HP.out.1, HP.out.2]; rfl, hb.alloc hb.size _⟩
end Go.Proofs.YtibaacklcdknnaaDoor
