/- What the two closures of package sum make of a pair and a block's words. Conditions: the numbers fit their kind. -/
import Derived.Test.YthipaabjmlgjmaaProg
import Derived.WalkKit
import Derived.WalkSpells
import Derived.WalkLawsBesides
import Derived.Lib.Hide
namespace Go.Proofs.Ythipaabjmlgjmaa
open Go.RowKit
def pair (a b : Int) : Value := .agg #[.int .u32 a, .int .u32 b]
theorem ragg {a b c d : Int} (h1 : a = c) (h2 : b = d) : Ending.returned (.agg #[.int .u32 a, .int .u32 b]) = .returned (.agg #[.int .u32 c, .int .u32 d]) := by rw [h1, h2]
def addA (a b x : Int) : Int := (a + (x + b)) % 4294967296
def addB (a b x y : Int) : Int := (b + (y + (a + (x + b)))) % 4294967296
def backB (a b y : Int) : Int := (b - (y + a)) % 4294967296
def backA (a b x y : Int) : Int := (a - (x + (b - (y + a)))) % 4294967296
set_option maxRecDepth 100000 in
set_option maxHeartbeats 4000000 in
theorem add1_any (a b x y : Nat) (w : World) (ha : a < 4294967296) (hb : b < 4294967296) (hx : x < 4294967296) (hy : y < 4294967296) :
    Calls Try.prog 94 #[.agg #[.int .u32 a, .int .u32 b], .agg #[.int .u32 x, .int .u32 y]] w fun e w' => e = .returned (.agg #[.int .u32 (addA a b x), .int .u32 (addB a b x y)]) ∧ Below w.heap.size w w' := by
  have h1 : Hid (addA a b x = ((a : Int) + (x + b)) % 4294967296) := Lib.hid rfl
  have h2 : Hid (addB a b x y = ((b : Int) + (y + (a + (x + b)))) % 4294967296) := Lib.hid rfl
  have fin : ∀ n : Nat, n = 0 ∨ ((n : Int) == 0) = false := fun n => by
    rcases Nat.eq_zero_or_pos n with h | h
    · exact .inl h
    · right; simp; omega
  by_cases hz : a = 0 ∧ b = 0 ∧ x = 0 ∧ y = 0
  · obtain ⟨rfl, rfl, rfl, rfl⟩ := hz
    clear fin
    go_enter Try.func94, Try.ntmps94
    go_wp2
    refine bodyPost_ret (v := .agg #[.int .u32 0, .int .u32 0]) (by simp [results, Try.results94, go_sem]) rfl ⟨ragg (by rw [h1.out]; rfl) (by rw [h2.out]; rfl), ?_⟩
    exact (((Below.refl _ _).alloc (Nat.le_refl _) _).alloc (by simp) _).alloc (by simp; omega) _
  · have hw : Hid (∀ (P : Prop), (((a : Int) == 0) = false → P) → (((a : Int) == 0) = true → ((b : Int) == 0) = false → P) → (((a : Int) == 0) = true → ((b : Int) == 0) = true → ((x : Int) == 0) = false → P) → (((a : Int) == 0) = true → ((b : Int) == 0) = true → ((x : Int) == 0) = true → ((y : Int) == 0) = false → P) → P) := Lib.hid (by
      intro P p1 p2 p3 p4
      have t : ∀ n : Nat, n = 0 → ((n : Int) == 0) = true := fun n h => by subst h; rfl
      rcases fin a with e1 | e1
      · rcases fin b with e2 | e2
        · rcases fin x with e3 | e3
          · rcases fin y with e4 | e4
            · exact absurd ⟨e1, e2, e3, e4⟩ hz
            · exact p4 (t a e1) (t b e2) (t x e3) e4
          · exact p3 (t a e1) (t b e2) e3
        · exact p2 (t a e1) e2
      · exact p1 e1)
    clear fin hz
    refine hw.out _ (fun e1 => ?_) (fun e1 e2 => ?_) (fun e1 e2 e3 => ?_) (fun e1 e2 e3 e4 => ?_)
    all_goals
      clear hw
      go_enter Try.func94, Try.ntmps94
      go_wp2
      refine bodyPost_ret (v := .agg #[.int .u32 (((a : Int) + (x + b)) % 4294967296), .int .u32 (((b : Int) + (y + (a + (x + b)))) % 4294967296)]) (by simp [results, Try.results94, go_sem]) rfl ⟨ragg (by rw [h1.out]) (by rw [h2.out]), ?_⟩
      exact (((Below.refl _ _).alloc (Nat.le_refl _) _).alloc (by simp) _).alloc (by simp; omega) _
end Go.Proofs.Ythipaabjmlgjmaa
