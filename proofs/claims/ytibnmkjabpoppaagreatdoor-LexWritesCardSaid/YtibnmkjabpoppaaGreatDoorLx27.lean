/- Layer 13: tokens in memory; slices.Equal of tokens that are the same; law13's works. Conditions: those of each lemma. -/
import Derived.Test.YtibnmkjabpoppaaGreatDoorLx26
import Derived.Test.YtibnmkjabpoppaaGreatDoorCardGl13
import Derived.Deep.QuietTactic
import Derived.BigQuiet
namespace Go.Proofs.YtibnmkjabpoppaaGreatDoor
open Go Go.RowKit
set_option linter.unusedVariables false
set_option linter.unusedSimpArgs false
/-- tokens lie where a slice points to -/
def TksAt (W : World) (A : Option Addr) (l : List TK) : Prop := l = [] ∨ ∃ g o, A = some ⟨g, o, none⟩ ∧ g < W.heap.size ∧ ∀ (j k : Nat) (x : ByteArray) (n p : Nat), l[j]? = some (k, x, n, p) → W.cell? ⟨g, o + j * 4, none⟩ = some (.int .u8 k) ∧ W.cell? ⟨g, o + j * 4 + 1, none⟩ = some (.string x) ∧ W.cell? ⟨g, o + j * 4 + 2, none⟩ = some (.int .u64 n) ∧ W.cell? ⟨g, o + j * 4 + 3, none⟩ = some (.int .i64 p)
theorem tks_step {W W' : World} {A : Option Addr} {l : List TK} (h : TksAt W A l) (hb : Below W.heap.size W W') : TksAt W' A l := by
  rcases h with h | ⟨g, o, h1, h2, h3⟩
  · exact .inl h
  · refine .inr ⟨g, o, h1, Nat.lt_of_lt_of_le h2 hb.size, fun j k x n p hj => ?_⟩
    obtain ⟨a, b, c, d⟩ := h3 j k x n p hj
    exact ⟨(hb.cell (p := ⟨g, _, none⟩) h2).trans a, (hb.cell (p := ⟨g, _, none⟩) h2).trans b, (hb.cell (p := ⟨g, _, none⟩) h2).trans c, (hb.cell (p := ⟨g, _, none⟩) h2).trans d⟩
theorem tkCs_get : ∀ (l : List TK) (j k : Nat) (x : ByteArray) (n p : Nat), l[j]? = some (k, x, n, p) → (tkCs l)[j * 4]? = some (.int .u8 k) ∧ (tkCs l)[j * 4 + 1]? = some (.string x) ∧ (tkCs l)[j * 4 + 2]? = some (.int .u64 n) ∧ (tkCs l)[j * 4 + 3]? = some (.int .i64 p)
  | [], j, k, x, n, p, h => by simp at h
  | t :: l, 0, k, x, n, p, h => by
    simp only [List.getElem?_cons_zero, Option.some.injEq] at h
    subst h
    simp [tkCs]
  | t :: l, j + 1, k, x, n, p, h => by
    have ih := tkCs_get l j k x n p (by simpa using h)
    have e : tkCs (t :: l) = [.int .u8 t.1, .string t.2.1, .int .u64 t.2.2.1, .int .i64 t.2.2.2] ++ tkCs l := by simp [tkCs]
    rw [e]
    refine ⟨?_, ?_, ?_, ?_⟩
    · rw [List.getElem?_append_right (by simp; omega)]; simpa [show (j + 1) * 4 - 4 = j * 4 by omega] using ih.1
    · rw [List.getElem?_append_right (by simp; omega)]; simpa [show (j + 1) * 4 + 1 - 4 = j * 4 + 1 by omega] using ih.2.1
    · rw [List.getElem?_append_right (by simp; omega)]; simpa [show (j + 1) * 4 + 2 - 4 = j * 4 + 2 by omega] using ih.2.2.1
    · rw [List.getElem?_append_right (by simp; omega)]; simpa [show (j + 1) * 4 + 3 - 4 = j * 4 + 3 by omega] using ih.2.2.2
theorem tks_own {W : World} {base c : Nat} {A : Option Addr} {l : List TK} (h : W.ownsRow base 34 4 (.slice A l.length c) l.length (tkCs l)) : TksAt W A l := by
  by_cases h0 : l = []
  · exact .inl h0
  · have hn : 0 < l.length := by
      cases l with
      | nil => exact absurd rfl h0
      | cons a l => simp
    obtain ⟨g, cap, hv, _, hlt⟩ := h.form hn
    obtain ⟨rfl, -, rfl⟩ : A = some ⟨g, 0, none⟩ ∧ True ∧ c = cap := by injection hv with e1 _ e2; exact ⟨e1, trivial, e2⟩
    refine .inr ⟨g, 0, rfl, hlt, fun j k x n p hj => ?_⟩
    obtain ⟨a, b, c, d⟩ := tkCs_get l j k x n p hj
    have key : ∀ i u, (tkCs l)[i]? = some u → W.cell? ⟨g, 0 + i, none⟩ = some u := by
      intro i u hi
      have hc := h.cells (g := g) rfl i u hi
      have e1 : (⟨g, 0, none⟩ : Addr).add i = ⟨g, 0 + i, none⟩ := by unfold Addr.add; split <;> simp_all
      rw [e1] at hc
      exact hc
    refine ⟨key _ _ a, ?_, ?_, ?_⟩
    · have := key _ _ b; rwa [← Nat.add_assoc] at this
    · have := key _ _ c; rwa [← Nat.add_assoc] at this
    · have := key _ _ d; rwa [← Nat.add_assoc] at this
theorem tok_works : tokensA ⟨#[83, 69, 76, 69, 67, 84, 32, 97, 49, 44, 50]⟩ = .ok ((1, ⟨#[83, 69, 76, 69, 67, 84]⟩, 0, 0) :: (2, ⟨#[97, 49]⟩, 0, 7) :: (6, ⟨#[44]⟩, 0, 9) :: (3, ⟨#[]⟩, 2, 10) :: []) := by kernel_rfl
set_option maxRecDepth 100000 in
set_option maxHeartbeats 4000000 in
theorem works13_any (w : World) (hG : Gt w) : Calls Tryz.prog 4 #[] w fun e w' => e = .returned (.bool true) ∧ Below w.heap.size w w' := by
  have HT := Lib.hid (tokens_any ⟨#[83, 69, 76, 69, 67, 84, 32, 97, 49, 44, 50]⟩ w hG.1 hG.2)
  rw [tok_works] at HT
  go_enter Tryz.func4, Tryz.ntmps4
  go_wp2_with fail
  refine (HT.out).mono ?_
  rintro e w1 ⟨hb1, ⟨e0, q0, h, _⟩ | ⟨l, A, c, h, rfl, ho⟩⟩
  · cases h
  injection h with h
  subst h
  have HB1 := Lib.hid hb1
  have hrow := (tks_own ho).resolve_left (by simp)
  obtain ⟨g, o, rfl, hlt, hc⟩ := hrow
  obtain ⟨a0, a1, a2, a3⟩ := hc 0 _ _ _ _ rfl
  obtain ⟨b0, b1, b2, b3⟩ := hc 1 _ _ _ _ rfl
  obtain ⟨c0, c1, c2, c3⟩ := hc 2 _ _ _ _ rfl
  obtain ⟨d0, d1, d2, d3⟩ := hc 3 _ _ _ _ rfl
  have key : ∀ {i u}, w1.cell? ⟨g, i, none⟩ = some u → (w1.alloc (.cells #[.int .i64 0, .int .i64 0] 29)).cell? ⟨g, i, none⟩ = some u := fun hh => ((one_alloc (w := w1)).cell (p := ⟨g, _, none⟩) hlt).trans hh
  have a0' := key a0; have a1' := key a1; have a2' := key a2; have a3' := key a3
  have b0' := key b0; have b1' := key b1; have b2' := key b2; have b3' := key b3
  have c0' := key c0; have c1' := key c1; have c2' := key c2; have c3' := key c3
  have d0' := key d0; have d1' := key d1; have d2' := key d2; have d3' := key d3
  clear ho hc key hb1 HT a0 a1 a2 a3 b0 b1 b2 b3 c0 c1 c2 c3 d0 d1 d2 d3
  simp only [Nat.zero_mul, Nat.add_zero, Nat.one_mul] at a0' a1' a2' a3' b0' b1' b2' b3' c0' c1' c2' c3' d0' d1' d2' d3'
  unfold spotV
  go_wp2
  go_ret
  exact ⟨rfl, bj13 HB1.out one_alloc⟩
theorem toksA_len (S : ByteArray) : ∀ (f p : Nat) (l : List TK), toksA S f p = .ok l → l.length ≤ f
  | 0, p, l, h => by injection h with h; subst h; exact Nat.le_refl _
  | f + 1, p, l, h => by
    by_cases hp : p < S.size
    · cases hA : aloA S p with
      | bad e q => rw [toksA_bad hp hA] at h; cases h
      | ok k x n a q =>
        have h2 := toksA_ok (f := f) hp hA []
        rw [h] at h2
        cases hr : toksA S f (q + sk ((bts S).drop q)) with
        | error e => rw [hr] at h2; cases h2
        | ok m =>
          rw [hr] at h2
          injection h2 with h2
          have ih := toksA_len S f _ m hr
          simp only [List.nil_append] at h2
          rw [h2]
          simp
          omega
    · rw [toksA_end hp] at h
      injection h with h
      subst h
      exact Nat.zero_le _
theorem tokensA_len {S : ByteArray} {l : List TK} (h : tokensA S = .ok l) : S.size ≤ 4096 ∧ l.length ≤ 4097 := by
  unfold tokensA at h
  by_cases hs : 4096 < S.size
  · rw [if_pos hs] at h; cases h
  · rw [if_neg hs] at h
    have := toksA_len S _ _ l h
    omega
end Go.Proofs.YtibnmkjabpoppaaGreatDoor
