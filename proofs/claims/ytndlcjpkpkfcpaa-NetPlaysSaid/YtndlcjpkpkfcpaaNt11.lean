/- ref25's net in memory; at, add. Conditions: those of each lemma. -/
import Derived.Test.YtndlcjpkpkfcpaaNt9
namespace Go.Proofs.Ytndlcjpkpkfcpaa
open Go.RowKit Go Go.Maps
set_option linter.unusedVariables false
set_option linter.unusedSimpArgs false
/-- letters as they lie at a place -/
def LtsAt (W : World) (B : Nat) (A : Option Addr) (L : List Lt) : Prop := L = [] ∨ ∃ g o, A = some ⟨g, o, none⟩ ∧ g < B ∧ ∀ (j : Nat) x, L[j]? = some x → W.cell? ⟨g, o + j * 5, none⟩ = some (.int .i64 x.id) ∧ W.cell? ⟨g, o + j * 5 + 1, none⟩ = some (.int .i64 x.fr) ∧ W.cell? ⟨g, o + j * 5 + 2, none⟩ = some (.int .i64 x.to) ∧ W.cell? ⟨g, o + j * 5 + 3, none⟩ = some (.string x.bytes) ∧ W.cell? ⟨g, o + j * 5 + 4, none⟩ = some (.bool x.sp)
theorem ltCs_at : ∀ (L : List Lt) (j : Nat) (x : Lt), L[j]? = some x → (ltCs L)[j * 5]? = some (.int .i64 x.id) ∧ (ltCs L)[j * 5 + 1]? = some (.int .i64 x.fr) ∧ (ltCs L)[j * 5 + 2]? = some (.int .i64 x.to) ∧ (ltCs L)[j * 5 + 3]? = some (.string x.bytes) ∧ (ltCs L)[j * 5 + 4]? = some (.bool x.sp)
  | [], j, x, h => by simp at h
  | a :: L, 0, x, h => by
    obtain rfl : a = x := by simpa using h
    simp [ltCs]
  | a :: L, j + 1, x, h => by
    have ih := ltCs_at L j x (by simpa using h)
    have e : ∀ i, (ltCs (a :: L))[(j + 1) * 5 + i]? = (ltCs L)[j * 5 + i]? := fun i => by
      have e2 : ltCs (a :: L) = [.int .i64 a.id, .int .i64 a.fr, .int .i64 a.to, .string a.bytes, .bool a.sp] ++ ltCs L := rfl
      rw [e2, List.getElem?_append_right (by simp; omega)]
      congr 1
      simp
      omega
    exact ⟨(e 0).trans ih.1, (e 1).trans ih.2.1, (e 2).trans ih.2.2.1, (e 3).trans ih.2.2.2.1, (e 4).trans ih.2.2.2.2⟩
theorem lts_of_own {W : World} {base : Nat} {v : Value} {L : List Lt} (h : W.ownsRow base 31 5 v L.length (ltCs L)) : ∃ A c, v = .slice A L.length c ∧ LtsAt W W.heap.size A L := by
  rcases h.2 with ⟨h0, hn⟩ | ⟨g, cap, cur, hv, hbg, hg, hr⟩
  · exact ⟨none, 0, by rw [h0, hn], .inl (List.length_eq_zero_iff.1 hn)⟩
  · have hb : Blk W g 31 cur := hg
    refine ⟨_, cap, hv, .inr ⟨g, 0, rfl, hb.lt, fun j x hx => ?_⟩⟩
    obtain ⟨h0, h1, h2, h3, h4⟩ := ltCs_at L j x hx
    have ea : ∀ i, (⟨g, 0, none⟩ : Addr).add i = ⟨g, 0 + i, none⟩ := fun i => by unfold Addr.add; split <;> simp_all
    have cc : ∀ i u, (ltCs L)[i]? = some u → W.cell? ⟨g, 0 + i, none⟩ = some u := fun i u hu => by
      have := h.cells (g := g) (by rw [hv]; rfl) i u hu
      rw [ea] at this
      exact this
    exact ⟨cc _ _ h0, cc _ _ h1, cc _ _ h2, cc _ _ h3, cc _ _ h4⟩
theorem lts_step {w W : World} {B : Nat} {A : Option Addr} {L : List Lt} (h : LtsAt w B A L) (hb : Below B w W) : LtsAt W B A L := by
  rcases h with h | ⟨g, o, hA, hl, hc⟩
  · exact .inl h
  · refine .inr ⟨g, o, hA, hl, fun j x hx => ?_⟩
    obtain ⟨h0, h1, h2, h3, h4⟩ := hc j x hx
    exact ⟨(hb.cell (p := ⟨g, o + j * 5, none⟩) hl).trans h0, (hb.cell (p := ⟨g, o + j * 5 + 1, none⟩) hl).trans h1, (hb.cell (p := ⟨g, o + j * 5 + 2, none⟩) hl).trans h2, (hb.cell (p := ⟨g, o + j * 5 + 3, none⟩) hl).trans h3, (hb.cell (p := ⟨g, o + j * 5 + 4, none⟩) hl).trans h4⟩
/-- ref25's net at gr -/
def RefS (gr : Nat) (base : Nat) (L : List Lt) (N : Int) (W : World) : Prop := ∃ v, Blk W gr 42 #[v, .int .i64 N] ∧ W.ownsRow base 31 5 v L.length (ltCs L) ∧ (∀ k, v.ownBlock = some k → k ≠ gr) ∧ base ≤ gr
theorem ref_step {gr base : Nat} {L : List Lt} {N : Int} {W W' : World} (h : RefS gr base L N W) (hb : Below W.heap.size W W') : RefS gr base L N W' := by
  obtain ⟨v, h1, h2, h3⟩ := h
  exact ⟨v, blk_step h1 hb, own_below h2 hb, h3⟩
/-- the place of a letter -/
def atZ : List Lt → Int → Nat → Int
  | [], _, _ => -1
  | a :: L, k, j => if a.id = k then (j : Int) else atZ L k (j + 1)
set_option maxRecDepth 100000 in
set_option maxHeartbeats 4000000 in
theorem at_any (gr base : Nat) (L : List Lt) (N k : Int) (w : World) (hs : RefS gr base L N w) (hl : L.length ≤ 64) :
    Calls Try.prog 33 #[.pointer (some ⟨gr, 0, none⟩), .int .i64 k] w fun e w' => e = .returned (.int .i64 (atZ L k 0)) ∧ w = w' := by
  obtain ⟨v, hb, ho, _⟩ := hs
  obtain ⟨A, c, rfl, hlt⟩ := lts_of_own ho
  obtain ⟨c0, c1⟩ := pair_at hb
  have hlI : (L.length : Int) ≤ 64 := by omega
  clear ho hb hl
  by_cases h0 : L = []
  · subst h0
    clear hlt
    go_enter Try.func33, Try.ntmps33
    go_wp2
    go_loopw [5] (fun i wr => i = .int .i64 0 ∧ w = wr) (fun _ _ => 0)
    case atStart => exact ⟨rfl, rfl⟩
    case round =>
      obtain ⟨rfl, rfl⟩ := hrel
      simp only [List.length_nil] at c0
      go_wp2
      go_ret
      exact ⟨rfl, by first | rfl | trivial⟩
  · rcases hlt with hlt | ⟨g, o, rfl, hgl, hc⟩
    · exact absurd hlt h0
    have HC := Lib.hid hc
    clear hc h0 hgl
    go_enter Try.func33, Try.ntmps33
    go_wp2
    go_loopw [5] (fun i wr => ∃ j : Nat, j ≤ L.length ∧ i = .int .i64 j ∧ atZ L k 0 = atZ (L.drop j) k j ∧ w = wr) (fun i _ => L.length - (intOf i).toNat)
    case atStart => exact ⟨0, by omega, rfl, rfl, rfl⟩
    case round =>
      obtain ⟨j, hj, rfl, heq, rfl⟩ := hrel
      by_cases hjn : j < L.length
      · have hd : L.drop j = L[j] :: L.drop (j + 1) := List.drop_eq_getElem_cons hjn
        obtain ⟨a0, _⟩ := HC.out j L[j] (List.getElem?_eq_getElem hjn)
        rw [hd, atZ] at heq
        generalize L[j] = x at *
        obtain ⟨xi, xf, xt, xb, xs⟩ := x
        simp only at a0 heq
        have hjI : (j : Int) < L.length := by omega
        by_cases hk : xi = k
        · subst hk
          rw [if_pos rfl] at heq
          have HE := Lib.hid heq
          clear heq hd
          go_wp2
          go_ret
          exact ⟨by rw [HE.out]; rfl, by first | rfl | trivial⟩
        · rw [if_neg hk] at heq
          have HE := Lib.hid heq
          have hkb : (xi == k) = false := by simp [hk]
          clear heq hd hk
          go_wp2
          go_roundw
          case rel => exact ⟨j + 1, by omega, by go_num, HE.out, by first | rfl | trivial⟩
          case measure => simp [intOf]; omega
      · obtain rfl : j = L.length := by omega
        rw [List.drop_length, atZ] at heq
        have HE := Lib.hid heq
        clear heq
        go_wp2
        go_ret
        exact ⟨by rw [HE.out]; rfl, by first | rfl | trivial⟩
end Go.Proofs.Ytndlcjpkpkfcpaa
