/- A letter of a row set: the row behind it. Conditions: those of each lemma. -/
import Derived.Test.YtndlcjpkpkfcpaaNt16
namespace Go.Proofs.Ytndlcjpkpkfcpaa
open Go.RowKit Go Go.Maps
set_option linter.unusedVariables false
set_option linter.unusedSimpArgs false
theorem ltCs_set {k : Int} {x : Lt} (a : Lt) : ∀ (L : List Lt) (j : Nat), Up L → L[j]? = some x → x.id = k → setLt L k a = L.take j ++ a :: L.drop (j + 1)
  | [], j, _, h, _ => by simp at h
  | z :: L, 0, hu, h, hk => by
    obtain rfl : z = x := by simpa using h
    obtain ⟨h1, h2⟩ := List.pairwise_cons.1 hu
    have e : setLt L k a = L := by
      unfold setLt
      conv => rhs; rw [← List.map_id L]
      exact List.map_congr_left fun y hy => by
        have := h1 y hy
        rw [if_neg (by omega)]; rfl
    show (if z.id = k then a else z) :: setLt L k a = _
    rw [if_pos hk, e]
    rfl
  | z :: L, j + 1, hu, h, hk => by
    obtain ⟨h1, h2⟩ := List.pairwise_cons.1 hu
    have hx : L[j]? = some x := by simpa using h
    have hlt := h1 x (List.mem_of_getElem? hx)
    show (if z.id = k then a else z) :: setLt L k a = _
    rw [if_neg (by omega), ltCs_set a L j h2 hx hk]
    rfl
theorem own_some {W : World} {base : Nat} {v : Value} {L : List Lt} (h : W.ownsRow base 31 5 v L.length (ltCs L)) (h0 : 0 < L.length) : ∃ g c, v = .slice (some ⟨g, 0, none⟩) L.length c ∧ base ≤ g := by
  rcases h.2 with ⟨_, hn⟩ | ⟨g, cap, cur, hv, hbg, _⟩
  · omega
  · exact ⟨g, cap, hv, hbg⟩
theorem ref_reads {gr base : Nat} {L : List Lt} {N : Int} {W : World} (h : RefS gr base L N W) {A : Option Addr} {n c : Nat} (hc : W.cell? ⟨gr, 0, none⟩ = some (.slice A n c)) : n = L.length ∧ Reads W W.heap.size 5 A L.length (ltCs L) := by
  obtain ⟨v, h1, h2, _⟩ := h
  obtain ⟨A', c', rfl⟩ := own_form h2
  have e := h1.cell 0
  have e2 : some (Value.slice A' L.length c') = some (.slice A n c) := e.symm.trans hc
  cases e2
  exact ⟨rfl, own_reads h2⟩
theorem own_set {W : World} {base g c n : Nat} {xs : List Value} (h : W.ownsRow base 31 5 (.slice (some ⟨g, 0, none⟩) n c) n xs) (i : Nat) (u : Value) : (W.setCell ⟨g, i, none⟩ u).ownsRow base 31 5 (.slice (some ⟨g, 0, none⟩) n c) n (xs.set i u) := by
  rcases h.2 with ⟨h0, _⟩ | ⟨g', cap, cur, hv, hbg, hg, h1, h2, h3, h4⟩
  · simp at h0
  · cases hv
    have hb : Blk W g 31 cur := hg
    refine ⟨by rw [List.length_set]; exact h.1, .inr ⟨g, c, cur.setIfInBounds i u, rfl, hbg, hb.set_ i u, h1, h2, by simpa using h3, ?_⟩⟩
    rw [← h4]
    simp [List.take_set]
/-- a letter's five cells set -/
theorem own_set5 {W : World} {base g c : Nat} {L : List Lt} {j : Nat} (h : W.ownsRow base 31 5 (.slice (some ⟨g, 0, none⟩) L.length c) L.length (ltCs L)) (hj : j < L.length) (a : Lt) : (((((W.setCell ⟨g, j * 5, none⟩ (.int .i64 a.id)).setCell ⟨g, j * 5 + 1, none⟩ (.int .i64 a.fr)).setCell ⟨g, j * 5 + 2, none⟩ (.int .i64 a.to)).setCell ⟨g, j * 5 + 3, none⟩ (.string a.bytes)).setCell ⟨g, j * 5 + 4, none⟩ (.bool a.sp)).ownsRow base 31 5 (.slice (some ⟨g, 0, none⟩) L.length c) L.length (ltCs (L.take j ++ a :: L.drop (j + 1))) := by
  have h5 := own_set (own_set (own_set (own_set (own_set h (j * 5) (.int .i64 a.id)) (j * 5 + 1) (.int .i64 a.fr)) (j * 5 + 2) (.int .i64 a.to)) (j * 5 + 3) (.string a.bytes)) (j * 5 + 4) (.bool a.sp)
  have key : (((((ltCs L).set (j * 5) (.int .i64 a.id)).set (j * 5 + 1) (.int .i64 a.fr)).set (j * 5 + 2) (.int .i64 a.to)).set (j * 5 + 3) (.string a.bytes)).set (j * 5 + 4) (.bool a.sp) = ltCs (L.take j ++ a :: L.drop (j + 1)) := by
    clear h h5
    induction L generalizing j with
    | nil => simp at hj
    | cons z L ih =>
      cases j with
      | zero => simp [ltCs]
      | succ j =>
        have hj' : j < L.length := by simpa using hj
        have i2 := ih hj'
        have ec : ltCs (z :: L) = [Value.int .i64 z.id, .int .i64 z.fr, .int .i64 z.to, .string z.bytes, .bool z.sp] ++ ltCs L := rfl
        have es : ∀ (M : List Value) (q : Nat) (u : Value), ([Value.int .i64 z.id, .int .i64 z.fr, .int .i64 z.to, .string z.bytes, .bool z.sp] ++ M).set ((j + 1) * 5 + q) u = [Value.int .i64 z.id, .int .i64 z.fr, .int .i64 z.to, .string z.bytes, .bool z.sp] ++ M.set (j * 5 + q) u := fun M q u => by
          rw [show (j + 1) * 5 + q = (j * 5 + q) + 5 from by omega]
          rfl
        rw [ec]
        have e0 := es (ltCs L) 0 (.int .i64 a.id)
        simp only [Nat.add_zero] at e0
        rw [e0, es, es, es, es, i2]
        rfl
  rw [← key]
  exact h5
end Go.Proofs.Ytndlcjpkpkfcpaa
