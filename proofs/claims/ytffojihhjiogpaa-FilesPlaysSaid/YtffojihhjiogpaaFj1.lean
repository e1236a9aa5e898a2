/- Layer 3: ref03's files in memory; nought, does. Conditions: those of each lemma. -/
import Derived.Test.YtffojihhjiogpaaFi28
namespace Go.Proofs.Ytffojihhjiogpaa
open Go.RowKit Go Go.Maps
set_option linter.unusedVariables false
set_option linter.unusedSimpArgs false
def strL (l : Fl) : List Value := l.map fun s => Value.string (bstr s)
theorem strL_len (l : Fl) : (strL l).length = l.length := by simp [strL]
theorem strL_app (a b : Fl) : strL (a ++ b) = strL a ++ strL b := by simp [strL]
theorem strL_one (l : Fl) : ∀ u ∈ strL l, u.oneCell' = true := by
  intro u hu
  obtain ⟨s, _, rfl⟩ := List.mem_map.1 hu
  rfl
theorem strL_get {l : Fl} {j : Nat} {s : Sec} (h : l[j]? = some s) : (strL l)[j]? = some (.string (bstr s)) := by simp [strL, h]
/-- ref03's file at a place -/
def RdS (W : World) (A : Option Addr) (l : Fl) : Prop := Reads W W.heap.size 1 A l.length (strL l)
theorem rdS_get {W : World} {A : Option Addr} {l : Fl} (h : RdS W A l) {j : Nat} (hj : j < l.length) : ∃ a, A = some a ∧ a.block < W.heap.size ∧ ∀ k s, l[k]? = some s → W.cell? (a.add k) = some (.string (bstr s)) := by
  obtain ⟨a, hA, hb, hc⟩ := h.2 (by omega)
  exact ⟨a, hA, hb, fun k s hs => hc k _ (strL_get hs)⟩
theorem rdS_below {W W' : World} {A : Option Addr} {l : Fl} (h : RdS W A l) (hb : Below W.heap.size W W') : RdS W' A l := (h.below hb).more hb.size
theorem rdS_nil (W : World) (A : Option Addr) : RdS W A [] := ⟨rfl, fun h => absurd h (Nat.lt_irrefl 0)⟩
theorem own_belowJ {W W' : World} {base : Nat} {e : TypeId} {size n : Nat} {v : Value} {xs : List Value} (h : W.ownsRow base e size v n xs) (hb : Below W.heap.size W W') : W'.ownsRow base e size v n xs :=
  own_block h (fun z hz => hb.block z ((h.lt z hz).2))
theorem own_lowJ {W : World} {base base' : Nat} {e : TypeId} {size n : Nat} {v : Value} {xs : List Value} (h : W.ownsRow base e size v n xs) (hb : base' ≤ base) : W.ownsRow base' e size v n xs := by
  refine ⟨h.1, ?_⟩
  rcases h.2 with hn | ⟨g, cap, cur, hv, hg, rest⟩
  · exact .inl hn
  · exact .inr ⟨g, cap, cur, hv, Nat.le_trans hb hg, rest⟩
def OwnS (W : World) (base : Nat) (v : Value) (l : Fl) : Prop := W.ownsRow base 9 1 v l.length (strL l)
theorem ownS_snoc {W : World} {base n m : Nat} {v : Value} {l : Fl} {s : Sec} (hn : n = l.length) (hm : m = n + 1) (h : W.ownsRow base 9 1 v m (strL l ++ [.string (bstr s)])) : OwnS W base v (l ++ [s]) := by
  subst hn hm
  unfold OwnS
  rw [List.length_append, strL_app]
  exact h
theorem ownS_rd {W : World} {base n c : Nat} {A : Option Addr} {l : Fl} (h : OwnS W base (.slice A n c) l) : n = l.length ∧ RdS W A l := by
  have e : n = l.length := by
    obtain ⟨A', c', he⟩ := own_form h
    injection he
  subst e
  exact ⟨rfl, Reads.of_own h⟩
/-- the one cell of a slice that was built -/
theorem reads_one {W : World} {g : Nat} {t : TypeId} {v : Value} (h : Blk W g t #[v]) : Reads W W.heap.size 1 (some ⟨g, 0, none⟩) 1 [v] := by
  refine ⟨rfl, fun _ => ⟨_, rfl, h.lt, fun j u hj => ?_⟩⟩
  match j, hj with
  | 0, hj =>
    simp at hj; subst hj
    have := h.cell 0
    simpa [Addr.add] using this
  | j + 1, hj => simp at hj
theorem str_info : (Try.prog.info? 9).map (fun i => (i.zero, i.size, i.bytes)) = some (some (.string ⟨#[]⟩), 1, 16) := by kernel_rfl
set_option maxRecDepth 100000 in
set_option maxHeartbeats 4000000 in
theorem nought_any (w : World) : Calls Try.prog 61 #[] w fun e w' => e = .returned (.string (bstr zS)) ∧ Below w.heap.size w w' := by
  obtain ⟨i0, hi0, hz0, hz1, hz2⟩ := info_parts u8_info
  have hr := run_make (P := Try.prog) w 75 5 i0 _ Try.underlying75 hi0 hz0 .i64 .i64 64 64 (by omega) (Int.le_refl _) (by rw [hz2]; omega) (by omega)
  rw [hz1] at hr
  have hmk : (Instr.makeSlice 75 (.int .i64 64) (.int .i64 64)).run Try.prog w = .ok (.slice (some ⟨w.heap.size, 0, none⟩) 64 64) (w.alloc (.cells (madeCells #[Value.int .u8 0] 64) 5)) := hr
  have hcv := run_convert_bytes_arg (P := Try.prog) (w.alloc (.cells (madeCells #[Value.int .u8 0] 64) 5)) 75 5 Try.underlying75 Try.underlying5 w.heap.size 0 64 64 (zS.map Int.ofNat) (by simp [zS]) (fun i hi => by
    rw [World.cell?_alloc_mark]
    have e1 : (madeCells #[Value.int .u8 0] 64)[0 + i]? = some (.int .u8 0) := by
      rw [Nat.zero_add, Array.getElem?_eq_getElem (by simp [madeCells]; exact hi)]
      simp [madeCells, Value.cells, Nat.mod_one]
    have e2 : (zS.map Int.ofNat).getD i 0 = 0 := by
      rw [List.getD_eq_getElem?_getD, List.getElem?_map]
      unfold zS
      rw [List.getElem?_replicate]
      split <;> rfl
    rw [e1, e2]) 9 Try.underlying9
  rw [bstr_nums] at hcv
  clear hr hi0 hz0 hz1 hz2
  go_enter Try.func61, Try.ntmps61
  go_wp2
  go_ret
  exact ⟨rfl, one_alloc⟩
end Go.Proofs.Ytffojihhjiogpaa
