/- What sum.block answers: the two words of the block that begins there, filled up with bytes 0. Conditions: the place is one of the text, which is no longer than a machine has addresses. -/
import Derived.Test.YthipaabjmlgjmaaProg
import Derived.Test.YthipaabjmlgjmaaSumWord
import Derived.Test.YthipaabjmlgjmaaSumStep
import Derived.RegionTactic
import Derived.ChangeAlike
import Derived.Laws.CopyOwn
import Derived.Lib.IndexBytes
namespace Go.Proofs.Ythipaabjmlgjmaa
open Go.RowKit
open Go.Lib
/-- the word that begins at a place -/
def wd (L : List Nat) (i : Nat) : Nat := L.getD i 0 * 16777216 + L.getD (i + 1) 0 * 65536 + L.getD (i + 2) 0 * 256 + L.getD (i + 3) 0
theorem wd_lt (s : ByteArray) (i : Nat) : wd (bts s) i < 4294967296 := by
  have h0 := bts_getD_lt s i
  have h1 := bts_getD_lt s (i + 1)
  have h2 := bts_getD_lt s (i + 2)
  have h3 := bts_getD_lt s (i + 3)
  unfold wd; omega
def zero8 : Array Value := #[.int .u8 0, .int .u8 0, .int .u8 0, .int .u8 0, .int .u8 0, .int .u8 0, .int .u8 0, .int .u8 0]
def W0 (w : World) : World := ((w.alloc (.cells #[.int .u32 0, .int .u32 0] 157)).alloc (.cells zero8 163))
theorem info_u8s : (Try.prog.info? 5).map (·.size) = some 1 := by kernel_rfl
theorem copied (s : ByteArray) (j : Nat) (w : World) (hj : j < s.size) :
    ∃ W2 n, (Builtin.copy_ #[43, 9] 3 #[.slice (some ⟨w.heap.size + 1, 0, none⟩) 8 8, .string (s.extract j s.size)]).run Try.prog (W0 w).drew = .ok (.int .i64 n) W2 ∧
      (∀ k, k < 8 → W2.cell? ⟨w.heap.size + 1, k, none⟩ = some (.int .u8 (((bts s).getD (j + k) 0 : Nat) : Int))) ∧
      W2.cell? ⟨w.heap.size, 0, none⟩ = some (.int .u32 0) ∧ W2.cell? ⟨w.heap.size, 1, none⟩ = some (.int .u32 0) ∧ W2.frozen? ⟨w.heap.size, 0, none⟩ = false ∧ W2.frozen? ⟨w.heap.size, 1, none⟩ = false ∧
      W2.heap.size = w.heap.size + 1 + 1 ∧ Below w.heap.size w W2 := by
  have hsz : (s.extract j s.size).size = s.size - j := by simp
  have hd : (s.extract j s.size).data.toList = s.data.toList.drop j := extract_to_end s j
  have hg : (W0 w).drew.heap[w.heap.size + 1]? = some (.cells zero8 163 (0, 0)) := by
    show ((w.alloc _).alloc _).heap[w.heap.size + 1]? = _
    have := heap_alloc_new (w.alloc (.cells #[.int .u32 0, .int .u32 0] 157)) (.cells zero8 163)
    simpa using this
  have hg0 : (W0 w).drew.heap[w.heap.size]? = some (.cells #[.int .u32 0, .int .u32 0] 157 (0, 0)) := by
    show ((w.alloc _).alloc _).heap[w.heap.size]? = _
    rw [Below.heap_alloc _ _ _ (by simp)]
    exact heap_alloc_new w _
  obtain ⟨m, hm⟩ : ∃ m, Nat.min (s.extract j s.size).size 8 = m := ⟨_, rfl⟩
  have m8 : m ≤ 8 := by rw [← hm]; exact Nat.min_le_right _ _
  have mj : m ≤ s.size - j := by rw [← hm, ← hsz]; exact Nat.min_le_left _ _
  have mk : ∀ k, k < 8 → k < s.size - j → k < m := fun k h1 h2 => by rw [← hm]; exact Nat.lt_min.2 ⟨by rw [hsz]; exact h2, h1⟩
  have hrun := run_copy_min (P := Try.prog) (W0 w).drew 43 9 3 5 (w.heap.size + 1) 0 8 8 m (s.extract j s.size) zero8 163 Try.underlying43 info_u8s hg hm (by show 0 + m ≤ 8; omega)
  have hne : w.heap.size ≠ w.heap.size + 1 := by omega
  clear hm
  refine ⟨_, _, hrun, fun k hk => ?_, ?_, ?_, ?_, ?_, ?_, ?_⟩
  · rw [cell_setRow_same _ _ _ _ _ _ _ hg, hd]
    simp only [List.take_zero, List.nil_append, Nat.zero_add, List.getElem?_toArray]
    have hdl : (s.data.toList.drop j).length = s.size - j := by rw [List.length_drop, ← size_eq]
    have hl : (byteCells (List.take m (s.data.toList.drop j))).length = m := by
      rw [byteCells_length, List.length_take, hdl]; omega
    by_cases hk2 : k < m
    · have hk3 : j + k < s.size := by omega
      rw [List.getElem?_append_left (by rw [hl]; exact hk2)]
      have hb : j + k < (bts s).length := by rw [bts_length]; exact hk3
      rw [List.getD_eq_getElem?_getD, List.getElem?_eq_getElem hb]
      unfold byteCells bts
      rw [List.getElem?_map, List.getElem?_take, if_pos hk2, List.getElem?_drop, List.getElem?_eq_getElem (by rw [← size_eq]; exact hk3)]
      simp only [Option.map_some, Option.getD_some]
      exact congrArg (fun z : Nat => some (Value.int .u8 (z : Int))) (List.getElem_map UInt8.toNat).symm
    · have hk3 : s.size ≤ j + k := by
        rcases Nat.lt_or_ge (j + k) s.size with h | h
        · exact absurd (mk k hk (by omega)) hk2
        · exact h
      rw [List.getElem?_append_right (by rw [hl]; omega), hl]
      have hz : (bts s).getD (j + k) 0 = 0 := by rw [List.getD_eq_getElem?_getD, List.getElem?_eq_none (by rw [bts_length]; exact hk3)]; rfl
      rw [hz, List.getElem?_drop, show m + (k - m) = k from by omega]
      obtain rfl | rfl | rfl | rfl | rfl | rfl | rfl | rfl : k = 0 ∨ k = 1 ∨ k = 2 ∨ k = 3 ∨ k = 4 ∨ k = 5 ∨ k = 6 ∨ k = 7 := by omega
      all_goals rfl
  · rw [cell_setRow_other _ _ _ _ hne, cell_of_row _ _ _ _ _ _ hg0]; rfl
  · rw [cell_setRow_other _ _ _ _ hne, cell_of_row _ _ _ _ _ _ hg0]; rfl
  · rw [World.frozen?_of_block (w := (W0 w).drew) (setRow_other _ _ _ _ hne)]; simp [World.frozen?, hg0]
  · rw [World.frozen?_of_block (w := (W0 w).drew) (setRow_other _ _ _ _ hne)]; simp [World.frozen?, hg0]
  · rw [setRow_size]; simp [W0, World.drew]
  · exact below_setRow (((Below.refl _ _).alloc (Nat.le_refl _) _).alloc (by simp) _).drew (by omega) _
set_option maxRecDepth 100000 in
set_option maxHeartbeats 2000000 in
theorem block_nat (s : ByteArray) (j : Nat) (w : World) (hj : j < s.size) (_hs : s.size ≤ 140737488351232) :
    Calls Try.prog 97 #[.string s, .int .i64 j] w fun e w' => e = .returned (.agg #[.int .u32 (wd (bts s) j), .int .u32 (wd (bts s) (j + 4))]) ∧ Below w.heap.size w w' := by
  have hj1 : (j : Int) ≤ s.size := by omega
  obtain ⟨W2, n, hcp, hcells, hr0, hr1, hf0, hf1, hsz, hbel⟩ := copied s j w hj
  unfold W0 zero8 at hcp
  have L := bts_getD_lt s
  have c0 := hcells 0 (by omega)
  have c1 := hcells 1 (by omega)
  have c2 := hcells 2 (by omega)
  have c3 := hcells 3 (by omega)
  have c4 := hcells 4 (by omega)
  have c5 := hcells 5 (by omega)
  have c6 := hcells 6 (by omega)
  have c7 := hcells 7 (by omega)
  have hw0 : Hid ((((wd (bts s) j : Nat) : Int)) = (((bts s).getD (j + 0) 0 : Nat) : Int) * 16777216 + (((bts s).getD (j + 1) 0 : Nat) : Int) * 65536 + (((bts s).getD (j + 2) 0 : Nat) : Int) * 256 + (((bts s).getD (j + 3) 0 : Nat) : Int)) := Lib.hid (by unfold wd; simp)
  have hw4 : Hid ((((wd (bts s) (j + 4) : Nat) : Int)) = (((bts s).getD (j + 4) 0 : Nat) : Int) * 16777216 + (((bts s).getD (j + 5) 0 : Nat) : Int) * 65536 + (((bts s).getD (j + 6) 0 : Nat) : Int) * 256 + (((bts s).getD (j + 7) 0 : Nat) : Int)) := Lib.hid (by unfold wd; simp)
  have b0 := L (j + 0)
  have b1 := L (j + 1)
  have b2 := L (j + 2)
  have b3 := L (j + 3)
  have b4 := L (j + 4)
  have b5 := L (j + 5)
  have b6 := L (j + 6)
  have b7 := L (j + 7)
  generalize (bts s).getD (j + 0) 0 = x0 at *
  generalize (bts s).getD (j + 1) 0 = x1 at *
  generalize (bts s).getD (j + 2) 0 = x2 at *
  generalize (bts s).getD (j + 3) 0 = x3 at *
  generalize (bts s).getD (j + 4) 0 = x4 at *
  generalize (bts s).getD (j + 5) 0 = x5 at *
  generalize (bts s).getD (j + 6) 0 = x6 at *
  generalize (bts s).getD (j + 7) 0 = x7 at *
  have HS := Lib.hid hsz
  clear hcells L hsz
  go_enter Try.func97, Try.ntmps97
  go_wp2
  go_region
  clear hcp
  go_wp2_with fail
  refine (word0_any _ x0 x1 x2 x3 _ b0 b1 b2 b3 c0 c1 c2 c3).mono ?_
  rintro e w1 ⟨rfl, n1, rfl⟩
  go_wp2_with fail
  refine (word4_any _ x4 x5 x6 x7 (W2.drewN n1) b4 b5 b6 b7 c4 c5 c6 c7).mono ?_
  rintro e w1 ⟨rfl, n2, rfl⟩
  clear c0 c1 c2 c3 c4 c5 c6 c7
  go_wp2
  have hbd : Below w.heap.size w (W2.drewN (n1 + n2)) := ⟨hbel.os, hbel.tape, hbel.output, hbel.size, hbel.block⟩
  refine bodyPost_ret (v := .agg #[.int .u32 ((x0 : Int) * 16777216 + (x1 : Int) * 65536 + (x2 : Int) * 256 + x3), .int .u32 ((x4 : Int) * 16777216 + (x5 : Int) * 65536 + (x6 : Int) * 256 + x7)]) ?_ rfl ⟨ragg (by rw [hw0.out]) (by rw [hw4.out]), (hbd.setCell (Nat.le_refl _) _).setCell (Nat.le_refl _) _⟩
  simp [results, Try.results97, go_sem, hr0, hr1]
theorem block_int (s : ByteArray) (z : Int) (w : World) (h0 : 0 ≤ z) (hj : z < s.size) (hs : s.size ≤ 140737488351232) :
    Calls Try.prog 97 #[.string s, .int .i64 z] w fun e w' => e = .returned (.agg #[.int .u32 (wd (bts s) z.toNat), .int .u32 (wd (bts s) (z.toNat + 4))]) ∧ Below w.heap.size w w' := by
  obtain ⟨j, rfl⟩ := Int.eq_ofNat_of_zero_le h0
  exact block_nat s j w (by omega) hs
end Go.Proofs.Ythipaabjmlgjmaa
