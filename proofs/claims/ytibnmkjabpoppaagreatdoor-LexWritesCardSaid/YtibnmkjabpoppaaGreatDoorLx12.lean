/- Layer 13: ref13's in, Words. Conditions: those of each lemma. -/
import Derived.Test.YtibnmkjabpoppaaGreatDoorLx11
namespace Go.Proofs.YtibnmkjabpoppaaGreatDoor
open Go Go.RowKit
set_option linter.unusedVariables false
set_option linter.unusedSimpArgs false
set_option maxRecDepth 100000 in
set_option maxHeartbeats 8000000 in
theorem rin_any (l : List ByteArray) (g C m : Nat) (s : ByteArray) (w : World) (hm : l.length = m) (hm2 : m ≤ 1000) (h : ∀ j x, l[j]? = some x → w.cell? ⟨g, j, none⟩ = some (.string x)) : Calls Tryz.prog 35 #[.slice (some ⟨g, 0, none⟩) m C, .string s] w fun e w' => e = .returned (.bool (isIn l s)) ∧ w = w' := by
  have HT := Lib.hid h
  obtain ⟨R, hR⟩ : ∃ R, isIn l s = R := ⟨_, rfl⟩
  have HR := Lib.hid hR
  rw [hR]
  clear hR h
  go_enter Tryz.func35, Tryz.ntmps35
  go_wp2
  go_loopw [5] (fun i wr => ∃ j : Nat, j ≤ m ∧ i = .int .i64 j ∧ isIn (l.drop j) s = R ∧ wr = w) (fun i _ => m - (intOf i).toNat)
  case atStart => exact ⟨0, by omega, rfl, HR.out, rfl⟩
  case round =>
    clear HR
    obtain ⟨j, hj, rfl, hE, rfl⟩ := hrel
    have HE := Lib.hid hE
    clear hE
    by_cases hlt : j < m
    · have hI : (j : Int) < m := by omega
      obtain ⟨x, hx⟩ : ∃ x, l[j]? = some x := ⟨_, List.getElem?_eq_getElem (by omega)⟩
      have cx := HT.out j x hx
      by_cases hb : x = s
      · have HQ := Lib.hid (show true = R by rw [← HE.out, has_yes hx hb])
        clear hx
        subst hb
        go_wp2
        go_ret
        exact ⟨by rw [← HQ.out]; rfl, rfl⟩
      · have HQ := Lib.hid (show isIn (l.drop (j + 1)) s = R by rw [← HE.out, has_no hx hb])
        have hb2 : ¬ x.toList = s.toList := fun e => hb (str_ext e)
        have hsc : (x.toList == s.toList) = false := by rw [beq_eq_false_iff_ne]; exact hb2
        clear hx
        go_wp2
        go_roundw
        case rel => exact ⟨j + 1, by omega, by go_num, HQ.out, by trivial⟩
        case measure => simp [intOf]; omega
    · obtain rfl : j = m := by omega
      have HQ := Lib.hid (show false = R by rw [← HE.out, List.drop_of_length_le (by omega)]; rfl)
      go_wp2
      go_ret
      exact ⟨by rw [← HQ.out]; rfl, rfl⟩
set_option maxRecDepth 100000 in
set_option maxHeartbeats 8000000 in
theorem rwords_any (w : World) : Calls Tryz.prog 58 #[] w fun e w' => e = .returned (.slice (some ⟨w.heap.size, 0, none⟩) 43 43) ∧ Below w.heap.size w w' ∧ ∀ j x, wordsB[j]? = some x → w'.cell? ⟨w.heap.size, j, none⟩ = some (.string x) := by
  go_enter Tryz.func58, Tryz.ntmps58
  go_wp2
  go_ret
  refine ⟨rfl, one_alloc, fun j x hx => ?_⟩
  have h := (Blk.new w 9 ((wordsB.map Value.string).toArray)).cell j
  rw [List.getElem?_toArray, List.getElem?_map, hx] at h
  exact h
end Go.Proofs.YtibnmkjabpoppaaGreatDoor
