/- The two closures of ship.Take. Conditions: what they have captured lies in cells of its own. -/
import Derived.Test.YtkocdaillkhkfaaShipPut
namespace Go.Proofs.Ytkocdaillkhkfaa
open Go.RowKit
set_option linter.unusedVariables false
def take8 (s : ByteArray) : Nat := val 0 ((bts s).take 8)
theorem take8_lt (s : ByteArray) (h : 8 ≤ s.size) : take8 s < 18446744073709551616 := by
  have := (eightL_val (L := (bts s).take 8) (by rw [List.length_take, bts_length]; omega) (fun x hx => bts_lt s x (List.mem_of_mem_take hx))).2
  exact this
set_option maxRecDepth 100000 in
set_option maxHeartbeats 2000000 in
theorem next_any (g : Nat) (s : ByteArray) (w : World) (hc : w.cell? ⟨g, 0, none⟩ = some (.string s)) (hf : w.frozen? ⟨g, 0, none⟩ = false) (h8 : 8 ≤ s.size) (hz : s.size ≤ 140737488351232) :
    Calls Try.prog 27 #[.pointer (some ⟨g, 0, none⟩)] w fun e w' => e = .returned (.int .u64 (take8 s)) ∧ w' = w.setCell ⟨g, 0, none⟩ (.string (s.extract 8 s.size)) := by
  have ht := fun W => takeEight_any s W (by unfold maxLen; omega)
  unfold Fixd at ht
  rw [fixedS_ok (by rw [bts_length]; exact h8)] at ht
  have HT := Lib.hid ht
  have h8I : (8 : Int) ≤ s.size := by omega
  clear ht
  go_enter Try.func27, Try.ntmps27
  go_wp2_with fail
  refine (HT.out _).mono ?_
  rintro e w1 ⟨rfl, rfl⟩
  go_wp2
  go_ret
  exact ⟨rfl, rfl⟩
set_option maxRecDepth 100000 in
set_option maxHeartbeats 2000000 in
theorem upTo_any (most g6 g7 g8 : Nat) (b : Bool) (s : ByteArray) (w : World) (hc : w.cell? ⟨g6, 0, none⟩ = some (.string s)) (hf : w.frozen? ⟨g6, 0, none⟩ = false) (hc7 : w.cell? ⟨g7, 0, none⟩ = some (.bool b)) (hf7 : w.frozen? ⟨g7, 0, none⟩ = false)
    (hc8 : w.cell? ⟨g8, 0, none⟩ = some (.func (.func 27) #[] #[.pointer (some ⟨g6, 0, none⟩)])) (h67 : g6 ≠ g7) (h68 : g6 ≠ g8) (hm : most ≤ 256) (h8 : 8 ≤ s.size) (hz : s.size ≤ 140737488351232) :
    Calls Try.prog 29 #[.int .u64 most, .pointer (some ⟨g8, 0, none⟩), .pointer (some ⟨g7, 0, none⟩)] w fun e w' => e = .returned (.int .i64 (wrap64 (take8 s))) ∧ w' = (w.setCell ⟨g6, 0, none⟩ (.string (s.extract 8 s.size))).setCell ⟨g7, 0, none⟩ (.bool (b && decide (take8 s ≤ most))) := by
  have hn := next_any g6 s w hc hf h8 hz
  have hlt := take8_lt s h8
  have HN := Lib.hid hn
  have n67 : (w.setCell ⟨g6, 0, none⟩ (.string (s.extract 8 s.size))).cell? ⟨g7, 0, none⟩ = some (.bool b) := (World.cell?_setCell_other w _ _ _ (fun e => by simp at e <;> omega)).trans hc7
  have f67 : (w.setCell ⟨g6, 0, none⟩ (.string (s.extract 8 s.size))).frozen? ⟨g7, 0, none⟩ = false := by simpa using hf7
  generalize hS : s.extract 8 s.size = S at *
  generalize take8 s = n at *
  have HS := Lib.hid hS
  clear hn hc hf hc7 hf7 hS
  cases b
  all_goals
    go_enter Try.func29, Try.ntmps29
    go_wp2_with fail
    refine (HN.out).mono ?_
    rintro e w1 ⟨rfl, rfl⟩
    generalize hW : w.setCell ⟨g6, 0, none⟩ (.string S) = W at *
    have HW := Lib.hid hW
    clear hW
    go_wp2
    go_ret
    exact ⟨rfl, by rw [HW.out]; simp⟩
end Go.Proofs.Ytkocdaillkhkfaa
