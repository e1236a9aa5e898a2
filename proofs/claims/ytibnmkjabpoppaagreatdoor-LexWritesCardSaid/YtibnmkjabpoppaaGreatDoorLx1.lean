/- Layer 13: tests of a byte, the byte at a place. Conditions: those of each lemma. -/
import Derived.Test.YtibnmkjabpoppaaGreatDoorProg
import Derived.Test.YtibnmkjabpoppaaGreatDoorBase
import Derived.Test.YtibnmkjabpoppaaGreatDoorMem
import Derived.Test.YtibnmkjabpoppaaGreatDoorWords
namespace Go.Proofs.YtibnmkjabpoppaaGreatDoor
open Go Go.RowKit
set_option linter.unusedVariables false
set_option linter.unusedSimpArgs false
def digB (c : Int) : Bool := decide (48 ≤ c) && decide (c ≤ 57)
def smaB (c : Int) : Bool := decide (97 ≤ c) && decide (c ≤ 122)
def capB (c : Int) : Bool := decide (65 ≤ c) && decide (c ≤ 90)
def worB (c : Int) : Bool := digB c || (smaB c || (capB c || c == 95))
def blaB (c : Int) : Bool := c == 32 || (c == 9 || (c == 10 || c == 13))
theorem beq_no13 {a b : Int} (h : ¬ a = b) : (a == b) = false := by simp [h]
set_option maxRecDepth 100000 in
set_option maxHeartbeats 2000000 in
theorem ldig_any (c : Int) (w : World) : Calls Tryz.prog 47 #[.int .u8 c] w fun e w' => e = .returned (.bool (digB c)) ∧ w = w' := by
  by_cases h1 : 48 ≤ c
  · by_cases h2 : c ≤ 57
    · have hT := Lib.hid (show digB c = true by unfold digB; simp [h1, h2])
      rw [hT.out]
      go_enter Tryz.func47, Tryz.ntmps47
      go_wp2
      go_ret
      exact ⟨rfl, rfl⟩
    · have hT := Lib.hid (show digB c = false by unfold digB; simp [h2])
      rw [hT.out]
      have h2' : 57 < c := by omega
      go_enter Tryz.func47, Tryz.ntmps47
      go_wp2
      go_ret
      exact ⟨rfl, rfl⟩
  · have hT := Lib.hid (show digB c = false by unfold digB; simp [h1])
    rw [hT.out]
    have h1' : c < 48 := by omega
    go_enter Tryz.func47, Tryz.ntmps47
    go_wp2
    go_ret
    exact ⟨rfl, rfl⟩
set_option maxRecDepth 100000 in
set_option maxHeartbeats 2000000 in
theorem rdig_any (c : Int) (w : World) : Calls Tryz.prog 33 #[.int .u8 c] w fun e w' => e = .returned (.bool (digB c)) ∧ w = w' := by
  by_cases h1 : 48 ≤ c
  · by_cases h2 : c ≤ 57
    · have hT := Lib.hid (show digB c = true by unfold digB; simp [h1, h2])
      rw [hT.out]
      go_enter Tryz.func33, Tryz.ntmps33
      go_wp2
      go_ret
      exact ⟨rfl, rfl⟩
    · have hT := Lib.hid (show digB c = false by unfold digB; simp [h2])
      rw [hT.out]
      have h2' : 57 < c := by omega
      go_enter Tryz.func33, Tryz.ntmps33
      go_wp2
      go_ret
      exact ⟨rfl, rfl⟩
  · have hT := Lib.hid (show digB c = false by unfold digB; simp [h1])
    rw [hT.out]
    have h1' : c < 48 := by omega
    go_enter Tryz.func33, Tryz.ntmps33
    go_wp2
    go_ret
    exact ⟨rfl, rfl⟩
set_option maxRecDepth 100000 in
set_option maxHeartbeats 2000000 in
theorem lsma_any (c : Int) (w : World) : Calls Tryz.prog 45 #[.int .u8 c] w fun e w' => e = .returned (.bool (smaB c)) ∧ w = w' := by
  by_cases h1 : 97 ≤ c
  · by_cases h2 : c ≤ 122
    · have hT := Lib.hid (show smaB c = true by unfold smaB; simp [h1, h2])
      rw [hT.out]
      go_enter Tryz.func45, Tryz.ntmps45
      go_wp2
      go_ret
      exact ⟨rfl, rfl⟩
    · have hT := Lib.hid (show smaB c = false by unfold smaB; simp [h2])
      rw [hT.out]
      have h2' : 122 < c := by omega
      go_enter Tryz.func45, Tryz.ntmps45
      go_wp2
      go_ret
      exact ⟨rfl, rfl⟩
  · have hT := Lib.hid (show smaB c = false by unfold smaB; simp [h1])
    rw [hT.out]
    have h1' : c < 97 := by omega
    go_enter Tryz.func45, Tryz.ntmps45
    go_wp2
    go_ret
    exact ⟨rfl, rfl⟩
set_option maxRecDepth 100000 in
set_option maxHeartbeats 2000000 in
theorem rsma_any (c : Int) (w : World) : Calls Tryz.prog 30 #[.int .u8 c] w fun e w' => e = .returned (.bool (smaB c)) ∧ w = w' := by
  by_cases h1 : 97 ≤ c
  · by_cases h2 : c ≤ 122
    · have hT := Lib.hid (show smaB c = true by unfold smaB; simp [h1, h2])
      rw [hT.out]
      go_enter Tryz.func30, Tryz.ntmps30
      go_wp2
      go_ret
      exact ⟨rfl, rfl⟩
    · have hT := Lib.hid (show smaB c = false by unfold smaB; simp [h2])
      rw [hT.out]
      have h2' : 122 < c := by omega
      go_enter Tryz.func30, Tryz.ntmps30
      go_wp2
      go_ret
      exact ⟨rfl, rfl⟩
  · have hT := Lib.hid (show smaB c = false by unfold smaB; simp [h1])
    rw [hT.out]
    have h1' : c < 97 := by omega
    go_enter Tryz.func30, Tryz.ntmps30
    go_wp2
    go_ret
    exact ⟨rfl, rfl⟩
set_option maxRecDepth 100000 in
set_option maxHeartbeats 2000000 in
theorem lcap_any (c : Int) (w : World) : Calls Tryz.prog 42 #[.int .u8 c] w fun e w' => e = .returned (.bool (capB c)) ∧ w = w' := by
  by_cases h1 : 65 ≤ c
  · by_cases h2 : c ≤ 90
    · have hT := Lib.hid (show capB c = true by unfold capB; simp [h1, h2])
      rw [hT.out]
      go_enter Tryz.func42, Tryz.ntmps42
      go_wp2
      go_ret
      exact ⟨rfl, rfl⟩
    · have hT := Lib.hid (show capB c = false by unfold capB; simp [h2])
      rw [hT.out]
      have h2' : 90 < c := by omega
      go_enter Tryz.func42, Tryz.ntmps42
      go_wp2
      go_ret
      exact ⟨rfl, rfl⟩
  · have hT := Lib.hid (show capB c = false by unfold capB; simp [h1])
    rw [hT.out]
    have h1' : c < 65 := by omega
    go_enter Tryz.func42, Tryz.ntmps42
    go_wp2
    go_ret
    exact ⟨rfl, rfl⟩
set_option maxRecDepth 100000 in
set_option maxHeartbeats 2000000 in
theorem rcap_any (c : Int) (w : World) : Calls Tryz.prog 31 #[.int .u8 c] w fun e w' => e = .returned (.bool (capB c)) ∧ w = w' := by
  by_cases h1 : 65 ≤ c
  · by_cases h2 : c ≤ 90
    · have hT := Lib.hid (show capB c = true by unfold capB; simp [h1, h2])
      rw [hT.out]
      go_enter Tryz.func31, Tryz.ntmps31
      go_wp2
      go_ret
      exact ⟨rfl, rfl⟩
    · have hT := Lib.hid (show capB c = false by unfold capB; simp [h2])
      rw [hT.out]
      have h2' : 90 < c := by omega
      go_enter Tryz.func31, Tryz.ntmps31
      go_wp2
      go_ret
      exact ⟨rfl, rfl⟩
  · have hT := Lib.hid (show capB c = false by unfold capB; simp [h1])
    rw [hT.out]
    have h1' : c < 65 := by omega
    go_enter Tryz.func31, Tryz.ntmps31
    go_wp2
    go_ret
    exact ⟨rfl, rfl⟩
set_option maxRecDepth 100000 in
set_option maxHeartbeats 2000000 in
theorem lbla_any (c : Int) (w : World) : Calls Tryz.prog 37 #[.int .u8 c] w fun e w' => e = .returned (.bool (blaB c)) ∧ w = w' := by
  have hb : blaB c = (c == 32 || (c == 9 || (c == 10 || c == 13))) := rfl
  rw [hb]
  clear hb
  by_cases h1 : c = 32
  · subst h1
    go_enter Tryz.func37, Tryz.ntmps37
    go_wp2
    go_ret
    exact ⟨rfl, rfl⟩
  have e1 := beq_no13 h1
  by_cases h2 : c = 9
  · subst h2
    go_enter Tryz.func37, Tryz.ntmps37
    go_wp2
    go_ret
    exact ⟨rfl, rfl⟩
  have e2 := beq_no13 h2
  by_cases h3 : c = 10
  · subst h3
    go_enter Tryz.func37, Tryz.ntmps37
    go_wp2
    go_ret
    exact ⟨rfl, rfl⟩
  have e3 := beq_no13 h3
  rw [e1, e2, e3]
  simp only [Bool.false_or]
  clear h1 h2 h3
  go_enter Tryz.func37, Tryz.ntmps37
  go_wp2
  go_ret
  exact ⟨rfl, rfl⟩
set_option maxRecDepth 100000 in
set_option maxHeartbeats 2000000 in
theorem lwor_any (c : Int) (w : World) : Calls Tryz.prog 40 #[.int .u8 c] w fun e w' => e = .returned (.bool (worB c)) ∧ w = w' := by
  have HD := Lib.hid (fun W => ldig_any c W)
  have HS := Lib.hid (fun W => lsma_any c W)
  have HC := Lib.hid (fun W => lcap_any c W)
  have hb : worB c = (digB c || (smaB c || (capB c || c == 95))) := rfl
  rw [hb]
  clear hb
  generalize digB c = d at *
  generalize smaB c = s at *
  generalize capB c = p at *
  go_enter Tryz.func40, Tryz.ntmps40
  go_wp2_with fail
  refine (HD.out _).mono ?_
  rintro e w1 ⟨rfl, rfl⟩
  cases d
  case' true =>
    go_wp2
    go_ret
    exact ⟨by simp, rfl⟩
  go_wp2_with fail
  refine (HS.out _).mono ?_
  rintro e w1 ⟨rfl, rfl⟩
  cases s
  case' true =>
    go_wp2
    go_ret
    exact ⟨by simp, rfl⟩
  go_wp2_with fail
  refine (HC.out _).mono ?_
  rintro e w1 ⟨rfl, rfl⟩
  cases p
  case' true =>
    go_wp2
    go_ret
    exact ⟨by simp, rfl⟩
  go_wp2
  go_ret
  exact ⟨by simp, rfl⟩
set_option maxRecDepth 100000 in
set_option maxHeartbeats 2000000 in
theorem rwor_any (c : Int) (w : World) : Calls Tryz.prog 57 #[.int .u8 c] w fun e w' => e = .returned (.bool (worB c)) ∧ w = w' := by
  have HD := Lib.hid (fun W => rdig_any c W)
  have HS := Lib.hid (fun W => rsma_any c W)
  have HC := Lib.hid (fun W => rcap_any c W)
  have hb : worB c = (digB c || (smaB c || (capB c || c == 95))) := rfl
  rw [hb]
  clear hb
  generalize digB c = d at *
  generalize smaB c = s at *
  generalize capB c = p at *
  go_enter Tryz.func57, Tryz.ntmps57
  go_wp2_with fail
  refine (HS.out _).mono ?_
  rintro e w1 ⟨rfl, rfl⟩
  cases s
  case' true =>
    go_wp2
    go_ret
    exact ⟨by simp, rfl⟩
  go_wp2_with fail
  refine (HC.out _).mono ?_
  rintro e w1 ⟨rfl, rfl⟩
  cases p
  case' true =>
    go_wp2
    go_ret
    exact ⟨by simp, rfl⟩
  go_wp2_with fail
  refine (HD.out _).mono ?_
  rintro e w1 ⟨rfl, rfl⟩
  cases d
  case' true =>
    go_wp2
    go_ret
    exact ⟨by simp, rfl⟩
  go_wp2
  go_ret
  exact ⟨by simp, rfl⟩
end Go.Proofs.YtibnmkjabpoppaaGreatDoor
