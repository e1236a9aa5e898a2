/- node.mayBe. Conditions: the cells stand, and are not too many. -/
import Derived.Test.YticpenbebokjdaaDoorNd2
namespace Go.Proofs.YticpenbebokjdaaDoor
open Go.RowKit Go
set_option linter.unusedVariables false
set_option linter.unusedSimpArgs false
def mayB (kind first : Int) (l : List Cl) (data : ByteArray) : Bool :=
  if kind = 1 then first == 0 && data.toList.isEmpty && okL leafB none l
  else if kind = 2 then pageB first 1 && data.toList.isEmpty && decide (0 < l.length) && okL innerB none l
  else if kind = 3 then pageB first 0 && l.length == 0 && decide (0 < data.size) && decide (data.size ≤ 505)
  else if kind = 4 then pageB first 0 && l.length == 0 && data.toList.isEmpty
  else false
theorem beq_no' {a b : Int} (h : a ≠ b) : (a == b) = false := by simp [h]
set_option maxRecDepth 100000 in
set_option maxHeartbeats 8000000 in
theorem mayBe_1 (kind first : Int) (A : Option Addr) (l : List Cl) (n c : Nat) (data : ByteArray) (w : World) (hC : Cls w w.heap.size A l) (hn : n = l.length) (hm : n ≤ 1000000) (hk : kind = 1) :
    Calls Tryd.prog 33 #[.agg #[.int .u8 kind, .int .i64 first, .slice A n c, .string data]] w fun e w' => e = .returned (.bool (mayB kind first l data)) ∧ Below w.heap.size w w' := by
  subst hk
  have HL := Lib.hid (fun W (hb : Below w.heap.size w W) => cells_leaf A l n c W (cls_step hC hb) hn hm)
  have e : mayB 1 first l data = (first == 0 && data.toList.isEmpty && okL leafB none l) := rfl
  rw [e]
  clear e hC hn hm
  generalize okL leafB none l = b at *
  by_cases h1 : first = 0
  · subst h1
    by_cases h2 : data.toList = []
    · have h3 : data.toList.isEmpty = true := by rw [h2]; rfl
      rw [h3]
      go_enter Tryd.func33, Tryd.ntmps33
      go_wp2_with fail
      refine (HL.out _ one_alloc).mono ?_
      rintro e w2 ⟨rfl, hb2⟩
      have HB := Lib.hid (bj one_alloc hb2)
      clear hb2
      go_wp2
      go_ret
      exact ⟨by simp, HB.out⟩
    · have h3 : data.toList.isEmpty = false := by simp [h2]
      rw [h3]
      go_enter Tryd.func33, Tryd.ntmps33
      go_wp2
      go_ret
      exact ⟨by simp, one_alloc⟩
  · have h3 := beq_no' h1
    rw [h3]
    go_enter Tryd.func33, Tryd.ntmps33
    go_wp2
    go_ret
    exact ⟨by simp, one_alloc⟩
set_option maxRecDepth 100000 in
set_option maxHeartbeats 8000000 in
theorem mayBe_2 (kind first : Int) (A : Option Addr) (l : List Cl) (n c : Nat) (data : ByteArray) (w : World) (hC : Cls w w.heap.size A l) (hn : n = l.length) (hm : n ≤ 1000000) (hk : kind = 2) :
    Calls Tryd.prog 33 #[.agg #[.int .u8 kind, .int .i64 first, .slice A n c, .string data]] w fun e w' => e = .returned (.bool (mayB kind first l data)) ∧ Below w.heap.size w w' := by
  subst hk
  have HL := Lib.hid (fun W (hb : Below w.heap.size w W) => cells_inner A l n c W (cls_step hC hb) hn hm)
  have HP := Lib.hid (fun W => page_any first 1 W)
  have e : mayB 2 first l data = (pageB first 1 && data.toList.isEmpty && decide (0 < n) && okL innerB none l) := by rw [hn]; rfl
  rw [e]
  clear e hC hn hm
  generalize okL innerB none l = b at *
  generalize pageB first 1 = p at *
  cases p
  · go_enter Tryd.func33, Tryd.ntmps33
    go_wp2_with fail
    refine (HP.out _).mono ?_
    rintro e w2 ⟨rfl, rfl⟩
    go_wp2
    go_ret
    exact ⟨by simp, one_alloc⟩
  · by_cases h2 : data.toList = []
    · have h3 : data.toList.isEmpty = true := by rw [h2]; rfl
      rw [h3]
      by_cases h4 : 0 < n
      · have h5 : decide (0 < n) = true := decide_eq_true h4
        rw [h5]
        go_enter Tryd.func33, Tryd.ntmps33
        go_wp2_with fail
        refine (HP.out _).mono ?_
        rintro e w2 ⟨rfl, rfl⟩
        go_wp2_with fail
        refine (HL.out _ one_alloc).mono ?_
        rintro e w2 ⟨rfl, hb2⟩
        have HB := Lib.hid (bj one_alloc hb2)
        clear hb2
        go_wp2
        go_ret
        exact ⟨by simp, HB.out⟩
      · have h5 : decide (0 < n) = false := decide_eq_false h4
        rw [h5]
        go_enter Tryd.func33, Tryd.ntmps33
        go_wp2_with fail
        refine (HP.out _).mono ?_
        rintro e w2 ⟨rfl, rfl⟩
        go_wp2
        go_ret
        exact ⟨by simp, one_alloc⟩
    · have h3 : data.toList.isEmpty = false := by simp [h2]
      rw [h3]
      go_enter Tryd.func33, Tryd.ntmps33
      go_wp2_with fail
      refine (HP.out _).mono ?_
      rintro e w2 ⟨rfl, rfl⟩
      go_wp2
      go_ret
      exact ⟨by simp, one_alloc⟩
set_option maxRecDepth 100000 in
set_option maxHeartbeats 8000000 in
theorem mayBe_3 (kind first : Int) (A : Option Addr) (l : List Cl) (n c : Nat) (data : ByteArray) (w : World) (hC : Cls w w.heap.size A l) (hn : n = l.length) (hm : n ≤ 1000000) (hk : kind = 3) :
    Calls Tryd.prog 33 #[.agg #[.int .u8 kind, .int .i64 first, .slice A n c, .string data]] w fun e w' => e = .returned (.bool (mayB kind first l data)) ∧ Below w.heap.size w w' := by
  subst hk
  have HP := Lib.hid (fun W => page_any first 0 W)
  have e : mayB 3 first l data = (pageB first 0 && n == 0 && decide (0 < data.size) && decide (data.size ≤ 505)) := by rw [hn]; rfl
  rw [e]
  clear e hC hn hm
  generalize pageB first 0 = p at *
  cases p
  · go_enter Tryd.func33, Tryd.ntmps33
    go_wp2_with fail
    refine (HP.out _).mono ?_
    rintro e w2 ⟨rfl, rfl⟩
    go_wp2
    go_ret
    exact ⟨by simp, one_alloc⟩
  · go_enter Tryd.func33, Tryd.ntmps33
    go_wp2_with fail
    refine (HP.out _).mono ?_
    rintro e w2 ⟨rfl, rfl⟩
    go_wp2
    all_goals
      go_ret
      exact ⟨by first | (simp_all; done) | (simp_all; omega), one_alloc⟩
set_option maxRecDepth 100000 in
set_option maxHeartbeats 8000000 in
theorem mayBe_4 (kind first : Int) (A : Option Addr) (l : List Cl) (n c : Nat) (data : ByteArray) (w : World) (hC : Cls w w.heap.size A l) (hn : n = l.length) (hm : n ≤ 1000000) (hk : kind = 4) :
    Calls Tryd.prog 33 #[.agg #[.int .u8 kind, .int .i64 first, .slice A n c, .string data]] w fun e w' => e = .returned (.bool (mayB kind first l data)) ∧ Below w.heap.size w w' := by
  subst hk
  have HP := Lib.hid (fun W => page_any first 0 W)
  have e : mayB 4 first l data = (pageB first 0 && n == 0 && data.toList.isEmpty) := by rw [hn]; rfl
  rw [e]
  clear e hC hn hm
  generalize pageB first 0 = p at *
  cases p
  · go_enter Tryd.func33, Tryd.ntmps33
    go_wp2_with fail
    refine (HP.out _).mono ?_
    rintro e w2 ⟨rfl, rfl⟩
    go_wp2
    go_ret
    exact ⟨by simp, one_alloc⟩
  · go_enter Tryd.func33, Tryd.ntmps33
    go_wp2_with fail
    refine (HP.out _).mono ?_
    rintro e w2 ⟨rfl, rfl⟩
    go_wp2
    all_goals
      go_ret
      exact ⟨by simp_all, one_alloc⟩
set_option maxRecDepth 100000 in
set_option maxHeartbeats 8000000 in
theorem mayBe_5 (kind first : Int) (A : Option Addr) (l : List Cl) (n c : Nat) (data : ByteArray) (w : World) (hC : Cls w w.heap.size A l) (hn : n = l.length) (hm : n ≤ 1000000) (hk : kind ≠ 1 ∧ kind ≠ 2 ∧ kind ≠ 3 ∧ kind ≠ 4) :
    Calls Tryd.prog 33 #[.agg #[.int .u8 kind, .int .i64 first, .slice A n c, .string data]] w fun e w' => e = .returned (.bool (mayB kind first l data)) ∧ Below w.heap.size w w' := by
  obtain ⟨h1, h2, h3, h4⟩ := hk
  have e : mayB kind first l data = false := by
    unfold mayB
    rw [if_neg h1, if_neg h2, if_neg h3, if_neg h4]
  rw [e]
  have b1 := beq_no' h1
  have b2 := beq_no' h2
  have b3 := beq_no' h3
  have b4 := beq_no' h4
  clear e hC hn hm h1 h2 h3 h4
  go_enter Tryd.func33, Tryd.ntmps33
  go_wp2
  go_ret
  exact ⟨rfl, one_alloc⟩
theorem mayBe_any (kind first : Int) (A : Option Addr) (l : List Cl) (n c : Nat) (data : ByteArray) (w : World) (hC : Cls w w.heap.size A l) (hn : n = l.length) (hm : n ≤ 1000000) :
    Calls Tryd.prog 33 #[.agg #[.int .u8 kind, .int .i64 first, .slice A n c, .string data]] w fun e w' => e = .returned (.bool (mayB kind first l data)) ∧ Below w.heap.size w w' := by
  by_cases h1 : kind = 1
  · exact mayBe_1 kind first A l n c data w hC hn hm h1
  by_cases h2 : kind = 2
  · exact mayBe_2 kind first A l n c data w hC hn hm h2
  by_cases h3 : kind = 3
  · exact mayBe_3 kind first A l n c data w hC hn hm h3
  by_cases h4 : kind = 4
  · exact mayBe_4 kind first A l n c data w hC hn hm h4
  exact mayBe_5 kind first A l n c data w hC hn hm ⟨h1, h2, h3, h4⟩
end Go.Proofs.YticpenbebokjdaaDoor
