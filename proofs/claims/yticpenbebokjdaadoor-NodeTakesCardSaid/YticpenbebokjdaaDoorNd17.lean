/- ref10.May: it is node.mayBe. Conditions: those of each lemma. -/
import Derived.Test.YticpenbebokjdaaDoorNd16
import Derived.Test.YticpenbebokjdaaDoorNdM
namespace Go.Proofs.YticpenbebokjdaaDoor
open Go.RowKit Go
set_option linter.unusedVariables false
set_option linter.unusedSimpArgs false
def ref1 (c : Cl) : Bool := decide ((c.key.size : Int) ≤ 100) && (decide (0 ≤ c.size) && decide (c.size ≤ 4000) && (if c.size ≤ 100 then (c.loc.size : Int) == c.size && c.page == 0 else (c.loc.size : Int) == 100 && pageB c.page 1))
def ref2 (c : Cl) : Bool := decide ((c.key.size : Int) ≤ 100) && (c.size == 0 && c.loc.toList.isEmpty && pageB c.page 1)
theorem ref1_is (c : Cl) : ref1 c = (decide ((c.key.size : Int) ≤ 100) && leafB c) := by
  unfold ref1 leafB
  congr 1
  by_cases h1 : c.size < 0
  · rw [if_pos (show c.size < 0 ∨ 4000 < c.size ∨ (c.loc.size : Int) ≠ min c.size 100 from .inl h1), decide_eq_false (show ¬ 0 ≤ c.size by omega)]; simp
  by_cases h2 : 4000 < c.size
  · rw [if_pos (show c.size < 0 ∨ 4000 < c.size ∨ (c.loc.size : Int) ≠ min c.size 100 from .inr (.inl h2)), decide_eq_false (show ¬ c.size ≤ 4000 by omega), Bool.and_false]; simp
  rw [decide_eq_true (show 0 ≤ c.size by omega), decide_eq_true (show c.size ≤ 4000 by omega)]
  by_cases h3 : c.size ≤ 100
  · rw [if_pos h3]
    by_cases h4 : (c.loc.size : Int) = c.size
    · rw [if_neg (by omega), if_neg (by omega), h4]; simp
    · rw [if_pos (.inr (.inr (by omega)))]; simp [h4]
  · rw [if_neg h3]
    by_cases h4 : (c.loc.size : Int) = 100
    · rw [if_neg (by omega), if_pos (by omega), h4]; simp
    · rw [if_pos (.inr (.inr (by omega)))]; simp [h4]
theorem ref2_is (c : Cl) : ref2 c = (decide ((c.key.size : Int) ≤ 100) && innerB c) := by
  unfold ref2 innerB
  congr 1
  cases (c.size == 0) <;> cases (c.loc.toList.isEmpty) <;> cases (pageB c.page 1) <;> rfl
def refK (kind : Int) (c : Cl) : Bool := if kind = 1 then ref1 c else ref2 c
def refOk (kind : Int) (l : List Cl) : Bool := riseP none l && l.all (refK kind)
theorem refOk_1 (l : List Cl) : refOk 1 l = okL leafB none l := by
  rw [okL_rise, refOk, Bool.and_comm]
  congr 2
  funext c
  rw [← ref1_is]; rfl
theorem refOk_2 (l : List Cl) : refOk 2 l = okL innerB none l := by
  rw [okL_rise, refOk, Bool.and_comm]
  congr 2
  funext c
  rw [← ref2_is]; rfl
def refJ (kind : Int) (l : List Cl) (j : Nat) : Bool := riseP none l && (l.take j).all (refK kind)
theorem refJ_snoc (kind : Int) (l : List Cl) (j : Nat) (h : j < l.length) : refJ kind l (j + 1) = (refJ kind l j && refK kind l[j]) := by
  unfold refJ
  rw [take_snoc' l j h, List.all_append]
  simp [Bool.and_assoc]
theorem refK_1 (c : Cl) : refK 1 c = ref1 c := rfl
theorem refK_o {kind : Int} (h : kind ≠ 1) (c : Cl) : refK kind c = ref2 c := if_neg h
/-- a page's box, its cells -/
def LwN (w : World) (kind first : Int) (A : Option Addr) (l : List Cl) (n c : Nat) (data : ByteArray) (W : World) : Prop := Nb w kind first A n c data W
set_option maxRecDepth 100000 in
set_option maxHeartbeats 8000000 in
theorem rmay_1 (kind first : Int) (A : Option Addr) (l : List Cl) (n c : Nat) (data : ByteArray) (w : World) (hC : Cls w w.heap.size A l) (hn : n = l.length) (hm : n ≤ 1000000) (hk : kind = 1) :
    Calls Tryd.prog 17 #[.agg #[.int .u8 kind, .int .i64 first, .slice A n c, .string data]] w fun e w' => e = .returned (.bool (mayB kind first l data)) ∧ Below w.heap.size w w' := by
  subst hk
  have HR := Lib.hid (fun W (hb : Below w.heap.size w W) => rise_any A l n c W (cls_step hC hb) hn hm)
  have HP := Lib.hid (fun (m : Int) W => in_any m 1 W)
  have HP0 := Lib.hid (fun W => in_any first 0 W)
  have HNB := Lib.hid (nb_new w 1 first A n c data)
  have HN := Lib.hid hn
  have hmI : (n : Int) ≤ 1000000 := by omega
  clear hn hm
  go_enter Tryd.func17, Tryd.ntmps17
  obtain ⟨c0, c1, c2, c3⟩ := cell4 HNB.out.1
  go_wp2_with fail
  refine (HR.out _ HNB.out.2).mono ?_
  rintro e w2 ⟨rfl, hb2⟩
  have HNB2 := Lib.hid (nb_below HNB.out hb2)
  clear hb2 HR HNB c0 c1 c2 c3
  go_wp2
  go_loopw [3, 4] (fun s i wr => ∃ j : Nat, j ≤ n ∧ i = .int .i64 j ∧ s = .bool (refJ 1 l j) ∧ Nb w 1 first A n c data wr) (fun _ i _ => n - (intOf i).toNat)
  case atStart => exact ⟨0, by omega, rfl, by simp [refJ], HNB2.out⟩
  case round =>
    clear HNB2
    obtain ⟨j, hj, rfl, rfl, hnb⟩ := hrel
    obtain ⟨e0, e1, e2, e3⟩ := cell4 hnb.1
    by_cases hjn : j < n
    · have hlt : j < l.length := by have := HN.out; omega
      obtain ⟨b, o, rfl, hbl, hcs⟩ := cls_get hC (fun e => by rw [e] at hlt; simp at hlt)
      obtain ⟨a0, a1, a2, a3⟩ := cells4_below (hcs j l[j] (List.getElem?_eq_getElem hlt)) hnb.2 hbl
      have hts := refJ_snoc 1 l j hlt
      obtain ⟨x, hx⟩ : ∃ x, l[j] = x := ⟨_, rfl⟩
      rw [hx] at a0 a1 a2 a3 hts
      obtain ⟨k, z, lo, p⟩ := x
      simp only at a0 a1 a2 a3
      rw [refK_1] at hts
      have HTS := Lib.hid hts
      have hnb2 := nb_below hnb (one_alloc (o := .cells #[.string k, .int .i64 z, .string lo, .int .i64 p] 30))
      obtain ⟨d0, d1, d2, d3⟩ := cell4 hnb2.1
      have HNB3 := Lib.hid hnb2
      have hjI : (j : Int) < n := by omega
      clear hcs hx hts hnb hnb2 hlt hbl
      obtain ⟨B, hB⟩ : ∃ B, refJ 1 l j = B := ⟨_, rfl⟩
      rw [hB]
      rw [hB] at HTS
      clear hB
      cases B with
      | false =>
        go_wp2
        all_goals
          go_roundw
          case rel => exact ⟨j + 1, by omega, by go_num, by rw [HTS.out]; rfl, HNB3.out⟩
          case measure => simp [intOf]; omega
      | true =>
        go_wp2_with (refine (HP.out _ _).mono ?_; rintro e w3 ⟨rfl, rfl⟩)
        all_goals
          go_roundw
          case rel => first | exact ⟨j + 1, by omega, by go_num, congrArg Value.bool (by rw [HTS.out]; unfold ref1; first | (simp [*]; done) | (simp [*]; intros; omega)), HNB3.out⟩ | (obtain rfl : z = 0 := (by assumption); exact ⟨j + 1, by omega, by go_num, congrArg Value.bool (by rw [HTS.out]; unfold ref1; first | (simp [*]; done) | (simp [*]; intros; omega)), HNB3.out⟩)
          case measure => simp [intOf]; omega
    · obtain rfl : j = n := by omega
      have HRJ : Hid (refJ 1 l j = refOk 1 l) := Lib.hid (by unfold refJ refOk; rw [List.take_of_length_le (by have := HN.out; omega)])
      rw [HRJ.out]
      have HB := Lib.hid hnb
      clear hnb hC
      obtain ⟨R, hR⟩ : ∃ R, refOk 1 l = R := ⟨_, rfl⟩
      have HM : Hid (mayB 1 first l data = (first == 0 && data.toList.isEmpty && R)) := Lib.hid (by rw [may_1, ← hR, refOk_1])
      rw [hR]
      clear hR
      cases R
      all_goals
        go_wp2_with (first | (with_reducible refine (HP.out _ _).mono ?_; rintro e w3 ⟨rfl, rfl⟩) | (with_reducible refine (HP0.out _).mono ?_; rintro e w3 ⟨rfl, rfl⟩))
        all_goals
          go_ret
          exact ⟨congrArg (fun x => Ending.returned (.bool x)) (by first | exact HM.out.symm | (rw [HM.out]; first | (simp [*]; done) | (simp [*]; omega))), HB.out.2⟩
end Go.Proofs.YticpenbebokjdaaDoor
