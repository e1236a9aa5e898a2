/- ref10.May. Conditions: those of each lemma. -/
import Derived.Test.YticpenbebokjdaaDoorNd17
namespace Go.Proofs.YticpenbebokjdaaDoor
open Go.RowKit Go
set_option linter.unusedVariables false
set_option linter.unusedSimpArgs false
set_option maxRecDepth 100000 in
set_option maxHeartbeats 8000000 in
theorem rmay_3 (kind first : Int) (A : Option Addr) (l : List Cl) (n c : Nat) (data : ByteArray) (w : World) (hC : Cls w w.heap.size A l) (hn : n = l.length) (hm : n ≤ 1000000) (hk : kind = 3) (hd : 0 < data.size) :
    Calls Tryd.prog 17 #[.agg #[.int .u8 kind, .int .i64 first, .slice A n c, .string data]] w fun e w' => e = .returned (.bool (mayB kind first l data)) ∧ Below w.heap.size w w' := by
  subst hk
  have hd2 := str_no (show data.size ≠ 0 by omega)
  have hd3 : (0 : Int) < data.size := by omega
  have HR := Lib.hid (fun W (hb : Below w.heap.size w W) => rise_any A l n c W (cls_step hC hb) hn hm)
  have HP := Lib.hid (fun (m : Int) W => in_any m 1 W)
  have HP0 := Lib.hid (fun W => in_any first 0 W)
  have HNB := Lib.hid (nb_new w 3 first A n c data)
  have HN := Lib.hid hn
  have hmI : (n : Int) ≤ 1000000 := by omega
  clear hn hm
  go_enter Tryd.func17, Tryd.ntmps17
  obtain ⟨c0, c1, c2, c3⟩ := cell4 HNB.out.1
  go_wp2_with fail
  refine (HR.out _ HNB.out.2).mono ?_
  rintro e w2 ⟨rfl, hb2⟩
  have HNB2 := Lib.hid (nb_below HNB.out hb2)
  clear hb2 HR HNB c0 c1 c2 c3
  go_wp2
  go_loopw [3, 4] (fun s i wr => ∃ j : Nat, j ≤ n ∧ i = .int .i64 j ∧ s = .bool (refJ 3 l j) ∧ Nb w 3 first A n c data wr) (fun _ i _ => n - (intOf i).toNat)
  case atStart => exact ⟨0, by omega, rfl, by simp [refJ], HNB2.out⟩
  case round =>
    clear HNB2
    obtain ⟨j, hj, rfl, rfl, hnb⟩ := hrel
    obtain ⟨e0, e1, e2, e3⟩ := cell4 hnb.1
    by_cases hjn : j < n
    · have hlt : j < l.length := by have := HN.out; omega
      obtain ⟨b, o, rfl, hbl, hcs⟩ := cls_get hC (fun e => by rw [e] at hlt; simp at hlt)
      obtain ⟨a0, a1, a2, a3⟩ := cells4_below (hcs j l[j] (List.getElem?_eq_getElem hlt)) hnb.2 hbl
      have hts := refJ_snoc 3 l j hlt
      obtain ⟨x, hx⟩ : ∃ x, l[j] = x := ⟨_, rfl⟩
      rw [hx] at a0 a1 a2 a3 hts
      obtain ⟨k, z, lo, p⟩ := x
      simp only at a0 a1 a2 a3
      rw [refK_o (show (3 : Int) ≠ 1 by decide)] at hts
      have HTS := Lib.hid hts
      have hnb2 := nb_below hnb (one_alloc (o := .cells #[.string k, .int .i64 z, .string lo, .int .i64 p] 30))
      obtain ⟨d0, d1, d2, d3⟩ := cell4 hnb2.1
      have HNB3 := Lib.hid hnb2
      have hjI : (j : Int) < n := by omega
      clear hcs hx hts hnb hnb2 hlt hbl
      obtain ⟨B, hB⟩ : ∃ B, refJ 3 l j = B := ⟨_, rfl⟩
      rw [hB]
      rw [hB] at HTS
      clear hB
      cases B with
      | false =>
        go_wp2
        all_goals
          go_roundw
          case rel => exact ⟨j + 1, by omega, by go_num, by rw [HTS.out]; rfl, HNB3.out⟩
          case measure => simp [intOf]; omega
      | true =>
        go_wp2_with (refine (HP.out _ _).mono ?_; rintro e w3 ⟨rfl, rfl⟩)
        all_goals
          go_roundw
          case rel => first | exact ⟨j + 1, by omega, by go_num, congrArg Value.bool (by rw [HTS.out]; unfold ref2; first | (simp [*]; done) | (simp [*]; intros; omega)), HNB3.out⟩ | (obtain rfl : z = 0 := (by assumption); exact ⟨j + 1, by omega, by go_num, congrArg Value.bool (by rw [HTS.out]; unfold ref2; first | (simp [*]; done) | (simp [*]; intros; omega)), HNB3.out⟩)
          case measure => simp [intOf]; omega
    · obtain rfl : j = n := by omega
      have HRJ : Hid (refJ 3 l j = refOk 3 l) := Lib.hid (by unfold refJ refOk; rw [List.take_of_length_le (by have := HN.out; omega)])
      rw [HRJ.out]
      have HB := Lib.hid hnb
      clear hnb hC
      obtain ⟨R, hR⟩ : ∃ R, refOk 3 l = R := ⟨_, rfl⟩
      have HM : Hid (mayB 3 first l data = (pageB first 0 && j == 0 && decide ((data.size : Int) ≤ 505))) := Lib.hid (by rw [may_3, decide_eq_true hd, HN.out, Bool.and_true]; congr 1; rw [decide_eq_decide]; omega)
      rw [hR]
      clear hR
      cases R
      all_goals
        go_wp2_with (first | (with_reducible refine (HP.out _ _).mono ?_; rintro e w3 ⟨rfl, rfl⟩) | (with_reducible refine (HP0.out _).mono ?_; rintro e w3 ⟨rfl, rfl⟩))
        all_goals
          go_ret
          exact ⟨congrArg (fun x => Ending.returned (.bool x)) (by first | exact HM.out.symm | (rw [HM.out]; first | (simp [*]; done) | (simp [*]; omega))), HB.out.2⟩
set_option maxRecDepth 100000 in
set_option maxHeartbeats 8000000 in
theorem rmay_3e (kind first : Int) (A : Option Addr) (l : List Cl) (n c : Nat) (data : ByteArray) (w : World) (hC : Cls w w.heap.size A l) (hn : n = l.length) (hm : n ≤ 1000000) (hk : kind = 3) (hd : data.size = 0) :
    Calls Tryd.prog 17 #[.agg #[.int .u8 kind, .int .i64 first, .slice A n c, .string data]] w fun e w' => e = .returned (.bool (mayB kind first l data)) ∧ Below w.heap.size w w' := by
  subst hk
  have hd2 : data.toList = [] := by rw [empty_of hd]; rw [ByteArray.toList_eq]; rfl
  have HR := Lib.hid (fun W (hb : Below w.heap.size w W) => rise_any A l n c W (cls_step hC hb) hn hm)
  have HP := Lib.hid (fun (m : Int) W => in_any m 1 W)
  have HP0 := Lib.hid (fun W => in_any first 0 W)
  have HNB := Lib.hid (nb_new w 3 first A n c data)
  have HN := Lib.hid hn
  have hmI : (n : Int) ≤ 1000000 := by omega
  clear hn hm
  go_enter Tryd.func17, Tryd.ntmps17
  obtain ⟨c0, c1, c2, c3⟩ := cell4 HNB.out.1
  go_wp2_with fail
  refine (HR.out _ HNB.out.2).mono ?_
  rintro e w2 ⟨rfl, hb2⟩
  have HNB2 := Lib.hid (nb_below HNB.out hb2)
  clear hb2 HR HNB c0 c1 c2 c3
  go_wp2
  go_loopw [3, 4] (fun s i wr => ∃ j : Nat, j ≤ n ∧ i = .int .i64 j ∧ s = .bool (refJ 3 l j) ∧ Nb w 3 first A n c data wr) (fun _ i _ => n - (intOf i).toNat)
  case atStart => exact ⟨0, by omega, rfl, by simp [refJ], HNB2.out⟩
  case round =>
    clear HNB2
    obtain ⟨j, hj, rfl, rfl, hnb⟩ := hrel
    obtain ⟨e0, e1, e2, e3⟩ := cell4 hnb.1
    by_cases hjn : j < n
    · have hlt : j < l.length := by have := HN.out; omega
      obtain ⟨b, o, rfl, hbl, hcs⟩ := cls_get hC (fun e => by rw [e] at hlt; simp at hlt)
      obtain ⟨a0, a1, a2, a3⟩ := cells4_below (hcs j l[j] (List.getElem?_eq_getElem hlt)) hnb.2 hbl
      have hts := refJ_snoc 3 l j hlt
      obtain ⟨x, hx⟩ : ∃ x, l[j] = x := ⟨_, rfl⟩
      rw [hx] at a0 a1 a2 a3 hts
      obtain ⟨k, z, lo, p⟩ := x
      simp only at a0 a1 a2 a3
      rw [refK_o (show (3 : Int) ≠ 1 by decide)] at hts
      have HTS := Lib.hid hts
      have hnb2 := nb_below hnb (one_alloc (o := .cells #[.string k, .int .i64 z, .string lo, .int .i64 p] 30))
      obtain ⟨d0, d1, d2, d3⟩ := cell4 hnb2.1
      have HNB3 := Lib.hid hnb2
      have hjI : (j : Int) < n := by omega
      clear hcs hx hts hnb hnb2 hlt hbl
      obtain ⟨B, hB⟩ : ∃ B, refJ 3 l j = B := ⟨_, rfl⟩
      rw [hB]
      rw [hB] at HTS
      clear hB
      cases B with
      | false =>
        go_wp2
        all_goals
          go_roundw
          case rel => exact ⟨j + 1, by omega, by go_num, by rw [HTS.out]; rfl, HNB3.out⟩
          case measure => simp [intOf]; omega
      | true =>
        go_wp2_with (refine (HP.out _ _).mono ?_; rintro e w3 ⟨rfl, rfl⟩)
        all_goals
          go_roundw
          case rel => first | exact ⟨j + 1, by omega, by go_num, congrArg Value.bool (by rw [HTS.out]; unfold ref2; first | (simp [*]; done) | (simp [*]; intros; omega)), HNB3.out⟩ | (obtain rfl : z = 0 := (by assumption); exact ⟨j + 1, by omega, by go_num, congrArg Value.bool (by rw [HTS.out]; unfold ref2; first | (simp [*]; done) | (simp [*]; intros; omega)), HNB3.out⟩)
          case measure => simp [intOf]; omega
    · obtain rfl : j = n := by omega
      have HRJ : Hid (refJ 3 l j = refOk 3 l) := Lib.hid (by unfold refJ refOk; rw [List.take_of_length_le (by have := HN.out; omega)])
      rw [HRJ.out]
      have HB := Lib.hid hnb
      clear hnb hC
      obtain ⟨R, hR⟩ : ∃ R, refOk 3 l = R := ⟨_, rfl⟩
      have HM : Hid (mayB 3 first l data = false) := Lib.hid (by rw [may_3, decide_eq_false (show ¬ 0 < data.size by omega), Bool.and_false]; rfl)
      rw [hR]
      clear hR
      cases R
      all_goals
        go_wp2_with (first | (with_reducible refine (HP.out _ _).mono ?_; rintro e w3 ⟨rfl, rfl⟩) | (with_reducible refine (HP0.out _).mono ?_; rintro e w3 ⟨rfl, rfl⟩))
        all_goals
          go_ret
          exact ⟨congrArg (fun x => Ending.returned (.bool x)) (by first | exact HM.out.symm | (rw [HM.out]; first | (simp [*]; done) | (simp [*]; omega))), HB.out.2⟩
end Go.Proofs.YticpenbebokjdaaDoor
