/- The document's own test of a ship: its walk. Conditions: those of each lemma. -/
import Derived.Test.YtkocdaillkhkfaaShipRefMay
import Derived.Test.YtkocdaillkhkfaaShipGreat
import Derived.Deep.QuietTactic
import Derived.BigQuiet
import Derived.Deep.DeepCutAuto
import Derived.Deep.RegionHeld3
namespace Go.Proofs.Ytkocdaillkhkfaa
open Go.RowKit
set_option linter.unusedVariables false
theorem el_of {l : List (Int × ByteArray)} {pages : Int} {full : Bool} {j : Nat} {x : Int × ByteArray} (h : l[j]? = some x) : elOk l pages full j = (decide (1 ≤ x.1) && decide (x.1 ≤ pages) && decide (x.2.size = 512) && prevOk l j x.1 && (!full || decide (x.1 = j + 1))) := by
  unfold elOk
  have e : l.getD j (0, ByteArray.empty) = x := by rw [List.getD_eq_getElem?_getD, h]; rfl
  rw [e]
theorem prev_zero (l : List (Int × ByteArray)) (p : Int) : prevOk l 0 p = true := rfl
theorem prev_succ {l : List (Int × ByteArray)} {i : Nat} {y : Int × ByteArray} (h : l[i]? = some y) (p : Int) : prevOk l (i + 1) p = decide (y.1 < p) := by
  unfold prevOk
  have e : l.getD (i + 1 - 1) (0, ByteArray.empty) = y := by rw [Nat.add_sub_cancel, List.getD_eq_getElem?_getD, h]; rfl
  rw [e]
  simp
theorem step_true {l : List (Int × ByteArray)} {pages : Int} {full base : Bool} {j : Nat} (h : (base && elsOk l pages full j) = true) {b : Bool} (he : elOk l pages full j = b) : Value.bool b = .bool (base && elsOk l pages full (j + 1)) := by
  rw [elsOk_succ, ← Bool.and_assoc, h, he, Bool.true_and]
theorem step_false {l : List (Int × ByteArray)} {pages : Int} {full base : Bool} {j : Nat} (h : (base && elsOk l pages full j) = false) : Value.bool false = .bool (base && elsOk l pages full (j + 1)) := by
  rw [elsOk_succ, ← Bool.and_assoc, h, Bool.false_and]
def Mb (kind K pages : Int) : Bool := decide (kind = 1) && decide (1 ≤ pages) && decide (pages ≤ 256) && decide (0 < K)
set_option maxRecDepth 100000 in
set_option maxHeartbeats 16000000 in
theorem refMay_one (kind ep K pages : Int) (full : Bool) (A : Option Addr) (l : List (Int × ByteArray)) (n c : Nat) (w : World) (hI : Imgs w w.heap.size A l) (hn : n = l.length) (hm : n ≤ maxLen) (hk : ¬ kind = 2) :
    Calls Try.prog 31 #[.agg #[.int .u8 kind, .int .u64 ep, .int .u64 K, .bool full, .int .i64 pages, .slice A n c]] w fun e w' => e = .returned (.bool ((Mb kind K pages && elsOk l pages full n) && (!full || decide ((n : Int) = pages)))) ∧ Below w.heap.size w w' := by
  unfold maxLen at hm
  have hs0 := sb_new w kind ep K pages full A n c
  have e2 := beq_no hk
  have HS := Lib.hid hs0
  have HI := Lib.hid hI
  have HN := Lib.hid hn
  clear hs0 hI hn hk
  go_enter Try.func31, Try.ntmps31
  go_upto_region 3 with fail
  go_cut [3] (fun s3 wx => s3 = .bool (Mb kind K pages) ∧ Sb w kind ep K pages full A n c wx)
  case first =>
    by_cases k1 : kind = 1
    · have q1 : (kind == 1) = true := by simpa using k1
      have Q1 := Lib.hid k1
      clear k1
      by_cases k2 : 1 ≤ pages
      · by_cases k3 : pages ≤ 256
        · by_cases k4 : 0 < K
          · go_wp2_with fail
            go_meet
            exact ⟨by unfold Mb; rw [decide_eq_true Q1.out, decide_eq_true k2, decide_eq_true k3, decide_eq_true k4]; rfl, HS.out⟩
          · have k4' : K ≤ 0 := by omega
            have K4 := Lib.hid k4
            clear k4
            go_wp2_with fail
            go_meet
            exact ⟨by unfold Mb; rw [decide_eq_false (show ¬ (0 < K) from by have := K4.out; omega), Bool.and_false], HS.out⟩
        · have k3' : 256 < pages := by omega
          have K3 := Lib.hid k3
          clear k3
          go_wp2_with fail
          go_meet
          exact ⟨by unfold Mb; rw [decide_eq_false (show ¬ (pages ≤ 256) from by have := K3.out; omega), Bool.and_false, Bool.false_and], HS.out⟩
      · have k2' : pages < 1 := by omega
        have K2 := Lib.hid k2
        clear k2
        go_wp2_with fail
        go_meet
        exact ⟨by unfold Mb; rw [decide_eq_false (show ¬ (1 ≤ pages) from by have := K2.out; omega), Bool.and_false, Bool.false_and, Bool.false_and], HS.out⟩
    · have q1 := beq_no k1
      have K1 := Lib.hid k1
      clear k1
      go_wp2_with fail
      go_meet
      exact ⟨by unfold Mb; rw [decide_eq_false K1.out, Bool.false_and, Bool.false_and, Bool.false_and], HS.out⟩
  case rest =>
    obtain ⟨rfl, hs⟩ := hcut
    clear e2 HS
    generalize hbase : Mb kind K pages = base at *
    have HBASE := Lib.hid hbase
    clear hbase
    have HS := Lib.hid hs
    clear hs
    go_wp2_with fail
    go_loopw [3, 4] (fun s i wr => ∃ (j : Nat) (z : Int), j ≤ n ∧ z = (j : Int) ∧ i = .int .i64 z ∧ s = .bool (base && elsOk l pages full j) ∧ Sb w kind ep K pages full A n c wr) (fun _ i _ => n - (intOf i).toNat)
    case atStart => exact ⟨0, 0, by omega, rfl, rfl, by simp [elsOk], HS.out⟩
    case round =>
      obtain ⟨j, z, hj, hz, rfl, rfl, hs⟩ := hrel
      have HZ := Lib.hid hz
      clear HS hz
      obtain ⟨r0, r1, r2, r3, r4, r5⟩ := sbS hs
      by_cases hlt : j < n
      · obtain ⟨b1, o1, rfl, l1, c1⟩ := imgs_get HI.out (fun e => by have := HN.out; rw [e] at this; simp at this; omega)
        have g1 : l[j]? = some (l[j]'(by rw [← HN.out]; exact hlt)) := List.getElem?_eq_getElem _
        generalize l[j]'(by rw [← HN.out]; exact hlt) = x at *
        obtain ⟨p, d⟩ := x
        obtain ⟨a1, a2⟩ := c1 j _ g1
        simp only at a1 a2
        have d1 := (hs.2.cell (p := ⟨b1, o1 + j * 2, none⟩) l1).trans a1
        have d2 := (hs.2.cell (p := ⟨b1, o1 + j * 2 + 1, none⟩) l1).trans a2
        have G1 := Lib.hid g1
        have hs2 := sb_step ((Below.refl _ _).alloc (Nat.le_refl _) (.cells #[.int .i64 p, .string d] 51)) hs
        have HS2 := Lib.hid hs2
        have hbw := Lib.hid hs.2
        clear a1 a2 g1 hs2 hs
        have i1 : (0 : Int) ≤ (j : Int) := by omega
        have i2 : (j : Int) < (n : Int) := by omega
        cases hok : (base && elsOk l pages full j) with
        | false =>
          have HOK := Lib.hid hok
          clear hok c1
          obtain rfl := HZ.out
          go_wp2_with fail
          go_quiet (fail)
          go_wp2
          go_roundw
          case rel =>
            refine ⟨j + 1, _, by omega, ?_, rfl, step_false HOK.out, sb_drewN _ HS2.out⟩
            omega
          case measure => simp [intOf]; omega
        | true =>
          have HOK := Lib.hid hok
          clear hok
          obtain ⟨m0, m1, m2, m3, m4, m5⟩ := sbS HS2.out
          have el := el_of (pages := pages) (full := full) G1.out
          simp only at el
          by_cases k1 : 1 ≤ p
          · by_cases k2 : p ≤ pages
            · by_cases k3 : d.size = 512
              · have q3 : ((d.size : Int) == 512) = true := by rw [beq_iff_eq]; omega
                have K3 := Lib.hid k3
                clear k3
                by_cases hj0 : j = 0
                · subst hj0
                  have kp := prev_zero l p
                  simp only [Nat.zero_mul, Nat.add_zero] at d1 d2
                  clear c1
                  cases full with
                  | false =>
                    have HE := Lib.hid (el.trans (c := true) (by rw [decide_eq_true k1, decide_eq_true k2, decide_eq_true K3.out, kp]; rfl))
                    clear el
                    obtain rfl : z = 0 := by rw [HZ.out]; rfl
                    go_wp2_with fail
                    go_quiet (fail)
                    go_wp2
                    go_roundw
                    case rel =>
                      refine ⟨_, _, by omega, ?_, rfl, step_true HOK.out HE.out, sb_drewN _ HS2.out⟩
                      omega
                    case measure => simp [intOf]; omega
                  | true =>
                    by_cases k5 : p = ((0 : Nat) : Int) + 1
                    · have q5 : (p == 1) = true := by rw [beq_iff_eq]; simpa using k5
                      have K5 := Lib.hid k5
                      clear k5
                      have HE := Lib.hid (el.trans (c := true) (by rw [decide_eq_true k1, decide_eq_true k2, decide_eq_true K3.out, kp, decide_eq_true K5.out]; rfl))
                      clear el
                      obtain rfl : z = 0 := by rw [HZ.out]; rfl
                      go_wp2_with fail
                      go_quiet (fail)
                      go_wp2
                      go_roundw
                      case rel =>
                        refine ⟨_, _, by omega, ?_, rfl, step_true HOK.out HE.out, sb_drewN _ HS2.out⟩
                        omega
                      case measure => simp [intOf]; omega
                    · have q5 : (p == 1) = false := by rw [beq_eq_false_iff_ne]; intro e; exact k5 (by rw [e]; simp)
                      have K5 := Lib.hid k5
                      clear k5
                      have HE := Lib.hid (el.trans (c := false) (by rw [decide_eq_false K5.out, Bool.not_true, Bool.or_false, Bool.and_false]))
                      clear el
                      obtain rfl : z = 0 := by rw [HZ.out]; rfl
                      go_wp2_with fail
                      go_quiet (fail)
                      go_wp2
                      go_roundw
                      case rel =>
                        refine ⟨_, _, by omega, ?_, rfl, step_true HOK.out HE.out, sb_drewN _ HS2.out⟩
                        omega
                      case measure => simp [intOf]; omega
                · obtain ⟨i, rfl⟩ : ∃ i, j = i + 1 := ⟨j - 1, by omega⟩
                  have g2 : l[i]? = some (l[i]'(by rw [← HN.out]; omega)) := List.getElem?_eq_getElem _
                  generalize l[i]'(by rw [← HN.out]; omega) = y at *
                  obtain ⟨q, f⟩ := y
                  have a3 := (c1 i _ g2).1
                  have kp := prev_succ g2 p
                  simp only at a3 kp
                  have d3 := (hbw.out.cell (p := ⟨b1, o1 + i * 2, none⟩) l1).trans a3
                  have d4 : ∀ o, (wr.alloc o).cell? ⟨b1, o1 + i * 2, none⟩ = some (.int .i64 q) := fun o => by
                    have := ((Below.refl wr.heap.size wr).alloc (Nat.le_refl _) o).cell (p := ⟨b1, o1 + i * 2, none⟩) (by have := hbw.out.size; show b1 < _; omega)
                    exact this.trans d3
                  have G2 := Lib.hid g2
                  have q0 : ((i : Int) + 1 == 0) = false := by rw [beq_eq_false_iff_ne]; omega
                  have i3 : (0 : Int) ≤ (i : Int) := by omega
                  have i4 : (i : Int) < (n : Int) := by omega
                  clear c1 a3 g2 hj0
                  by_cases k4 : q < p
                  · rw [decide_eq_true k4] at kp
                    cases full with
                    | false =>
                      have HE := Lib.hid (el.trans (c := true) (by rw [decide_eq_true k1, decide_eq_true k2, decide_eq_true K3.out, kp]; rfl))
                      clear el
                      obtain rfl := HZ.out
                      go_wp2_with fail
                      go_quiet (fail)
                      go_wp2
                      go_roundw
                      case rel =>
                        refine ⟨_, _, by omega, ?_, rfl, step_true HOK.out HE.out, sb_drewN _ HS2.out⟩
                        omega
                      case measure => simp [intOf]; omega
                    | true =>
                      by_cases k5 : p = ((i + 1 : Nat) : Int) + 1
                      · have q5 : (p == (i : Int) + 1 + 1) = true := by rw [beq_iff_eq]; simpa using k5
                        have K5 := Lib.hid k5
                        clear k5
                        have HE := Lib.hid (el.trans (c := true) (by rw [decide_eq_true k1, decide_eq_true k2, decide_eq_true K3.out, kp, decide_eq_true K5.out]; rfl))
                        clear el
                        obtain rfl := HZ.out
                        go_wp2_with fail
                        go_quiet (fail)
                        go_wp2
                        go_roundw
                        case rel =>
                          refine ⟨_, _, by omega, ?_, rfl, step_true HOK.out HE.out, sb_drewN _ HS2.out⟩
                          omega
                        case measure => simp [intOf]; omega
                      · have q5 : (p == (i : Int) + 1 + 1) = false := by rw [beq_eq_false_iff_ne]; intro e; exact k5 (by rw [e]; simp)
                        have K5 := Lib.hid k5
                        clear k5
                        have HE := Lib.hid (el.trans (c := false) (by rw [decide_eq_false K5.out, Bool.not_true, Bool.or_false, Bool.and_false]))
                        clear el
                        obtain rfl := HZ.out
                        go_wp2_with fail
                        go_quiet (fail)
                        go_wp2
                        go_roundw
                        case rel =>
                          refine ⟨_, _, by omega, ?_, rfl, step_true HOK.out HE.out, sb_drewN _ HS2.out⟩
                          omega
                        case measure => simp [intOf]; omega
                  · rw [decide_eq_false k4] at kp
                    have k4' : p ≤ q := by omega
                    have K4 := Lib.hid k4
                    have D4 : decide (q < p) = false := decide_eq_false k4
                    clear k4
                    have HE := Lib.hid (el.trans (c := false) (by rw [kp, Bool.and_false, Bool.false_and]))
                    clear el
                    obtain rfl := HZ.out
                    go_wp2_with fail
                    go_quiet (fail)
                    go_wp2
                    go_roundw
                    case rel =>
                      refine ⟨_, _, by omega, ?_, rfl, step_true HOK.out HE.out, sb_drewN _ HS2.out⟩
                      omega
                    case measure => simp [intOf]; omega
              · have q3 : ((d.size : Int) == 512) = false := by rw [beq_eq_false_iff_ne]; omega
                have K3 := Lib.hid k3
                clear k3 c1
                have HE := Lib.hid (el.trans (c := false) (by rw [decide_eq_false K3.out, Bool.and_false, Bool.false_and, Bool.false_and]))
                clear el
                obtain rfl := HZ.out
                go_wp2_with fail
                go_quiet (fail)
                go_wp2
                go_roundw
                case rel =>
                  refine ⟨_, _, by omega, ?_, rfl, step_true HOK.out HE.out, sb_drewN _ HS2.out⟩
                  omega
                case measure => simp [intOf]; omega
            · have k2' : pages < p := by omega
              have K2 := Lib.hid k2
              have D2 : decide (p ≤ pages) = false := decide_eq_false k2
              clear k2 c1
              have HE := Lib.hid (el.trans (c := false) (by rw [decide_eq_false K2.out, Bool.and_false, Bool.false_and, Bool.false_and, Bool.false_and]))
              clear el
              obtain rfl := HZ.out
              go_wp2_with fail
              go_quiet (fail)
              go_wp2
              go_roundw
              case rel =>
                refine ⟨_, _, by omega, ?_, rfl, step_true HOK.out HE.out, sb_drewN _ HS2.out⟩
                omega
              case measure => simp [intOf]; omega
          · have k1' : p < 1 := by omega
            have K1 := Lib.hid k1
            have D1 : decide (1 ≤ p) = false := decide_eq_false k1
            clear k1 c1
            have HE := Lib.hid (el.trans (c := false) (by rw [decide_eq_false K1.out, Bool.false_and, Bool.false_and, Bool.false_and, Bool.false_and]))
            clear el
            obtain rfl := HZ.out
            go_wp2_with fail
            go_quiet (fail)
            go_wp2
            go_roundw
            case rel =>
              refine ⟨_, _, by omega, ?_, rfl, step_true HOK.out HE.out, sb_drewN _ HS2.out⟩
              omega
            case measure => simp [intOf]; omega
      · obtain rfl : j = n := by omega
        obtain rfl := HZ.out
        generalize hok : (base && elsOk l pages full j) = ok at *
        have HS2 := Lib.hid hs
        have HOK := Lib.hid hok
        clear hs hok
        cases ok
        · go_wp2
          go_ret
          exact ⟨rbool (by rw [HBASE.out, HOK.out] <;> rfl), HS2.out.2⟩
        · cases full
          · go_wp2
            go_ret
            exact ⟨rbool (by rw [HBASE.out, HOK.out] <;> rfl), HS2.out.2⟩
          · by_cases k : (j : Int) = pages
            · have q : ((j : Int) == pages) = true := by rw [beq_iff_eq]; exact k
              have K := Lib.hid k
              clear k
              go_wp2
              go_ret
              exact ⟨rbool (by rw [HBASE.out, HOK.out, decide_eq_true K.out] <;> rfl), HS2.out.2⟩
            · have q := beq_no k
              have K := Lib.hid k
              clear k
              go_wp2
              go_ret
              exact ⟨rbool (by rw [HBASE.out, HOK.out, decide_eq_false (show ¬ ((j : Int) = pages) from by have := K.out; omega)] <;> rfl), HS2.out.2⟩
end Go.Proofs.Ytkocdaillkhkfaa
