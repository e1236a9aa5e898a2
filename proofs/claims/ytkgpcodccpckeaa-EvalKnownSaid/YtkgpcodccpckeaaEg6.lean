/- The laws' great: where it is false there are no more than two thousand rows of at most forty values; closures of EvalJoins. Conditions: how the rows lie in memory. -/
import Derived.Test.YtkgpcodccpckeaaEg5
namespace Go.Proofs.Ytkgpcodccpckeaa
open Go Go.RowKit
set_option linter.unusedVariables false
set_option linter.unusedSimpArgs false
set_option maxRecDepth 100000 in
set_option maxHeartbeats 8000000 in
theorem great_n (A : Option Addr) (rs : List Rw) (n c : Nat) (w : World) (hR : Rws w w.heap.size A rs) (hn : n = rs.length) (hm : n ≤ maxLen) (h0 : 0 < n) :
    Calls Try.prog 24 #[.slice A n c] w fun e w' => ∃ B : Bool, e = .returned (.bool B) ∧ (B = false → rs.length ≤ 2000 ∧ ∀ r ∈ rs, r.l.length ≤ 40) ∧ Below w.heap.size w w' := by
  have hmI : (n : Int) ≤ 9223372036854775807 := by have := maxLen_val; omega
  obtain ⟨b, o, rfl, hbl, hc⟩ := rws_get hR (fun e => by rw [e] at hn; simp at hn; omega)
  have HC := Lib.hid hc
  have HBL := Lib.hid hbl
  have HN := Lib.hid hn
  clear hR hn hm h0 hc hbl
  go_enter Try.func24, Try.ntmps24
  go_wp2
  go_loopw [3, 10] (fun nv i wr => ∃ (j : Nat) (N : Int), j ≤ n ∧ i = .int .i64 j ∧ nv = .int .i64 N ∧ (j : Int) ≤ N ∧ N ≤ 2000 ∧ (∀ r ∈ rs.take j, r.l.length ≤ 40) ∧ Below w.heap.size w wr) (fun _ i _ => n - (intOf i).toNat)
  case atStart => exact ⟨0, 0, by omega, rfl, rfl, by omega, by omega, (fun r hr => by simp at hr), Below.refl _ _⟩
  case round =>
    obtain ⟨j, N, hj, rfl, rfl, hN0, hN1, hall, hb⟩ := hrel
    have HB := Lib.hid hb
    have HA := Lib.hid hall
    have HNB := Lib.hid (And.intro hN0 hN1)
    clear hb hall hN0 hN1
    by_cases hjn : j < n
    · have hjl : j < rs.length := by have := HN.out; omega
      obtain ⟨hcell, hrow⟩ := HC.out j rs[j] (List.getElem?_eq_getElem hjl)
      have hx := (HB.out.cell (p := ⟨b, o + j, none⟩) HBL.out).trans hcell
      have HT := Lib.hid (show rs.take (j + 1) = rs.take j ++ [rs[j]] by rw [List.take_add_one, List.getElem?_eq_getElem hjl]; rfl)
      have HRW := Lib.hid hrow
      generalize rs[j] = r at *
      obtain ⟨rA, rc, rl⟩ := r
      simp only at hx
      by_cases h40 : rl.length ≤ 40
      · have HALL : Hid (∀ r ∈ rs.take (j + 1), r.l.length ≤ 40) := Lib.hid (by
          rw [HT.out]
          intro r hr
          rcases List.mem_append.1 hr with hr | hr
          · exact HA.out r hr
          · rw [List.mem_singleton.1 hr]; exact h40)
        have f1 : (rl.length : Int) ≤ 40 := by omega
        have f2 : (rl.length : Int) ≤ 1024 := by omega
        have f3 : (rl.length : Int) ≤ rc := by have := HRW.out.2.2.1; simp only at this; omega
        obtain ⟨L, hL⟩ : ∃ L, rl.length = L := ⟨_, rfl⟩
        rw [hL] at f1 f2 f3 hx
        have HL40 := Lib.hid f1
        have hcap : L ≤ rc := by omega
        clear hcell hrow h40
        go_wp2
        go_loopw [3, 26] (fun nv i wq => ∃ (q : Nat) (N' : Int), q ≤ L ∧ i = .int .i64 q ∧ nv = .int .i64 N' ∧ (j : Int) + 1 ≤ N' ∧ N' ≤ 4000 + 64 * q ∧ Below w.heap.size w wq) (fun _ i _ => L - (intOf i).toNat)
        case atStart => exact ⟨0, _, by omega, rfl, rfl, by have := HNB.out; unfold wrap64; omega, by have := HNB.out; unfold wrap64; omega, HB.out⟩
        case round =>
          clear HB hx
          obtain ⟨q, N', hq, rfl, rfl, hq1, hq2, hb⟩ := hrel
          have HB := Lib.hid hb
          have HQB := Lib.hid (And.intro hq1 hq2)
          clear hb hq1 hq2
          by_cases hqm : q < L
          · have hql : q < rl.length := by omega
            obtain ⟨rb, ro, hrA, hrl, hrc⟩ := vals_get HRW.out.1 (fun e => by simp only at e; rw [e] at hql; simp at hql)
            simp only at hrA
            subst hrA
            obtain ⟨v0, v1, v2⟩ := hrc q rl[q] (List.getElem?_eq_getElem hql)
            have v0 := (HB.out.cell (p := ⟨rb, ro + q * 3, none⟩) hrl).trans v0
            have v1 := (HB.out.cell (p := ⟨rb, ro + q * 3 + 1, none⟩) hrl).trans v1
            have v2 := (HB.out.cell (p := ⟨rb, ro + q * 3 + 2, none⟩) hrl).trans v2
            generalize rl[q] = x at *
            obtain ⟨x0, x1, x2⟩ := x
            simp only at v0 v1 v2
            have HB2 := Lib.hid (HB.out.alloc HB.out.size (.cells #[.int .u8 x0, .int .i64 x1, .string x2] 23))
            have hqI : (q : Int) < L := by omega
            clear hrc hrl hqm
            by_cases hsz : (x2.size : Int) ≤ 4096
            all_goals
              go_wp2
              go_roundw
              case rel => exact ⟨q + 1, _, by omega, by go_num, rfl, by have := HQB.out; have := HNB.out; have := HL40.out; unfold wrap64; omega, by have := HQB.out; have := HL40.out; unfold wrap64; omega, HB2.out⟩
              case measure => simp [intOf]; omega
          · obtain rfl : q = L := by omega
            by_cases hbig : 2000 < N'
            · have hbd : decide (2000 < N') = true := decide_eq_true hbig
              clear hbig
              go_wp2
              go_ret
              exact ⟨true, rfl, (fun h => by cases h), HB.out⟩
            · have hbd : decide (2000 < N') = false := decide_eq_false hbig
              have HBG := Lib.hid hbig
              clear hbig
              go_wp2
              go_roundw
              case rel => exact ⟨j + 1, N', by omega, by go_num, rfl, by have := HQB.out; omega, by have := HBG.out; omega, HALL.out, HB.out⟩
              case measure => simp only [intOf]; omega
      · have f1 : ¬ ((rl.length : Int) ≤ 40) := by omega
        have f1' : (40 : Int) < (rl.length : Int) := by omega
        have f3 : (40 : Int) ≤ rc := by have := HRW.out.2.2.1; simp only at this; omega
        obtain ⟨L, hL⟩ : ∃ L, rl.length = L := ⟨_, rfl⟩
        rw [hL] at f1 f1' hx
        have hcap : 40 ≤ rc := by omega
        clear hcell hrow h40
        by_cases f2 : (L : Int) ≤ 1024
        all_goals
          go_wp2
          go_loopw [3, 26] (fun nv i wq => ∃ (q : Nat) (N' : Int), q ≤ 40 ∧ i = .int .i64 q ∧ nv = .int .i64 N' ∧ Below w.heap.size w wq) (fun _ i _ => 40 - (intOf i).toNat)
          case atStart => exact ⟨0, _, by omega, rfl, rfl, HB.out⟩
          case round =>
            clear HB hx
            obtain ⟨q, N', hq, rfl, rfl, hb⟩ := hrel
            have HB := Lib.hid hb
            clear hb
            by_cases hqm : q < 40
            · have hql : q < rl.length := by omega
              obtain ⟨rb, ro, hrA, hrl, hrc⟩ := vals_get HRW.out.1 (fun e => by simp only at e; rw [e] at hql; simp at hql)
              simp only at hrA
              subst hrA
              obtain ⟨v0, v1, v2⟩ := hrc q rl[q] (List.getElem?_eq_getElem hql)
              have v0 := (HB.out.cell (p := ⟨rb, ro + q * 3, none⟩) hrl).trans v0
              have v1 := (HB.out.cell (p := ⟨rb, ro + q * 3 + 1, none⟩) hrl).trans v1
              have v2 := (HB.out.cell (p := ⟨rb, ro + q * 3 + 2, none⟩) hrl).trans v2
              generalize rl[q] = x at *
              obtain ⟨x0, x1, x2⟩ := x
              simp only at v0 v1 v2
              have HB2 := Lib.hid (HB.out.alloc HB.out.size (.cells #[.int .u8 x0, .int .i64 x1, .string x2] 23))
              have hqI : (q : Int) < 40 := by omega
              clear hrc hrl hqm
              by_cases hsz : (x2.size : Int) ≤ 4096
              all_goals
                go_wp2
                go_roundw
                case rel => exact ⟨q + 1, _, by omega, by go_num, rfl, HB2.out⟩
                case measure => simp [intOf]; omega
            · obtain rfl : q = 40 := by omega
              by_cases hbig : 2000 < N'
              · have hbd : decide (2000 < N') = true := decide_eq_true hbig
                clear hbig
                go_wp2
                go_ret
                exact ⟨true, rfl, (fun h => by cases h), HB.out⟩
              · have hbd : decide (2000 < N') = false := decide_eq_false hbig
                clear hbig
                go_wp2
                go_ret
                exact ⟨true, rfl, (fun h => by cases h), HB.out⟩
    · obtain rfl : j = n := by omega
      go_wp2
      go_ret
      exact ⟨false, rfl, (fun _ => ⟨by have := HN.out; have := HNB.out; omega, fun r hr => HA.out r (by rw [List.take_of_length_le (by have := HN.out; omega)]; exact hr)⟩), HB.out⟩
set_option maxRecDepth 100000 in
set_option maxHeartbeats 4000000 in
theorem great_0 (A : Option Addr) (c : Nat) (w : World) : Calls Try.prog 24 #[.slice A 0 c] w fun e w' => e = .returned (.bool false) ∧ Below w.heap.size w w' := by
  go_enter Try.func24, Try.ntmps24
  go_wp2
  go_loopw [3, 10] (fun nv i wr => i = .int .i64 0 ∧ Below w.heap.size w wr) (fun _ _ _ => 0)
  case atStart => exact ⟨rfl, Below.refl _ _⟩
  case round =>
    obtain ⟨rfl, hb⟩ := hrel
    go_wp2
    go_ret
    exact ⟨rfl, hb⟩
theorem great_all (A : Option Addr) (rs : List Rw) (c : Nat) (w : World) (hR : Rws w w.heap.size A rs) (hm : rs.length ≤ maxLen) :
    Calls Try.prog 24 #[.slice A rs.length c] w fun e w' => ∃ B : Bool, e = .returned (.bool B) ∧ (B = false → rs.length ≤ 2000 ∧ ∀ r ∈ rs, r.l.length ≤ 40) ∧ Below w.heap.size w w' := by
  rcases rs with _ | ⟨r, rs⟩
  · exact (great_0 A c w).mono fun e w' he => ⟨false, he.1, fun _ => ⟨Nat.zero_le _, fun r hr => by cases hr⟩, he.2⟩
  · exact great_n A (r :: rs) _ c w hR rfl hm (by simp)
end Go.Proofs.Ytkgpcodccpckeaa
