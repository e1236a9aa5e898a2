/- Rows in memory; the laws' great: where it is false each row has at most forty values. Conditions: how the rows lie in memory. -/
import Derived.Test.YtkgpcodccpckeaaEt3
namespace Go.Proofs.Ytkgpcodccpckeaa
open Go Go.RowKit
set_option linter.unusedVariables false
set_option linter.unusedSimpArgs false
/-- a row as it is handed on: its slice, and its values -/
structure Rw where
  A : Option Addr
  c : Nat
  l : List Val
def RwOk (w : World) (B : Nat) (r : Rw) : Prop := Vals w B r.A r.l ∧ r.l.length ≤ maxLen ∧ r.l.length ≤ r.c ∧ (r.A = none → r.l = [] ∧ r.c = 0)
def Rws (w : World) (B : Nat) (A : Option Addr) (rs : List Rw) : Prop :=
  rs = [] ∨ ∃ b o, A = some ⟨b, o, none⟩ ∧ b < B ∧ ∀ (j : Nat) r, rs[j]? = some r → w.cell? ⟨b, o + j, none⟩ = some (.slice r.A r.l.length r.c) ∧ RwOk w B r
theorem rwok_below {w W : World} {B : Nat} {r : Rw} (h : RwOk w B r) (hb : Below B w W) : RwOk W B r := ⟨vals_below h.1 hb, h.2⟩
theorem rwok_step {w W : World} {r : Rw} (h : RwOk w w.heap.size r) (hb : Below w.heap.size w W) : RwOk W W.heap.size r := ⟨vals_step h.1 hb, h.2⟩
theorem rws_get {w : World} {B : Nat} {A : Option Addr} {rs : List Rw} (h : Rws w B A rs) (hl : rs ≠ []) : ∃ b o, A = some ⟨b, o, none⟩ ∧ b < B ∧ ∀ (j : Nat) r, rs[j]? = some r → w.cell? ⟨b, o + j, none⟩ = some (.slice r.A r.l.length r.c) ∧ RwOk w B r := by
  rcases h with h | h
  · exact absurd h hl
  · exact h
theorem rws_step {w W : World} {A : Option Addr} {rs : List Rw} (h : Rws w w.heap.size A rs) (hb : Below w.heap.size w W) : Rws W W.heap.size A rs := by
  rcases h with h | ⟨b, o, hA, hlt, hc⟩
  · exact .inl h
  · exact .inr ⟨b, o, hA, Nat.lt_of_lt_of_le hlt hb.size, fun j r hr => ⟨(hb.cell (p := ⟨b, o + j, none⟩) hlt).trans (hc j r hr).1, rwok_step (hc j r hr).2 hb⟩⟩
theorem rws_one {W : World} {g : Nat} {t : TypeId} {r : Rw} (h : Blk W g t #[.slice r.A r.l.length r.c]) (hr : RwOk W W.heap.size r) : Rws W W.heap.size (some ⟨g, 0, none⟩) [r] := by
  refine .inr ⟨g, 0, rfl, h.lt, fun j x hx => ?_⟩
  match j, hx with
  | 0, hx => simp at hx; subst hx; exact ⟨h.cell 0, hr⟩
  | j + 1, hx => simp at hx
set_option maxRecDepth 100000 in
set_option maxHeartbeats 8000000 in
theorem great_any (A : Option Addr) (rs : List Rw) (n c : Nat) (w : World) (hR : Rws w w.heap.size A rs) (hn : n = rs.length) (hm : n ≤ maxLen) (h0 : 0 < n) :
    Calls Try.prog 24 #[.slice A n c] w fun e w' => ∃ B : Bool, e = .returned (.bool B) ∧ (B = false → ∀ r ∈ rs, r.l.length ≤ 40) ∧ Below w.heap.size w w' := by
  have hmI : (n : Int) ≤ 9223372036854775807 := by have := maxLen_val; omega
  obtain ⟨b, o, rfl, hbl, hc⟩ := rws_get hR (fun e => by rw [e] at hn; simp at hn; omega)
  have HC := Lib.hid hc
  have HBL := Lib.hid hbl
  have HN := Lib.hid hn
  clear hR hn hm h0 hc hbl
  go_enter Try.func24, Try.ntmps24
  go_wp2
  go_loopw [3, 10] (fun nv i wr => ∃ (j : Nat) (N : Int), j ≤ n ∧ i = .int .i64 j ∧ nv = .int .i64 N ∧ (∀ r ∈ rs.take j, r.l.length ≤ 40) ∧ Below w.heap.size w wr) (fun _ i _ => n - (intOf i).toNat)
  case atStart => exact ⟨0, 0, by omega, rfl, rfl, (fun r hr => by simp at hr), Below.refl _ _⟩
  case round =>
    obtain ⟨j, N, hj, rfl, rfl, hall, hb⟩ := hrel
    have HB := Lib.hid hb
    have HA := Lib.hid hall
    clear hb hall
    by_cases hjn : j < n
    · have hjl : j < rs.length := by have := HN.out; omega
      obtain ⟨hcell, hrow⟩ := HC.out j rs[j] (List.getElem?_eq_getElem hjl)
      have hx := (HB.out.cell (p := ⟨b, o + j, none⟩) HBL.out).trans hcell
      have HT := Lib.hid (show rs.take (j + 1) = rs.take j ++ [rs[j]] by rw [List.take_add_one, List.getElem?_eq_getElem hjl]; rfl)
      have HRW := Lib.hid hrow
      generalize rs[j] = r at *
      obtain ⟨rA, rc, rl⟩ := r
      simp only at hx
      by_cases h40 : rl.length ≤ 40
      · have HALL : Hid (∀ r ∈ rs.take (j + 1), r.l.length ≤ 40) := Lib.hid (by
          rw [HT.out]
          intro r hr
          rcases List.mem_append.1 hr with hr | hr
          · exact HA.out r hr
          · rw [List.mem_singleton.1 hr]; exact h40)
        have f1 : (rl.length : Int) ≤ 40 := by omega
        have f2 : (rl.length : Int) ≤ 1024 := by omega
        have f3 : (rl.length : Int) ≤ rc := by have := HRW.out.2.2.1; simp only at this; omega
        obtain ⟨L, hL⟩ : ∃ L, rl.length = L := ⟨_, rfl⟩
        rw [hL] at f1 f2 f3 hx
        have hcap : L ≤ rc := by omega
        clear hcell hrow h40
        go_wp2
        go_loopw [3, 26] (fun nv i wq => ∃ (q : Nat) (N' : Int), q ≤ L ∧ i = .int .i64 q ∧ nv = .int .i64 N' ∧ Below w.heap.size w wq) (fun _ i _ => L - (intOf i).toNat)
        case atStart => exact ⟨0, _, by omega, rfl, rfl, HB.out⟩
        case round =>
          clear HB hx
          obtain ⟨q, N', hq, rfl, rfl, hb⟩ := hrel
          have HB := Lib.hid hb
          clear hb
          by_cases hqm : q < L
          · have hql : q < rl.length := by omega
            obtain ⟨rb, ro, hrA, hrl, hrc⟩ := vals_get HRW.out.1 (fun e => by simp only at e; rw [e] at hql; simp at hql)
            simp only at hrA
            subst hrA
            obtain ⟨v0, v1, v2⟩ := hrc q rl[q] (List.getElem?_eq_getElem hql)
            have v0 := (HB.out.cell (p := ⟨rb, ro + q * 3, none⟩) hrl).trans v0
            have v1 := (HB.out.cell (p := ⟨rb, ro + q * 3 + 1, none⟩) hrl).trans v1
            have v2 := (HB.out.cell (p := ⟨rb, ro + q * 3 + 2, none⟩) hrl).trans v2
            generalize rl[q] = x at *
            obtain ⟨x0, x1, x2⟩ := x
            simp only at v0 v1 v2
            have HB2 := Lib.hid (HB.out.alloc HB.out.size (.cells #[.int .u8 x0, .int .i64 x1, .string x2] 23))
            have hqI : (q : Int) < L := by omega
            clear hrc hrl hqm
            by_cases hsz : (x2.size : Int) ≤ 4096
            all_goals
              go_wp2
              go_roundw
              case rel => exact ⟨q + 1, _, by omega, by go_num, rfl, HB2.out⟩
              case measure => simp [intOf]; omega
          · obtain rfl : q = L := by omega
            by_cases hbig : 2000 < N'
            · have hbd : decide (2000 < N') = true := decide_eq_true hbig
              clear hbig
              go_wp2
              go_ret
              exact ⟨true, rfl, (fun h => by cases h), HB.out⟩
            · have hbd : decide (2000 < N') = false := decide_eq_false hbig
              clear hbig
              go_wp2
              go_roundw
              case rel => exact ⟨j + 1, N', by omega, by go_num, rfl, HALL.out, HB.out⟩
              case measure => simp only [intOf]; omega
      · have f1 : ¬ ((rl.length : Int) ≤ 40) := by omega
        have f1' : (40 : Int) < (rl.length : Int) := by omega
        have f3 : (40 : Int) ≤ rc := by have := HRW.out.2.2.1; simp only at this; omega
        obtain ⟨L, hL⟩ : ∃ L, rl.length = L := ⟨_, rfl⟩
        rw [hL] at f1 f1' hx
        have hcap : 40 ≤ rc := by omega
        clear hcell hrow h40
        by_cases f2 : (L : Int) ≤ 1024
        all_goals
          go_wp2
          go_loopw [3, 26] (fun nv i wq => ∃ (q : Nat) (N' : Int), q ≤ 40 ∧ i = .int .i64 q ∧ nv = .int .i64 N' ∧ Below w.heap.size w wq) (fun _ i _ => 40 - (intOf i).toNat)
          case atStart => exact ⟨0, _, by omega, rfl, rfl, HB.out⟩
          case round =>
            clear HB hx
            obtain ⟨q, N', hq, rfl, rfl, hb⟩ := hrel
            have HB := Lib.hid hb
            clear hb
            by_cases hqm : q < 40
            · have hql : q < rl.length := by omega
              obtain ⟨rb, ro, hrA, hrl, hrc⟩ := vals_get HRW.out.1 (fun e => by simp only at e; rw [e] at hql; simp at hql)
              simp only at hrA
              subst hrA
              obtain ⟨v0, v1, v2⟩ := hrc q rl[q] (List.getElem?_eq_getElem hql)
              have v0 := (HB.out.cell (p := ⟨rb, ro + q * 3, none⟩) hrl).trans v0
              have v1 := (HB.out.cell (p := ⟨rb, ro + q * 3 + 1, none⟩) hrl).trans v1
              have v2 := (HB.out.cell (p := ⟨rb, ro + q * 3 + 2, none⟩) hrl).trans v2
              generalize rl[q] = x at *
              obtain ⟨x0, x1, x2⟩ := x
              simp only at v0 v1 v2
              have HB2 := Lib.hid (HB.out.alloc HB.out.size (.cells #[.int .u8 x0, .int .i64 x1, .string x2] 23))
              have hqI : (q : Int) < 40 := by omega
              clear hrc hrl hqm
              by_cases hsz : (x2.size : Int) ≤ 4096
              all_goals
                go_wp2
                go_roundw
                case rel => exact ⟨q + 1, _, by omega, by go_num, rfl, HB2.out⟩
                case measure => simp [intOf]; omega
            · obtain rfl : q = 40 := by omega
              by_cases hbig : 2000 < N'
              · have hbd : decide (2000 < N') = true := decide_eq_true hbig
                clear hbig
                go_wp2
                go_ret
                exact ⟨true, rfl, (fun h => by cases h), HB.out⟩
              · have hbd : decide (2000 < N') = false := decide_eq_false hbig
                clear hbig
                go_wp2
                go_ret
                exact ⟨true, rfl, (fun h => by cases h), HB.out⟩
    · obtain rfl : j = n := by omega
      go_wp2
      go_ret
      exact ⟨false, rfl, (fun _ r hr => HA.out r (by rw [List.take_of_length_le (by have := HN.out; omega)]; exact hr)), HB.out⟩
end Go.Proofs.Ytkgpcodccpckeaa
