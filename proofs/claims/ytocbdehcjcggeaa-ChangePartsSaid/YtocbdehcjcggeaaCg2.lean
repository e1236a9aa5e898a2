/- Layer 22: the laws' great. Conditions: those of each lemma. -/
import Derived.Test.YtocbdehcjcggeaaCg1
namespace Go.Proofs.Ytocbdehcjcggeaa
open Go.RowKit Go
set_option linter.unusedVariables false
set_option linter.unusedSimpArgs false
theorem one_allocC {w : World} {o : Obj} : Below w.heap.size w (w.alloc o) := (Below.refl _ _).alloc (Nat.le_refl _) _
/-- a change's rows, by number -/
def cgA (x : Cg) : Nat → Option Addr
  | 0 => x.kA
  | 1 => x.oA
  | _ => x.nA
def cgL (x : Cg) : Nat → List Val
  | 0 => x.k
  | 1 => x.o
  | _ => x.n
def cgK (x : Cg) : Nat → Nat
  | 0 => x.kc
  | 1 => x.oc
  | _ => x.nc
def Lean40 (x : Cg) : Prop := x.k.length ≤ 40 ∧ x.o.length ≤ 40 ∧ x.n.length ≤ 40
theorem cgIn_vals {w : World} {B : Nat} {x : Cg} (h : CgIn w B x) (k : Nat) : Vals w B (cgA x k) (cgL x k) := by
  match k with
  | 0 => exact h.1
  | 1 => exact h.2.1
  | k + 2 => exact h.2.2
theorem fitC_len {x : Cg} (h : FitC x) (k : Nat) : (cgL x k).length ≤ maxLen := by
  match k with
  | 0 => exact h.2.1
  | 1 => exact h.2.2.1
  | k + 2 => exact h.2.2.2.1
def GrP (l : List Cg) (e : Ending) : Prop := ∃ r, e = .returned (.bool r) ∧ (r = false → l.length ≤ 1200 ∧ ∀ x ∈ l, Lean40 x)
theorem take_snocC {α : Type} {l : List α} {j : Nat} (hj : j < l.length) : l.take (j + 1) = l.take j ++ [l[j]] := by
  rw [List.take_add_one, List.getElem?_eq_getElem hj]; rfl
theorem lean_snoc {l : List Cg} {j : Nat} (hj : j < l.length) (h : ∀ x ∈ l.take j, Lean40 x) (hx : Lean40 l[j]) : ∀ x ∈ l.take (j + 1), Lean40 x := fun x hm => by
  rw [take_snocC hj] at hm
  rcases List.mem_append.1 hm with h1 | h1
  · exact h x h1
  · rw [List.mem_singleton.1 h1]; exact hx
set_option maxRecDepth 100000 in
set_option maxHeartbeats 8000000 in
theorem great_any (A : Option Addr) (l : List Cg) (n c : Nat) (w : World) (hO : Cgs w w.heap.size A l) (hn : n = l.length) (hm : n ≤ maxLen) (hfit : ∀ x ∈ l, FitC x) :
    Calls Try.prog 19 #[.slice A n c] w fun e w' => GrP l e ∧ Below w.heap.size w w' := by
  have hmI : (n : Int) ≤ 9223372036854775807 := by unfold maxLen at hm; omega
  by_cases h0 : n = 0
  · subst h0
    obtain rfl : l = [] := List.eq_nil_of_length_eq_zero hn.symm
    clear hO hn hfit
    go_enter Try.func19, Try.ntmps19
    go_wp2
    go_loopw [12] (fun i wr => i = .int .i64 0 ∧ Below w.heap.size w wr) (fun _ _ => 0)
    case atStart => exact ⟨rfl, Below.refl _ _⟩
    case round =>
      obtain ⟨rfl, hb⟩ := hrel
      go_wp2
      go_ret
      exact ⟨⟨false, rfl, fun _ => ⟨by simp, fun x hx => by cases hx⟩⟩, hb⟩
  · obtain ⟨b, o, rfl, hbl, hc⟩ := cgs_get hO (fun e => by rw [e] at hn; exact h0 hn)
    have HC := Lib.hid hc
    have HN := Lib.hid hn
    have HMX := Lib.hid hm
    have HF := Lib.hid hfit
    clear hc hO hn h0 hm hfit
    go_enter Try.func19, Try.ntmps19
    go_wp2
    go_loopw [3, 12] (fun m i wr => ∃ (j : Nat) (q : Int), j ≤ n ∧ i = .int .i64 j ∧ m = .int .i64 q ∧ 0 ≤ q ∧ q ≤ 32768 ∧ (∀ x ∈ l.take j, Lean40 x) ∧ Below w.heap.size w wr) (fun _ i _ => n - (intOf i).toNat)
    case atStart => exact ⟨0, 0, by omega, rfl, rfl, by omega, by omega, fun x hx => by simp at hx, Below.refl _ _⟩
    case round =>
      obtain ⟨j, q, hj, rfl, rfl, hq0, hq1, heq, hb⟩ := hrel
      by_cases hjn : j < n
      · have hjl : j < l.length := by have := HN.out; omega
        obtain ⟨⟨a0, a1, a2, a3⟩, _⟩ := HC.out _ hb j l[j] (List.getElem?_eq_getElem hjl)
        have hin := (HC.out _ (Below.refl _ _) j l[j] (List.getElem?_eq_getElem hjl)).2
        have HFX := Lib.hid (HF.out l[j] (List.getElem_mem hjl))
        have HL := Lib.hid (lean_snoc hjl heq)
        clear heq
        generalize l[j] = x at *
        have hjI : (j : Int) < n := by omega
        have h0j : (0 : Int) ≤ j := by omega
        have hwj : IntKind.i64.wrap ((j : Int) + 1) = j + 1 := by rw [IntKind.wrap_i64]; omega
        obtain ⟨z, hz⟩ : ∃ z : Int, (x.t.size : Int) = z := ⟨_, rfl⟩
        have hz0 : 0 ≤ z := by omega
        have hvk : ∀ k, Vals w w.heap.size (cgA x k) (cgL x k) := fun k => cgIn_vals hin k
        have HV := Lib.hid hvk
        have HB := Lib.hid (bj hb (one_allocC (o := .cells (cgC x) 33)))
        have HX0 := Lib.hid hb
        have HQ := Lib.hid (And.intro hq0 (And.intro hq1 hz0))
        have HIX := Lib.hid (fun (k : Nat) (hk : k < 3) (V : World) => (show (Instr.index 78 (.agg #[.slice x.kA x.k.length x.kc, .slice x.oA x.o.length x.oc, .slice x.nA x.n.length x.nc]) (.int .i64 (k : Nat))).run Try.prog V = .ok (.slice (cgA x k) (cgL x k).length (cgK x k)) V from by
          have : k = 0 ∨ k = 1 ∨ k = 2 := by omega
          rcases this with rfl | rfl | rfl <;> rfl))
        have HXA := Lib.hid (And.intro hj (And.intro hjn (And.intro h0j hjI)))
        clear hin hvk hb hq0 hq1 hz0 hjl
        obtain ⟨xt, xkA, xkc, xk, xoA, xoc, xo, xnA, xnc, xn⟩ := x
        simp only at *
        by_cases hz4 : z ≤ 4096
        all_goals
          go_wp2
          go_loopw [3, 30] (fun m i wr => ∃ (k : Nat) (q : Int), k ≤ 3 ∧ i = .int .i64 k ∧ m = .int .i64 q ∧ 0 ≤ q ∧ q ≤ 40000 + 330000 * k ∧ (∀ r, r < k → (cgL ⟨xt, xkA, xkc, xk, xoA, xoc, xo, xnA, xnc, xn⟩ r).length ≤ 40) ∧ Below w.heap.size w wr) (fun _ i _ => 3 - (intOf i).toNat)
          case atStart => exact ⟨0, _, by omega, rfl, rfl, by have := HQ.out; unfold wrap64; omega, by have := HQ.out; unfold wrap64; omega, fun r hr => by omega, HB.out⟩
          case round =>
            obtain ⟨k, q2, hk, rfl, rfl, hp0, hp1, hrr, hb⟩ := hrel
            have HB2 := Lib.hid hb
            have HP := Lib.hid (And.intro hp0 (And.intro hp1 hrr))
            by_cases hk3 : k < 3
            · have hkI : (k : Int) < 3 := by omega
              have h0k : (0 : Int) ≤ k := by omega
              have hwk : IntKind.i64.wrap ((k : Int) + 1) = k + 1 := by rw [IntKind.wrap_i64]; omega
              have hix := fun V => HIX.out k hk3 V
              have HVK := Lib.hid (HV.out k)
              have hlm := fitC_len HFX.out k
              have HKL := Lib.hid (show ∀ L, (cgL ⟨xt, xkA, xkc, xk, xoA, xoc, xo, xnA, xnc, xn⟩ k).length = L → ∀ r, r < k + 1 → L ≤ 40 → (cgL ⟨xt, xkA, xkc, xk, xoA, xoc, xo, xnA, xnc, xn⟩ r).length ≤ 40 from fun L hL r hr h40 => by
                rcases Nat.lt_or_ge r k with h | h
                · exact hrr r h
                · obtain rfl : r = k := by omega
                  omega)
              obtain ⟨L, hL⟩ : ∃ L, (cgL ⟨xt, xkA, xkc, xk, xoA, xoc, xo, xnA, xnc, xn⟩ k).length = L := ⟨_, rfl⟩
              have HKLL := Lib.hid (HKL.out L hL)
              rw [hL] at hix hlm
              have HLL := Lib.hid hL
              have hLI : (0 : Int) ≤ L := by omega
              clear hrr hb hp0 hp1 hL HKL
              generalize cgA ⟨xt, xkA, xkc, xk, xoA, xoc, xo, xnA, xnc, xn⟩ k = kA at *
              generalize cgL ⟨xt, xkA, xkc, xk, xoA, xoc, xo, xnA, xnc, xn⟩ k = kl at *
              generalize cgK ⟨xt, xkA, xkc, xk, xoA, xoc, xo, xnA, xnc, xn⟩ k = kcc at *
              by_cases h40 : 40 < L
              · have h40I : (40 : Int) < L := by omega
                have hd40 : decide ((40 : Int) < L) = true := decide_eq_true h40I
                go_wp2
                go_ret
                exact ⟨⟨true, rfl, fun h => by cases h⟩, HB2.out⟩
              · have h40I : ¬ (40 : Int) < L := by omega
                have hd40 : decide ((40 : Int) < L) = false := decide_eq_false h40I
                have H40 := Lib.hid h40
                clear h40 hlm
                go_wp2
                go_loopw [3, 38] (fun m i wr => ∃ (r : Nat) (q : Int), r ≤ L ∧ i = .int .i64 r ∧ m = .int .i64 q ∧ 0 ≤ q ∧ q ≤ 40000 + 330000 * k + 8193 * r ∧ Below w.heap.size w wr) (fun _ i _ => L - (intOf i).toNat)
                case atStart => exact ⟨0, q2, by omega, rfl, rfl, HP.out.1, by have := HP.out.2.1; omega, HB2.out⟩
                case round =>
                  clear HB2
                  obtain ⟨r, q3, hr, rfl, rfl, hq0, hq1, hb⟩ := hrel
                  have HB3 := Lib.hid hb
                  have HR := Lib.hid (And.intro hq0 hq1)
                  clear hb hq0 hq1
                  have h0r : (0 : Int) ≤ r := by omega
                  by_cases hrL : r < L
                  · have hrI : (r : Int) < L := by omega
                    have hrl : r < kl.length := by have := HLL.out; omega
                    obtain ⟨rb, ro, rfl, hb2, hcs⟩ := vals_get HVK.out (fun e => by rw [e] at hrl; simp at hrl)
                    obtain ⟨v0, v1, v2⟩ := hcs r kl[r] (List.getElem?_eq_getElem hrl)
                    have v0 := (HB3.out.cell (p := ⟨rb, ro + r * 3, none⟩) hb2).trans v0
                    have v1 := (HB3.out.cell (p := ⟨rb, ro + r * 3 + 1, none⟩) hb2).trans v1
                    have v2 := (HB3.out.cell (p := ⟨rb, ro + r * 3 + 2, none⟩) hb2).trans v2
                    generalize kl[r] = y at *
                    obtain ⟨y0, y1, y2⟩ := y
                    simp only at v0 v1 v2
                    have HB4 := Lib.hid (HB3.out.alloc HB3.out.size (.cells #[.int .u8 y0, .int .i64 y1, .string y2] 56))
                    clear hcs hb2
                    by_cases hsz : (y2.size : Int) ≤ 8192
                    all_goals
                      go_wp2
                      go_roundw
                      case rel => exact ⟨r + 1, _, by omega, by go_num, rfl, by have := HR.out; have := H40.out; unfold wrap64; omega, by have := HR.out; have := H40.out; unfold wrap64; omega, HB4.out⟩
                      case measure => simp [intOf]; omega
                  · obtain rfl : r = L := by omega
                    go_wp2
                    go_roundw
                    case rel => exact ⟨k + 1, q3, by omega, by go_num, rfl, HR.out.1, by have := HR.out.2; have := H40.out; omega, fun t ht => HKLL.out t ht (by have := H40.out; omega), HB3.out⟩
                    case measure => simp only [intOf]; omega
            · obtain rfl : k = 3 := by omega
              have HJ := Lib.hid (show Lean40 ⟨xt, xkA, xkc, xk, xoA, xoc, xo, xnA, xnc, xn⟩ from ⟨hrr 0 (by omega), hrr 1 (by omega), hrr 2 (by omega)⟩)
              clear hrr hb hp0 hp1
              by_cases hbig : 32768 < q2
              · have hbd : decide (32768 < q2) = true := decide_eq_true hbig
                go_wp2
                go_ret
                exact ⟨⟨true, rfl, fun h => by cases h⟩, HB2.out⟩
              · have hbd : decide (32768 < q2) = false := decide_eq_false hbig
                have HBG := Lib.hid hbig
                clear hbig
                go_wp2
                go_roundw
                case rel => exact ⟨j + 1, q2, by have := HXA.out; omega, by go_num, rfl, HP.out.1, by have := HBG.out; omega, HL.out HJ.out, HB2.out⟩
                case measure => have := HXA.out; simp only [intOf]; omega
      · obtain rfl : j = n := by omega
        have HALL := Lib.hid (show ∀ x ∈ l, Lean40 x from fun x hx => heq x (by rw [HN.out, List.take_length]; exact hx))
        clear heq
        by_cases h12 : 1200 < j
        · have hd : decide ((1200 : Int) < j) = true := decide_eq_true (by omega)
          have h12I : (1200 : Int) < j := by omega
          go_wp2
          go_ret
          exact ⟨⟨true, rfl, fun h => by cases h⟩, hb⟩
        · have hd : decide ((1200 : Int) < j) = false := decide_eq_false (by omega)
          have h12I : ¬ (1200 : Int) < j := by omega
          have HNB := Lib.hid h12
          clear h12
          go_wp2
          go_ret
          exact ⟨⟨false, rfl, fun _ => ⟨by have := HNB.out; have := HN.out; omega, HALL.out⟩⟩, hb⟩
end Go.Proofs.Ytocbdehcjcggeaa
