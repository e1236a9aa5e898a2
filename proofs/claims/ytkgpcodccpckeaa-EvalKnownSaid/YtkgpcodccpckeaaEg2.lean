/- eval.total of any values. Conditions: how they lie in memory; no more than a hundred thousand. -/
import Derived.Test.YtkgpcodccpckeaaEt10
import Derived.Test.YtkgpcodccpckeaaEv16
import Derived.OrdersHeld
import Derived.Deep.RegionHeld3
namespace Go.Proofs.Ytkgpcodccpckeaa
open Go Go.RowKit
set_option linter.unusedVariables false
set_option linter.unusedSimpArgs false
def intB (v : Val) : Bool := onlyB 1 [v.1]
def sumZ (l : List Val) : Int := (l.map (fun v => v.2.1)).sum
def totP (l : List Val) : Val × Int := if l.all intB then resZ (sumZ l) else (zV, 150)
theorem sum_snoc (l : List Val) (j : Nat) (x : Val) (hx : l[j]? = some x) : sumZ (l.take (j + 1)) = sumZ (l.take j) + x.2.1 := by
  unfold sumZ
  rw [List.take_add_one, hx]
  simp
theorem all_snoc (l : List Val) (j : Nat) (x : Val) (hx : l[j]? = some x) : (l.take (j + 1)).all intB = ((l.take j).all intB && intB x) := by
  rw [List.take_add_one, hx]
  simp
theorem sum_bound (l : List Val) (h : ∀ x ∈ l, Vk x) : -9223372036854775808 * (l.length : Int) ≤ sumZ l ∧ sumZ l ≤ 9223372036854775808 * (l.length : Int) := by
  induction l with
  | nil => simp [sumZ]
  | cons a l ih =>
    have h1 := ih (fun x hx => h x (List.mem_cons_of_mem _ hx))
    have h2 := (h a (List.mem_cons_self ..)).1
    have e : sumZ (a :: l) = a.2.1 + sumZ l := by simp [sumZ]
    rw [e, List.length_cons]
    have := h2.2.2
    omega
/-- the blocks: the answer's, the sum's -/
def Tq (w : World) (a b : Int) (W : World) : Prop := Blk W w.heap.size 23 #[.int .u8 0, .int .i64 0, .string ⟨#[]⟩] ∧ Blk W (w.heap.size + 1) 87 #[.int .u64 a, .int .u64 b] ∧ Below w.heap.size w W
theorem tq_step {w W W' : World} {a b : Int} (h : Tq w a b W) (hb : Below W.heap.size W W') : Tq w a b W' := ⟨blk_step h.1 hb, blk_step h.2.1 hb, bj h.2.2 hb⟩
theorem tq_drew {w W : World} {a b : Int} (h : Tq w a b W) : Tq w a b W.drew := ⟨h.1.drew, h.2.1.drew, h.2.2.drew⟩
theorem tq_new (w : World) : Tq w 0 0 ((w.alloc (.cells #[.int .u8 0, .int .i64 0, .string ⟨#[]⟩] 23)).alloc (.cells #[.int .u64 0, .int .u64 0] 87)) := ⟨(Blk.new _ _ _).alloc _, blk_new _ _ _ _ (by simp), bj one_alloc one_alloc⟩
theorem tq_set {w W : World} {a b : Int} (h : Tq w a b W) (c d : Int) : Tq w c d ((W.setCell ⟨w.heap.size + 1, 0, none⟩ (.int .u64 c)).setCell ⟨w.heap.size + 1, 1, none⟩ (.int .u64 d)) :=
  ⟨(h.1.far (by simp) _).far (by simp) _, (h.2.1.set_ 0 _).set_ 1 _, (h.2.2.setCell (by simp) _).setCell (by simp) _⟩
/-- and a value's -/
def Tqv (w : World) (a b : Int) (g : Nat) (x : Val) (W : World) : Prop := Tq w a b W ∧ Blk W g 23 (valC x)
theorem tqv_step {w W W' : World} {a b : Int} {g : Nat} {x : Val} (h : Tqv w a b g x W) (hb : Below W.heap.size W W') : Tqv w a b g x W' := ⟨tq_step h.1 hb, blk_step h.2 hb⟩
theorem tqv_drew {w W : World} {a b : Int} {g : Nat} {x : Val} (h : Tqv w a b g x W) : Tqv w a b g x W.drew := ⟨tq_drew h.1, h.2.drew⟩
theorem tqv_S {w W : World} {a b : Int} {g : Nat} {k q : Int} {s : ByteArray} (h : Tqv w a b g (k, q, s) W) : W.cell? ⟨w.heap.size + 1, 0, none⟩ = some (.int .u64 a) ∧ W.cell? ⟨w.heap.size + 1, 1, none⟩ = some (.int .u64 b) ∧ W.cell? ⟨g, 0, none⟩ = some (.int .u8 k) ∧ W.cell? ⟨g, 1, none⟩ = some (.int .i64 q) ∧ W.cell? ⟨g, 2, none⟩ = some (.string s) :=
  ⟨h.1.2.1.cell 0, h.1.2.1.cell 1, h.2.cell 0, h.2.cell 1, h.2.cell 2⟩
theorem pair_f {W : World} {g : Nat} {t : TypeId} {a b : Value} (h : Blk W g t #[a, b]) : W.cell? ⟨g, 0, none⟩ = some a ∧ W.cell? ⟨g, 1, none⟩ = some b ∧ W.frozen? ⟨g, 0, none⟩ = false ∧ W.frozen? ⟨g, 1, none⟩ = false := ⟨h.cell 0, h.cell 1, h.frozen 0, h.frozen 1⟩
set_option maxRecDepth 100000 in
set_option maxHeartbeats 8000000 in
theorem total_any (l : List Val) (b o m c : Nat) (w : World) (hm : m = l.length) (h0 : 0 < m) (hmx : m ≤ 100000) (hV : Vals w w.heap.size (some ⟨b, o, none⟩) l) (hl : ∀ x ∈ l, Vk x) :
    Calls Try.prog 60 #[.slice (some ⟨b, o, none⟩) m c] w fun e w' => e = .returned (.tuple #[valV (totP l).1, .int .i64 (totP l).2]) ∧ Below w.heap.size w w' := by
  obtain ⟨b', o', hA, hbl, hc⟩ := vals_get hV (fun e => by rw [e] at hm; simp at hm; omega)
  obtain ⟨rfl, rfl⟩ : b = b' ∧ o = o' := by simpa using hA
  obtain ⟨R1, R2, R3, RE, hR⟩ : ∃ R1 R2 R3 RE, totP l = ((R1, R2, R3), RE) := ⟨_, _, _, _, rfl⟩
  rw [hR]
  have HR := Lib.hid hR
  have HC := Lib.hid hc
  have HBL := Lib.hid hbl
  have HN := Lib.hid hm
  have HL := Lib.hid hl
  have HM := Lib.hid hmx
  have HT := Lib.hid (tq_new w)
  have HON : Hid (∀ (g : Nat) (t : TypeId) (k : Int) (W : World), Blk W g t #[.int .u8 k] → Calls Try.prog 56 #[.int .u8 1, .slice (some ⟨g, 0, none⟩) 1 1] W fun e w' => e = .returned (.bool (onlyB 1 [k])) ∧ Below W.heap.size W w') := Lib.hid (fun g t k W h => (only_any 1 (some ⟨g, 0, none⟩) [k] 1 1 W (u8s_blk h (fun j x hx => by
    match j, hx with
    | 0, hx => simp at hx; subst hx; rfl
    | j + 1, hx => simp at hx)) rfl (by omega)).mono fun e w' he => by
      obtain ⟨h1, rfl⟩ := he
      exact ⟨h1, Below.refl _ _⟩)
  have hmI : (m : Int) ≤ 100000 := by omega
  clear hR hc hbl hm h0 hmx hV hA hl
  go_enter Try.func60, Try.ntmps60
  go_wp2
  go_loopw [9] (fun i wr => ∃ (j : Nat), j ≤ m ∧ i = .int .i64 j ∧ (l.take j).all intB = true ∧ Tq w (wHi (sumZ (l.take j))) (wLo (sumZ (l.take j))) wr) (fun i _ => m - (intOf i).toNat)
  case atStart => exact ⟨0, by omega, rfl, rfl, HT.out⟩
  case round =>
    clear HT
    obtain ⟨j, hj, rfl, hall, hst⟩ := hrel
    have HST := Lib.hid hst
    have HA := Lib.hid hall
    by_cases hjm : j < m
    · have hjl : j < l.length := by have := HN.out; omega
      have hx := List.getElem?_eq_getElem hjl
      obtain ⟨a0, a1, a2⟩ := HC.out j l[j] hx
      have HS1 := Lib.hid (sum_snoc l j l[j] hx)
      have HS2 := Lib.hid (all_snoc l j l[j] hx)
      have HVK := Lib.hid (HL.out l[j] (List.getElem_mem hjl))
      have HNO : Hid (intB l[j] = false → totP l = (zV, 150)) := Lib.hid (fun h => by
        unfold totP
        rw [if_neg]
        intro h2
        rw [List.all_eq_true] at h2
        have := h2 l[j] (List.getElem_mem hjl)
        rw [h] at this
        cases this)
      generalize l[j] = x at *
      obtain ⟨k, q, s⟩ := x
      simp only at a0 a1 a2
      have b0 := (hst.2.2.cell (p := ⟨b, o + j * 3, none⟩) HBL.out).trans a0
      have b1 := (hst.2.2.cell (p := ⟨b, o + j * 3 + 1, none⟩) HBL.out).trans a1
      have b2 := (hst.2.2.cell (p := ⟨b, o + j * 3 + 2, none⟩) HBL.out).trans a2
      have hjI : (j : Int) < m := by omega
      generalize sumZ (l.take j) = S at *
      obtain ⟨A1, hA1⟩ : ∃ A1, wHi S = A1 := ⟨_, rfl⟩
      obtain ⟨A2, hA2⟩ : ∃ A2, wLo S = A2 := ⟨_, rfl⟩
      obtain ⟨B1, hB1⟩ : ∃ B1, wHi q = B1 := ⟨_, rfl⟩
      obtain ⟨B2, hB2⟩ : ∃ B2, wLo q = B2 := ⟨_, rfl⟩
      obtain ⟨C1, hC1⟩ : ∃ C1, wHi (S + q) = C1 := ⟨_, rfl⟩
      obtain ⟨C2, hC2⟩ : ∃ C2, wLo (S + q) = C2 := ⟨_, rfl⟩
      have hpl := fun W => plus_any S q W
      have hwi := fun W => widened_any q HVK.out.1.2.2.1 HVK.out.1.2.2.2 W
      rw [hA1, hA2] at HST
      simp only [hA1, hA2, hB1, hB2, hC1, hC2] at hpl hwi
      have HPL := Lib.hid hpl
      have HWI := Lib.hid hwi
      have HCC := Lib.hid (And.intro hC1 hC2)
      clear hpl hwi hA1 hA2 hB1 hB2 hC1 hC2 hst hall a0 a1 a2 hx
      have HV1 := Lib.hid (show Tqv w A1 A2 wr.heap.size (k, q, s) (wr.alloc (.cells (valC (k, q, s)) 23)) from ⟨tq_step HST.out one_alloc, Blk.new _ _ _⟩)
      have HOG := Lib.hid (fun W (h : Blk W (wr.heap.size + 1) 5 #[.int .u8 k]) => HON.out (wr.heap.size + 1) _ k W h)
      go_wp2_with fail
      refine (HOG.out _ (blk_new _ _ _ _ (by simp))).mono ?_
      rintro e w3 ⟨rfl, hb3⟩
      have HV3 := Lib.hid (tqv_step (tqv_step HV1.out one_alloc) hb3)
      clear hb3 b0 b1 b2
      cases hk : onlyB 1 [k]
      · have HNO2 := Lib.hid (HNO.out hk)
        obtain ⟨r0, r1, r2, f0, f1, f2⟩ := cell3 HV3.out.1.1
        clear HNO
        go_wp2
        obtain ⟨e0, e1, e2, _, _, _⟩ := cell3 (blk3_set HV3.out.1.1 (.int .u8 0) (.int .i64 0) (.string ⟨#[]⟩))
        exact bodyPost_ret (v := .tuple #[.agg #[.int .u8 0, .int .i64 0, .string ⟨#[]⟩], .int .i64 150]) (by simp [results, Try.results60, go_sem, e0, e1, e2]) rfl ⟨by
          have h := HR.out
          rw [HNO2.out] at h
          simp only [Prod.mk.injEq] at h
          obtain ⟨⟨rfl, rfl, rfl⟩, rfl⟩ := h
          rfl, below3_set HV3.out.1.2.2 _ _ _⟩
      · have HS3 := Lib.hid (show (l.take (j + 1)).all intB = true by rw [HS2.out, HA.out]; exact hk)
        have hs := tqv_drew HV3.out
        have HWC := Lib.hid (fun W (h : Tqv w A1 A2 wr.heap.size (k, q, s) W) => (HWI.out W).mono fun e w' he => And.intro he.1 (tqv_step h he.2))
        have HPC := Lib.hid (fun W (h : Tqv w A1 A2 wr.heap.size (k, q, s) W) => (HPL.out W).mono fun e w' he => And.intro he.1 (tqv_step h he.2))
        clear HNO hk HS2 HA HV1 HST HV3
        obtain ⟨c0, c1, c2, c3, c4⟩ := tqv_S hs
        go_wp2_with fail
        go_region_with (first
            | (go_at_call 64; (with_reducible refine (HWC.out _ (by assumption)).mono ?_); rintro e w4 ⟨rfl, hs⟩; obtain ⟨c0, c1, c2, c3, c4⟩ := tqv_S hs)
            | (go_at_call 67; (with_reducible refine (HPC.out _ (by assumption)).mono ?_); rintro e w5 ⟨rfl, hs⟩; obtain ⟨y0, y1, f0, f1⟩ := pair_f hs.1.2.1))
        all_goals
          go_wp2
          go_roundw
          case rel => exact ⟨j + 1, by omega, by go_num, HS3.out, by rw [HS1.out, HCC.out.1, HCC.out.2]; exact tq_set hs.1 _ _⟩
          case measure => simp [intOf]; omega
    · obtain rfl : j = m := by omega
      have htk : l.take j = l := List.take_of_length_le (by have := HN.out; omega)
      rw [htk] at hst hall
      have hbd := sum_bound l HL.out
      have hR := HR.out
      unfold totP at hR
      rw [if_pos hall] at hR
      have hva := fun W => value_any (sumZ l) (by have := HN.out; omega) W
      rw [hR] at hva
      generalize sumZ l = S at *
      generalize wHi S = A1 at *
      generalize wLo S = A2 at *
      have HVA := Lib.hid hva
      have HST := Lib.hid hst
      obtain ⟨y0, y1⟩ := pair_at hst.2.1
      clear hva hR hst hall HA hbd
      go_wp2_with fail
      refine (HVA.out _).mono ?_
      rintro e w3 ⟨rfl, hb3⟩
      have HV3 := Lib.hid (tq_step HST.out hb3)
      obtain ⟨r0, r1, r2, f0, f1, f2⟩ := cell3 HV3.out.1
      clear hb3
      go_wp2
      obtain ⟨e0, e1, e2, _, _, _⟩ := cell3 (blk3_set HV3.out.1 (.int .u8 R1) (.int .i64 R2) (.string R3))
      exact bodyPost_ret (v := .tuple #[.agg #[.int .u8 R1, .int .i64 R2, .string R3], .int .i64 RE]) (by simp [results, Try.results60, go_sem, e0, e1, e2]) rfl ⟨rfl, below3_set HV3.out.2.2 _ _ _⟩
end Go.Proofs.Ytkgpcodccpckeaa
