/- The walk of EvalTypes. Conditions: how its arguments lie in memory. -/
import Derived.Test.YtkgpcodccpckeaaEt8
import Derived.Test.YtkgpcodccpckeaaEv12
namespace Go.Proofs.Ytkgpcodccpckeaa
open Go Go.RowKit
set_option linter.unusedVariables false
set_option linter.unusedSimpArgs false
theorem types_same (cols : List Int) (T : XT) (g : Bool) (hs : szT T 0 ≤ 300) : rtP cols T g = typeP cols T g := by
  unfold rtP typeP
  rw [may_same cols.length T 0 4611686018427387904 2 (sm_of T 0 hs) (.inr (.inr ⟨rfl, by omega⟩))]
set_option maxRecDepth 100000 in
set_option maxHeartbeats 8000000 in
theorem types_walk (op vk vn : Int) (vs tb nm : ByteArray) (n : Int) (A : Option Addr) (m c : Nat) (CA : Option Addr) (cn cc : Nat) (g : Bool) (z : Nat) (r1 r2 : Int) (w : World)
    (HS : Hid (∀ W : World, Below w.heap.size w W → Calls Try.prog 22 #[exV ⟨op, (vk, vn, vs), tb, nm, n, A, m, c⟩, .int .i64 0] W fun e w' => e = .returned (.int .i64 z) ∧ Below W.heap.size W w'))
    (HT : Hid (∀ W : World, Below w.heap.size w W → Calls Try.prog 11 #[exV ⟨op, (vk, vn, vs), tb, nm, n, A, m, c⟩, .slice CA cn cc, .bool g] W fun e w' => e = .returned (.tuple #[.int .u8 r1, .int .i64 r2]) ∧ Below W.heap.size W w'))
    (HR : Hid (z ≤ 300 → ∀ W : World, Below w.heap.size w W → Calls Try.prog 23 #[exV ⟨op, (vk, vn, vs), tb, nm, n, A, m, c⟩, .slice CA cn cc, .bool g] W fun e w' => e = .returned (.tuple #[.int .u8 r1, .int .i64 r2]) ∧ Below W.heap.size W w')) :
    Calls Try.prog 4 #[exV ⟨op, (vk, vn, vs), tb, nm, n, A, m, c⟩, .slice CA cn cc, .bool g] w fun e w' => e = .returned (.bool true) ∧ Below w.heap.size w w' := by
  have HB := Lib.hid (bx_new w ⟨op, (vk, vn, vs), tb, nm, n, A, m, c⟩)
  by_cases hz : 300 < z
  · have hzI : decide (300 < (z : Int)) = true := decide_eq_true (by omega)
    clear hz HR HT
    go_enter Try.func4, Try.ntmps4
    go_wp2_with fail
    refine (works15 _).mono ?_
    rintro e w1 ⟨rfl, hb1⟩
    have HB1 := Lib.hid (bx_below HB.out hb1)
    obtain ⟨c0, c1, c2, c3, c4, c5, c6, c7⟩ := bx_cells (bx_below HB.out hb1)
    clear hb1
    go_wp2_with fail
    refine (HS.out _ HB1.out.2).mono ?_
    rintro e w2 ⟨rfl, hb2⟩
    have HB2 := Lib.hid (bx_below HB1.out hb2)
    clear hb2
    go_wp2
    go_ret
    exact ⟨rfl, HB2.out.2⟩
  · have hzI : decide (300 < (z : Int)) = false := decide_eq_false (by omega)
    have HR2 := Lib.hid (HR.out (by omega))
    clear hz HR
    by_cases hc : 100 < cn
    · have hcI : decide (100 < (cn : Int)) = true := decide_eq_true (by omega)
      clear hc HR2 HT
      go_enter Try.func4, Try.ntmps4
      go_wp2_with fail
      refine (works15 _).mono ?_
      rintro e w1 ⟨rfl, hb1⟩
      have HB1 := Lib.hid (bx_below HB.out hb1)
      obtain ⟨c0, c1, c2, c3, c4, c5, c6, c7⟩ := bx_cells (bx_below HB.out hb1)
      clear hb1
      go_wp2_with fail
      refine (HS.out _ HB1.out.2).mono ?_
      rintro e w2 ⟨rfl, hb2⟩
      have HB2 := Lib.hid (bx_below HB1.out hb2)
      clear hb2
      go_wp2
      go_ret
      exact ⟨rfl, HB2.out.2⟩
    · have hcI : decide (100 < (cn : Int)) = false := decide_eq_false (by omega)
      clear hc
      go_enter Try.func4, Try.ntmps4
      go_wp2_with fail
      refine (works15 _).mono ?_
      rintro e w1 ⟨rfl, hb1⟩
      have HB1 := Lib.hid (bx_below HB.out hb1)
      obtain ⟨c0, c1, c2, c3, c4, c5, c6, c7⟩ := bx_cells (bx_below HB.out hb1)
      clear hb1
      go_wp2_with fail
      refine (HS.out _ HB1.out.2).mono ?_
      rintro e w2 ⟨rfl, hb2⟩
      have HB2 := Lib.hid (bx_below HB1.out hb2)
      clear c0 c1 c2 c3 c4 c5 c6 c7
      obtain ⟨c0, c1, c2, c3, c4, c5, c6, c7⟩ := bx_cells (bx_below HB1.out hb2)
      clear hb2
      go_wp2_with fail
      refine (HT.out _ HB2.out.2).mono ?_
      rintro e w3 ⟨rfl, hb3⟩
      have HB3 := Lib.hid (bx_below HB2.out hb3)
      clear c0 c1 c2 c3 c4 c5 c6 c7
      obtain ⟨c0, c1, c2, c3, c4, c5, c6, c7⟩ := bx_cells (bx_below HB2.out hb3)
      clear hb3
      go_wp2_with fail
      refine (HR2.out _ HB3.out.2).mono ?_
      rintro e w4 ⟨rfl, hb4⟩
      have HB4 := Lib.hid (bx_below HB3.out hb4)
      clear hb4
      go_wp2
      go_ret
      exact ⟨rfl, HB4.out.2⟩
theorem evalTypes_walk (T0 : XT) (A1 : Option Addr) (l1 : List Int) (n1 k1_ : Nat) (a2 : Bool) (hn1 : n1 = l1.length) (hm1 : n1 ≤ maxLen) (w : World) (I0 : InT w w.heap.size T0) (I1 : U8s w w.heap.size A1 l1) :
    Calls Try.prog 4 #[exV T0.ex, .slice A1 n1 k1_, .bool a2] w fun e w' => e = .returned (.bool true) ∧ Below w.heap.size w w' := by
  have h1 := fun (W : World) (hb : Below w.heap.size w W) => size_tree T0 W 0 (int_step I0 hb) (by omega)
  have h2 := fun (W : World) (hb : Below w.heap.size w W) => type_tree l1 A1 n1 k1_ hn1 T0 W a2 (int_step I0 hb) (u8s_step I1 hb)
  have h3 := fun (hz : szT T0 0 ≤ 300) (W : World) (hb : Below w.heap.size w W) => by
    have h := rtype_tree l1 A1 n1 k1_ hn1 T0 W a2 (int_step I0 hb) (u8s_step I1 hb)
    rw [types_same l1 T0 a2 hz] at h
    exact h
  generalize typeP l1 T0 a2 = r at *
  generalize szT T0 0 = z at *
  clear I0 I1
  obtain ⟨op, ⟨vk, vn, vs⟩, tb, nm, n, A, c, ks⟩ := T0
  exact types_walk op vk vn vs tb nm n A ks.length c A1 n1 k1_ a2 z r.1 r.2 w (Lib.hid h1) (Lib.hid h2) (Lib.hid h3)
end Go.Proofs.Ytkgpcodccpckeaa
