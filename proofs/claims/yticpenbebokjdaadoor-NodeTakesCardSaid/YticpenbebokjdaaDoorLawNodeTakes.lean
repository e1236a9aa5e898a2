/- The law NodeTakes: the walk. Conditions: those of each lemma. -/
import Derived.Test.YticpenbebokjdaaDoorNd22
namespace Go.Proofs.YticpenbebokjdaaDoor
open Go.RowKit Go
set_option linter.unusedVariables false
set_option linter.unusedSimpArgs false
theorem rtake_any (s : ByteArray) (w : World) (hs : s.size ≤ 4096) : Calls Tryd.prog 19 #[.string s] w fun e w' => RtP w s e w' := by
  by_cases h0 : rtK s = 0
  · exact rtake_0 s w hs h0
  by_cases h1 : rtK s = 1
  · exact rtake_1 s w hs h1
  by_cases h2 : rtK s = 2
  · exact rtake_2 s w hs h2
  by_cases h3 : rtK s = 3
  · exact rtake_3 s w hs h3
  exact rtake_o s w hs (by omega)
theorem rtake_is {s : ByteArray} {K F : Int} {l : List Cl} {D : ByteArray} {E : Int} (hs : s.size ≤ 4096) (h : takeZ s = (K, F, l, D, E)) (W : World) : Calls Tryd.prog 19 #[.string s] W fun e w' => ∃ A n c, e = .returned (.tuple #[.agg #[.int .u8 K, .int .i64 F, .slice A n c, .string D], .int .i64 E]) ∧ Cls w' w'.heap.size A l ∧ n = l.length ∧ Below W.heap.size W w' := by
  refine (rtake_any s W hs).mono ?_
  rintro e w' h2
  unfold RtP at h2
  rw [rtake_eq, h] at h2
  exact h2
/-- the page's box at G, its cells -/
def Nt1 (w : World) (K F : Int) (A : Option Addr) (l : List Cl) (n c : Nat) (D : ByteArray) (G : Nat) (W : World) : Prop := Blk W G 27 #[.int .u8 K, .int .i64 F, .slice A n c, .string D] ∧ Cls W W.heap.size A l ∧ Below w.heap.size w W
theorem nt1_new {w W : World} {K F : Int} {A : Option Addr} {l : List Cl} {n c : Nat} {D : ByteArray} (hC : Cls W W.heap.size A l) (hb : Below w.heap.size w W) : Nt1 w K F A l n c D W.heap.size (W.alloc (.cells #[.int .u8 K, .int .i64 F, .slice A n c, .string D] 27)) := ⟨Blk.new _ _ _, cls_step hC one_alloc, bj hb one_alloc⟩
theorem nt1_step {w W W' : World} {K F : Int} {A : Option Addr} {l : List Cl} {n c : Nat} {D : ByteArray} {G : Nat} (h : Nt1 w K F A l n c D G W) (hb : Below W.heap.size W W') : Nt1 w K F A l n c D G W' := ⟨blk_step h.1 hb, cls_step h.2.1 hb, bj h.2.2 hb⟩
theorem nt2_new {w W : World} {K F : Int} {A : Option Addr} {l : List Cl} {n c : Nat} {D : ByteArray} {G : Nat} {A2 : Option Addr} {c2 : Nat} (h : Nt1 w K F A l n c D G W) (hC : Cls W W.heap.size A2 l) : Nt1 w K F A l n c D G (W.alloc (.cells #[.int .u8 K, .int .i64 F, .slice A2 n c2, .string D] 27)) ∧ Blk (W.alloc (.cells #[.int .u8 K, .int .i64 F, .slice A2 n c2, .string D] 27)) W.heap.size 27 #[.int .u8 K, .int .i64 F, .slice A2 n c2, .string D] ∧ Cls (W.alloc (.cells #[.int .u8 K, .int .i64 F, .slice A2 n c2, .string D] 27)) (W.alloc (.cells #[.int .u8 K, .int .i64 F, .slice A2 n c2, .string D] 27)).heap.size A2 l := ⟨nt1_step h one_alloc, Blk.new _ _ _, cls_step hC one_alloc⟩
set_option maxRecDepth 100000 in
set_option maxHeartbeats 8000000 in
theorem ntakes_long (s : ByteArray) (w : World) (hl : 4096 < (s.size : Int)) :
    Calls Tryd.prog 5 #[.string s] w fun e w' => e = .returned (.bool true) ∧ Below w.heap.size w w' := by
  go_enter Tryd.func5, Tryd.ntmps5
  go_wp2_with fail
  refine (works_any _).mono ?_
  rintro e wa ⟨rfl, hb⟩
  have HB := Lib.hid hb
  clear hb
  go_wp2
  go_ret
  exact ⟨rfl, HB.out⟩
set_option maxRecDepth 100000 in
set_option maxHeartbeats 8000000 in
theorem ntakes_any (s : ByteArray) (w : World) (hl : (s.size : Int) ≤ 4096) (K F : Int) (l : List Cl) (D : ByteArray) (E : Int) (h : takeZ s = (K, F, l, D, E)) (hll : l.length ≤ 1000000) :
    Calls Tryd.prog 5 #[.string s] w fun e w' => e = .returned (.bool true) ∧ Below w.heap.size w w' := by
  have HT := Lib.hid (take_is (s := s) (by omega) h)
  have HR := Lib.hid (rtake_is (s := s) (by omega) h)
  have HLL := Lib.hid hll
  clear h hll
  go_enter Tryd.func5, Tryd.ntmps5
  go_wp2_with fail
  refine (works_any _).mono ?_
  rintro e wa ⟨rfl, hb⟩
  have HB := Lib.hid hb
  clear hb
  go_wp2_with fail
  refine (HT.out _).mono ?_
  rintro e wb ⟨A, n, c, rfl, hC, hn, hbb⟩
  have HST := Lib.hid (nt1_new (K := K) (F := F) (n := n) (c := c) (D := D) hC (bj HB.out hbb))
  have HN := Lib.hid hn
  clear hC hn hbb HB HT
  go_wp2_with fail
  refine (HR.out _).mono ?_
  rintro e wd ⟨A2, n2, c2, rfl, hC2, hn2, hbd⟩
  have HN2 : Hid (n2 = n) := Lib.hid (hn2.trans HN.out.symm)
  obtain rfl := HN2.out
  have HS2 := Lib.hid (nt2_new (c2 := c2) (nt1_step HST.out hbd) hC2)
  clear hC2 hn2 hbd HR HST HN2
  obtain ⟨c0, c1, c2', c3⟩ := cell4 HS2.out.1.1
  obtain ⟨d0, d1, d2, d3⟩ := cell4 HS2.out.2.1
  go_wp2_with fail
  refine (same_one K F l A n2 c A2 c2 D _ HS2.out.1.2.1 HS2.out.2.2 HN.out (by rw [HN.out]; exact HLL.out)).mono ?_
  rintro e we ⟨rfl, hbe⟩
  have HSE := Lib.hid (nt1_step HS2.out.1 hbe).2.2
  clear c0 c1 c2' c3 d0 d1 d2 d3 hbe HS2
  go_wp2
  go_ret
  exact ⟨by simp, HSE.out⟩
theorem nodeTakes_walk (a0 : ByteArray) (w0 : a0.size ≤ 140737488351232) (w : World) :
    Calls Tryd.prog 5 #[.string a0] w fun e w' => e = .returned (.bool true) ∧ Below w.heap.size w w' := by
  by_cases hl : 4096 < (a0.size : Int)
  · exact ntakes_long a0 w hl
  have hsI : (a0.size : Int) ≤ 4096 := by omega
  cases h : tkOk a0
  · exact ntakes_any a0 w hsI _ _ _ _ _ (take_bad h) (by simp)
  · exact ntakes_any a0 w hsI _ _ _ _ _ (take_ok h) (tk_len a0)
end Go.Proofs.YticpenbebokjdaaDoor
