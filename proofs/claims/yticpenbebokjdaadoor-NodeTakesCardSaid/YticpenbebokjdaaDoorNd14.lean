/- ref10.Same, where the pages are one. Conditions: those of each lemma. -/
import Derived.Test.YticpenbebokjdaaDoorNd4
import Derived.Deep.RegionHeld3
namespace Go.Proofs.YticpenbebokjdaaDoor
open Go.RowKit Go
set_option linter.unusedVariables false
set_option linter.unusedSimpArgs false
/-- two nodes' boxes -/
def Nb2 (w : World) (kind first : Int) (A : Option Addr) (n c : Nat) (A2 : Option Addr) (cc : Nat) (data : ByteArray) (W : World) : Prop := Blk W w.heap.size 27 #[.int .u8 kind, .int .i64 first, .slice A n c, .string data] ∧ Blk W (w.heap.size + 1) 27 #[.int .u8 kind, .int .i64 first, .slice A2 n cc, .string data] ∧ Below w.heap.size w W
theorem nb2_new (w : World) (kind first : Int) (A : Option Addr) (n c : Nat) (A2 : Option Addr) (cc : Nat) (data : ByteArray) : Nb2 w kind first A n c A2 cc data ((w.alloc (.cells #[.int .u8 kind, .int .i64 first, .slice A n c, .string data] 27)).alloc (.cells #[.int .u8 kind, .int .i64 first, .slice A2 n cc, .string data] 27)) := by
  have h1 := Blk.new w 27 #[.int .u8 kind, .int .i64 first, .slice A n c, .string data]
  have h2 := Blk.new (w.alloc (.cells #[.int .u8 kind, .int .i64 first, .slice A n c, .string data] 27)) 27 #[.int .u8 kind, .int .i64 first, .slice A2 n cc, .string data]
  have hb := (one_alloc (w := w) (o := .cells #[.int .u8 kind, .int .i64 first, .slice A n c, .string data] 27))
  have e : (w.alloc (.cells #[.int .u8 kind, .int .i64 first, .slice A n c, .string data] 27)).heap.size = w.heap.size + 1 := by simp
  exact ⟨blk_step h1 one_alloc, by rw [e] at h2; exact h2, hb.alloc hb.size _⟩
theorem nb2_below {w : World} {kind first : Int} {A : Option Addr} {n c : Nat} {A2 : Option Addr} {cc : Nat} {data : ByteArray} {W W' : World} (h : Nb2 w kind first A n c A2 cc data W) (hb : Below W.heap.size W W') : Nb2 w kind first A n c A2 cc data W' := ⟨blk_step h.1 hb, blk_step h.2.1 hb, bj h.2.2 hb⟩
set_option maxRecDepth 100000 in
set_option maxHeartbeats 8000000 in
theorem same_one (kind first : Int) (l : List Cl) (A : Option Addr) (n c : Nat) (A2 : Option Addr) (cc : Nat) (data : ByteArray) (w : World) (hC : Cls w w.heap.size A l) (hC2 : Cls w w.heap.size A2 l) (hn : n = l.length) (hm : n ≤ 1000000) :
    Calls Tryd.prog 14 #[.agg #[.int .u8 kind, .int .i64 first, .slice A n c, .string data], .agg #[.int .u8 kind, .int .i64 first, .slice A2 n cc, .string data]] w fun e w' => e = .returned (.bool true) ∧ Below w.heap.size w w' := by
  have HNB := Lib.hid (nb2_new w kind first A n c A2 cc data)
  have HN := Lib.hid hn
  have hmI : (n : Int) ≤ 1000000 := by omega
  clear hn hm
  go_enter Tryd.func14, Tryd.ntmps14
  obtain ⟨c0, c1, c2, c3⟩ := cell4 HNB.out.1
  obtain ⟨d0, d1, d2, d3⟩ := cell4 HNB.out.2.1
  go_wp2
  go_loopw [5] (fun i wr => ∃ j : Nat, j ≤ n ∧ i = .int .i64 j ∧ Nb2 w kind first A n c A2 cc data wr) (fun i _ => n - (intOf i).toNat)
  case atStart => exact ⟨0, by omega, rfl, HNB.out⟩
  case round =>
    obtain ⟨j, hj, rfl, hnb⟩ := hrel
    clear c0 c1 c2 c3 d0 d1 d2 d3 HNB
    obtain ⟨c0, c1, c2, c3⟩ := cell4 hnb.1
    obtain ⟨d0, d1, d2, d3⟩ := cell4 hnb.2.1
    by_cases hjn : j < n
    · have hlt : j < l.length := by have := HN.out; omega
      obtain ⟨b, o, rfl, hbl, hcs⟩ := cls_get hC (fun e => by rw [e] at hlt; simp at hlt)
      obtain ⟨b', o', rfl, hbl', hcs'⟩ := cls_get hC2 (fun e => by rw [e] at hlt; simp at hlt)
      obtain ⟨a0, a1, a2, a3⟩ := cells4_below (hcs j l[j] (List.getElem?_eq_getElem hlt)) hnb.2.2 hbl
      obtain ⟨e0, e1, e2, e3⟩ := cells4_below (hcs' j l[j] (List.getElem?_eq_getElem hlt)) hnb.2.2 hbl'
      obtain ⟨x, hx⟩ : ∃ x, l[j] = x := ⟨_, rfl⟩
      rw [hx] at a0 a1 a2 a3 e0 e1 e2 e3
      obtain ⟨k, z, lo, p⟩ := x
      simp only at a0 a1 a2 a3 e0 e1 e2 e3
      have HNB3 := Lib.hid hnb
      have hjI : (j : Int) < n := by omega
      clear hcs hcs' hx hnb hlt hbl hbl' hC hC2
      go_wp2
      go_region
      go_wp2
      go_roundw
      case rel => exact ⟨j + 1, by omega, by go_num, nb2_below HNB3.out (Below.refl _ _).drew⟩
      case measure => simp [intOf]; omega
    · obtain rfl : j = n := by omega
      have HB := Lib.hid hnb.2.2
      clear hnb
      go_wp2
      go_ret
      exact ⟨rfl, HB.out⟩
end Go.Proofs.YticpenbebokjdaaDoor
