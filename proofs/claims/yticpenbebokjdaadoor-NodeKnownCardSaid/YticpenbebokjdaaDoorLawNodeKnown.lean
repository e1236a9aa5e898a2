/- The law NodeKnown: the walk. Conditions: none. -/
import Derived.Test.YticpenbebokjdaaDoorLawNodeBack
namespace Go.Proofs.YticpenbebokjdaaDoor
open Go.RowKit Go
set_option linter.unusedVariables false
set_option linter.unusedSimpArgs false
def lP : ByteArray := ⟨(Lib.repeatL [108] 100).toArray⟩
def cP : Cl := ⟨⟨#[107]⟩, 101, lP, 0⟩
theorem kn_put2 : putN 2 1 [] ⟨#[]⟩ = (⟨#[]⟩, 2) := by
  have e : mayB 2 1 [] ⟨#[]⟩ = false := by rw [may_2, emp_list]; rfl
  unfold putN sizeZ
  rw [e]
  rfl
theorem kn_leafP : leafB cP = false := by decide +kernel
theorem kn_putP : putN 1 0 [cP] ⟨#[]⟩ = (⟨#[]⟩, 2) := by
  have e : mayB 1 0 [cP] ⟨#[]⟩ = false := by
    rw [may_1, emp_list, okL_step, kn_leafP]
    simp
  unfold putN sizeZ
  rw [e]
  rfl
theorem kn_size1 : sizeZ 1 0 [] ⟨#[]⟩ = 3 := by
  have e : mayB 1 0 [] ⟨#[]⟩ = true := by rw [may_1, emp_list]; rfl
  unfold sizeZ
  rw [e]
  rfl
theorem kn_size9 : sizeZ 9 0 [] ⟨#[]⟩ = 0 := by
  have e : mayB 9 0 [] ⟨#[]⟩ = false := rfl
  unfold sizeZ
  rw [e]
  rfl
theorem kn_may4 (f : Int) (h0 : 0 ≤ f) (h1 : f ≤ 256) : mayB 4 f [] ⟨#[]⟩ = true := by
  rw [may_4, emp_list, pageB, decide_eq_true h0, decide_eq_true h1]
  rfl
theorem kn_size4 : sizeZ 4 0 [] ⟨#[]⟩ = 7 := by
  unfold sizeZ
  rw [kn_may4 0 (by omega) (by omega)]
  rfl
def zerS (n : Nat) : ByteArray := bstr (List.replicate n 0)
theorem zerS_size (n : Nat) : (zerS n).size = n := by unfold zerS; rw [bstr_size, List.length_replicate]
theorem kn_512 : takeZ (zerS 512) = (0, 0, [], ⟨#[]⟩, 7) := take_bad (by
  have e : tkK (zerS 512) = 0 := by decide +kernel
  unfold tkOk
  rw [e]
  rw [show mayB ((0 : Nat) : Int) (tkF (zerS 512)) (tkL (zerS 512)) (tkD (zerS 512)) = false from rfl, Bool.and_false])
theorem kn_511 : takeZ (zerS 511) = (0, 0, [], ⟨#[]⟩, 7) := take_bad (by
  have e : tkK (zerS 511) = 0 := by decide +kernel
  unfold tkOk
  rw [e]
  rw [show mayB ((0 : Nat) : Int) (tkF (zerS 511)) (tkL (zerS 511)) (tkD (zerS 511)) = false from rfl, Bool.and_false])
theorem kn_505 : takeZ (⟨#[4, 0, 0, 0, 0, 0, 7]⟩ ++ zerS 505) = (4, 7, [], ⟨#[]⟩, 0) := by
  obtain ⟨h1, h2, h3, h4, h5⟩ := take_put (kind := 4) (first := 7) (l := []) (data := ⟨#[]⟩) (m := 505) (kn_may4 7 (by omega) (by omega)) (by rfl)
  have e : (⟨#[4, 0, 0, 0, 0, 0, 7]⟩ ++ zerS 505 : ByteArray) = bstr (nodeL 4 7 [] ⟨#[]⟩ ++ List.replicate 505 0) := by
    rw [← bstr_append]
    rfl
  rw [e]
  unfold takeZ
  rw [if_pos h1, h2, h3, h4, h5]
theorem rep_z (m : Nat) (v : Int) (W : World) (hv : v = (m : Int)) (hm : m ≤ 512) : Calls Tryd.prog 10 #[.string ⟨#[0]⟩, .int .i64 v] W fun e w' => e = .returned (.string (zerS m)) ∧ Below W.heap.size W w' := rep_v m v W hv hm
theorem rep_l (W : World) : Calls Tryd.prog 10 #[.string ⟨#[108]⟩, .int .i64 100] W fun e w' => e = .returned (.string lP) ∧ Below W.heap.size W w' :=
  Tryd.strings_Repeat ⟨#[108]⟩ 100 W (by omega) (by rw [show (⟨#[108]⟩ : ByteArray).size = 1 from rfl]; omega)
theorem put_is {kind first : Int} {A : Option Addr} {l : List Cl} {n c : Nat} {data : ByteArray} {S : ByteArray} {E : Int} (W : World) (hC : Cls W W.heap.size A l) (hn : n = l.length) (hm : n ≤ 1000000) (h : putN kind first l data = (S, E)) :
    Calls Tryd.prog 9 #[.agg #[.int .u8 kind, .int .i64 first, .slice A n c, .string data]] W fun e w' => e = .returned (.tuple #[.string S, .int .i64 E]) ∧ Below W.heap.size W w' := by
  have hp := putN_any kind first A l n c data W hC hn hm
  rw [h] at hp
  exact hp
theorem size_is {kind first : Int} {A : Option Addr} {l : List Cl} {n c : Nat} {data : ByteArray} {z : Int} (W : World) (hC : Cls W W.heap.size A l) (hn : n = l.length) (hm : n ≤ 1000000) (h : sizeZ kind first l data = z) :
    Calls Tryd.prog 13 #[.agg #[.int .u8 kind, .int .i64 first, .slice A n c, .string data]] W fun e w' => e = .returned (.int .i64 z) ∧ Below W.heap.size W w' := by
  have hp := size_any kind first A l n c data W hC hn hm
  rw [h] at hp
  exact hp
/-- a box at G, its cells -/
def Kb (w : World) (G : Nat) (A : Option Addr) (c : Nat) (W : World) : Prop := Blk W G 27 #[.int .u8 4, .int .i64 7, .slice A 0 c, .string ⟨#[]⟩] ∧ Below w.heap.size w W
theorem kb_step {w : World} {G : Nat} {A : Option Addr} {c : Nat} {W W' : World} (h : Kb w G A c W) (hb : Below W.heap.size W W') : Kb w G A c W' := ⟨blk_step h.1 hb, bj h.2 hb⟩
set_option maxRecDepth 100000 in
set_option maxHeartbeats 16000000 in
theorem nodeKnown_walk (w : World) : Calls Tryd.prog 3 #[] w fun e w' => e = .returned (.bool true) ∧ Below w.heap.size w w' := by
  go_enter Tryd.func3, Tryd.ntmps3
  go_wp2_with fail
  refine (put_is (A := none) (l := []) _ (.inl rfl) rfl (by simp) kn_put2).mono ?_
  rintro e w1 ⟨rfl, hb1⟩
  have HB1 := Lib.hid hb1
  clear hb1
  go_wp2_with fail
  refine (rep_l _).mono ?_
  rintro e w2 ⟨rfl, hb2⟩
  have HB2 := Lib.hid ((bj HB1.out hb2).alloc (bj HB1.out hb2).size (.cells #[.string ⟨#[107]⟩, .int .i64 101, .string lP, .int .i64 0] 30))
  clear hb2 HB1
  go_wp2_with fail
  refine (put_is _ (cls_one w2 cP) rfl (by simp) kn_putP).mono ?_
  rintro e w3 ⟨rfl, hb3⟩
  have HB3 := Lib.hid (bj HB2.out hb3)
  clear hb3 HB2
  go_wp2_with fail
  refine (rep_z 512 _ _ (by rfl) (by omega)).mono ?_
  rintro e w4 ⟨rfl, hb4⟩
  have HB4 := Lib.hid (bj HB3.out hb4)
  clear hb4 HB3
  go_wp2_with fail
  refine (take_is (by rw [zerS_size]; omega) kn_512 _).mono ?_
  rintro e w5 ⟨A5, n5, c5, rfl, hC5, hn5, hb5⟩
  have HB5 := Lib.hid ((bj HB4.out hb5).alloc (bj HB4.out hb5).size (.cells #[.int .u8 0, .int .i64 0, .slice A5 n5 c5, .string ⟨#[]⟩] 27))
  clear hC5 hn5 hb5 HB4
  go_wp2_with fail
  refine (rep_z 511 _ _ (by rfl) (by omega)).mono ?_
  rintro e w6 ⟨rfl, hb6⟩
  have HB6 := Lib.hid (bj HB5.out hb6)
  clear hb6 HB5
  go_wp2_with fail
  refine (take_is (by rw [zerS_size]; omega) kn_511 _).mono ?_
  rintro e w7 ⟨A7, n7, c7, rfl, hC7, hn7, hb7⟩
  have HB7 := Lib.hid ((bj HB6.out hb7).alloc (bj HB6.out hb7).size (.cells #[.int .u8 0, .int .i64 0, .slice A7 n7 c7, .string ⟨#[]⟩] 27))
  clear hC7 hn7 hb7 HB6
  go_wp2_with fail
  refine (rep_z 505 _ _ (by rfl) (by omega)).mono ?_
  rintro e w8 ⟨rfl, hb8⟩
  have HB8 := Lib.hid (bj HB7.out hb8)
  clear hb8 HB7
  have hz5 : (zerS 505).size = 505 := zerS_size 505
  go_wp2_with fail
  have hsz : (⟨#[4, 0, 0, 0, 0, 0, 7]⟩ ++ zerS 505 : ByteArray).size ≤ 100000 := by rw [ByteArray.size_append, hz5]; decide
  refine (take_is hsz kn_505 _).mono ?_
  rintro e w9 ⟨A9, n9, c9, rfl, hC9, hn9, hb9⟩
  obtain rfl : n9 = 0 := hn9
  have HC9 := Lib.hid (cls_step hC9 (one_alloc (o := .cells #[.int .u8 4, .int .i64 7, .slice A9 0 c9, .string ⟨#[]⟩] 27)))
  have HKB := Lib.hid (show Kb w w9.heap.size A9 c9 (w9.alloc (.cells #[.int .u8 4, .int .i64 7, .slice A9 0 c9, .string ⟨#[]⟩] 27)) from ⟨Blk.new _ _ _, (bj HB8.out hb9).alloc (bj HB8.out hb9).size _⟩)
  clear hC9 hb9 HB8 hz5 hsz
  go_wp2_with fail
  refine (works_any _).mono ?_
  rintro e wa ⟨rfl, hba⟩
  have HCa := Lib.hid (cls_step HC9.out hba)
  have HKa := Lib.hid (kb_step HKB.out hba)
  clear hba HC9 HKB
  go_wp2_with fail
  refine (size_is (A := none) (l := []) _ (.inl rfl) rfl (by simp) kn_size1).mono ?_
  rintro e wb ⟨rfl, hbb⟩
  have HCb := Lib.hid (cls_step HCa.out hbb)
  have HKb := Lib.hid (kb_step HKa.out hbb)
  clear hbb HCa HKa
  go_wp2_with fail
  refine (size_is (A := none) (l := []) _ (.inl rfl) rfl (by simp) kn_size9).mono ?_
  rintro e wc ⟨rfl, hbc⟩
  have HCc := Lib.hid (cls_step HCb.out hbc)
  have HKc := Lib.hid (kb_step HKb.out hbc)
  clear hbc HCb HKb
  go_wp2_with fail
  refine (size_is (A := none) (l := []) _ (.inl rfl) rfl (by simp) kn_size4).mono ?_
  rintro e wd ⟨rfl, hbd⟩
  have HCd := Lib.hid (cls_step HCc.out hbd)
  have HKd := Lib.hid (kb_step HKc.out hbd)
  clear hbd HCc HKc
  obtain ⟨c0, c1, c2, c3⟩ := cell4 HKd.out.1
  go_wp2_with fail
  refine (same_one 4 7 [] A9 0 c9 none 0 ⟨#[]⟩ _ HCd.out (.inl rfl) rfl (by omega)).mono ?_
  rintro e we ⟨rfl, hbe⟩
  have HB := Lib.hid (kb_step HKd.out hbe).2
  clear hbe HCd HKd c0 c1 c2 c3
  go_wp2
  go_ret
  exact ⟨rfl, HB.out⟩
end Go.Proofs.YticpenbebokjdaaDoor
