/- ref10.Bytes and ref10.Put, whole. Conditions: at most 65535 cells. -/
import Derived.Test.YticpenbebokjdaaDoorNd17e
import Derived.Test.YticpenbebokjdaaDoorNd18a
import Derived.Test.YticpenbebokjdaaDoorNd18b
import Derived.Test.YticpenbebokjdaaDoorNd18c
import Derived.Test.YticpenbebokjdaaDoorNd18d
import Derived.Test.YticpenbebokjdaaDoorLawNodeRoom
import Derived.Laws.MakeOwn
namespace Go.Proofs.YticpenbebokjdaaDoor
open Go.RowKit Go
set_option linter.unusedVariables false
set_option linter.unusedSimpArgs false
theorem rbytes_any (kind first : Int) (A : Option Addr) (l : List Cl) (n c : Nat) (data : ByteArray) (w : World) (hC : Cls w w.heap.size A l) (hn : n = l.length) (hl : n ≤ 65535) (hmay : mayB kind first l data = true) :
    Calls Tryd.prog 18 #[.agg #[.int .u8 kind, .int .i64 first, .slice A n c, .string data]] w fun e w' => e = .returned (.string (bstr (nodeL kind first l data))) ∧ Below w.heap.size w w' := by
  have hm : n ≤ 1000000 := by omega
  rcases may_kind hmay with rfl | rfl | rfl | rfl
  · exact rbytes_1 first A l n c data w hC hn hm hl hmay
  · exact rbytes_2 first A l n c data w hC hn hm hl hmay
  · exact rbytes_3 first A l n c data w hC hn hm hl hmay
  · exact rbytes_4 first A l n c data w hC hn hm hl hmay
theorem nodeS_size (kind first : Int) (l : List Cl) (data : ByteArray) : (bstr (nodeL kind first l data)).size = headZ kind data + cellsZ kind l := by rw [bstr_size, nodeL_length]
def PutHead : Prop := True
set_option maxRecDepth 100000 in
set_option maxHeartbeats 8000000 in
theorem rput_no (kind first : Int) (A : Option Addr) (l : List Cl) (n c : Nat) (data : ByteArray) (w : World) (hC : Cls w w.heap.size A l) (hn : n = l.length) (hl : n ≤ 65535) (hmay : mayB kind first l data = false) :
    Calls Tryd.prog 16 #[.agg #[.int .u8 kind, .int .i64 first, .slice A n c, .string data]] w fun e w' => e = .returned (.tuple #[.string ⟨#[]⟩, .int .i64 2]) ∧ Below w.heap.size w w' := by
  have HM := Lib.hid (fun (W : World) (h : LwSt w kind first A l n c data W) => (rmay_any kind first A l n c data W h.2 hn (by omega)).mono (fun e w' he => (⟨by rw [he.1, hmay], lwst_step h he.2⟩ : e = .returned (.bool false) ∧ LwSt w kind first A l n c data w')))
  have HST := Lib.hid (lwst_new (kind := kind) (first := first) (n := n) (c := c) (data := data) hC)
  clear hC hn hl hmay
  go_enter Tryd.func16, Tryd.ntmps16
  obtain ⟨c0, c1, c2, c3⟩ := cell4 HST.out.1.1
  go_wp2_with fail
  refine (HM.out _ HST.out).mono ?_
  rintro e wa ⟨rfl, ha⟩
  have HA := Lib.hid ha.1.2
  clear ha
  go_wp2
  go_ret2
  exact ⟨rfl, HA.out⟩
set_option maxRecDepth 100000 in
set_option maxHeartbeats 8000000 in
theorem rput_full (kind first : Int) (A : Option Addr) (l : List Cl) (n c : Nat) (data : ByteArray) (w : World) (hC : Cls w w.heap.size A l) (hn : n = l.length) (hl : n ≤ 65535) (hmay : mayB kind first l data = true) (hz : 512 < headZ kind data + cellsZ kind l) :
    Calls Tryd.prog 16 #[.agg #[.int .u8 kind, .int .i64 first, .slice A n c, .string data]] w fun e w' => e = .returned (.tuple #[.string ⟨#[]⟩, .int .i64 8]) ∧ Below w.heap.size w w' := by
  have HM := Lib.hid (fun (W : World) (h : LwSt w kind first A l n c data W) => (rmay_any kind first A l n c data W h.2 hn (by omega)).mono (fun e w' he => (⟨by rw [he.1, hmay], lwst_step h he.2⟩ : e = .returned (.bool true) ∧ LwSt w kind first A l n c data w')))
  have hs := nodeS_size kind first l data
  obtain ⟨S, hS⟩ : ∃ S, bstr (nodeL kind first l data) = S := ⟨_, rfl⟩
  have HBY := Lib.hid (fun (W : World) (h : LwSt w kind first A l n c data W) => (rbytes_any kind first A l n c data W h.2 hn hl hmay).mono (fun e w' he => (⟨by rw [he.1, hS], lwst_step h he.2⟩ : e = .returned (.string S) ∧ LwSt w kind first A l n c data w')))
  have HST := Lib.hid (lwst_new (kind := kind) (first := first) (n := n) (c := c) (data := data) hC)
  rw [hS] at hs
  have hs2 : 512 < (S.size : Int) := by omega
  clear hC hn hl hmay hz hs hS
  go_enter Tryd.func16, Tryd.ntmps16
  obtain ⟨c0, c1, c2, c3⟩ := cell4 HST.out.1.1
  go_wp2_with fail
  refine (HM.out _ HST.out).mono ?_
  rintro e wa ⟨rfl, ha⟩
  have HSA := Lib.hid ha
  clear ha c0 c1 c2 c3
  obtain ⟨c0, c1, c2, c3⟩ := cell4 HSA.out.1.1
  go_wp2_with fail
  refine (HBY.out _ HSA.out).mono ?_
  rintro e wb ⟨rfl, hb⟩
  have HB := Lib.hid hb.1.2
  clear hb
  go_wp2
  go_ret2
  exact ⟨rfl, HB.out⟩
set_option maxRecDepth 100000 in
set_option maxHeartbeats 8000000 in
theorem rput_ok (kind first : Int) (A : Option Addr) (l : List Cl) (n c : Nat) (data : ByteArray) (w : World) (hC : Cls w w.heap.size A l) (hn : n = l.length) (hl : n ≤ 65535) (hmay : mayB kind first l data = true) (m : Nat) (hz : headZ kind data + cellsZ kind l + m = 512) :
    Calls Tryd.prog 16 #[.agg #[.int .u8 kind, .int .i64 first, .slice A n c, .string data]] w fun e w' => e = .returned (.tuple #[.string (bstr (nodeL kind first l data ++ List.replicate m 0)), .int .i64 0]) ∧ Below w.heap.size w w' := by
  have HM := Lib.hid (fun (W : World) (h : LwSt w kind first A l n c data W) => (rmay_any kind first A l n c data W h.2 hn (by omega)).mono (fun e w' he => (⟨by rw [he.1, hmay], lwst_step h he.2⟩ : e = .returned (.bool true) ∧ LwSt w kind first A l n c data w')))
  have hs := nodeS_size kind first l data
  have hcat := bstr_append (nodeL kind first l data) (List.replicate m 0)
  obtain ⟨S, hS⟩ : ∃ S, bstr (nodeL kind first l data) = S := ⟨_, rfl⟩
  have HBY := Lib.hid (fun (W : World) (h : LwSt w kind first A l n c data W) => (rbytes_any kind first A l n c data W h.2 hn hl hmay).mono (fun e w' he => (⟨by rw [he.1, hS], lwst_step h he.2⟩ : e = .returned (.string S) ∧ LwSt w kind first A l n c data w')))
  have HST := Lib.hid (lwst_new (kind := kind) (first := first) (n := n) (c := c) (data := data) hC)
  rw [hS] at hs hcat
  have hz2 : (bstr (List.replicate m 0)).size = m := by rw [bstr_size, List.length_replicate]
  have hs2 : decide (512 < (S.size : Int)) = false := decide_eq_false (by omega)
  have hs3 : (512 : Int) - (S.size : Int) = m := by omega
  have hmI : (m : Int) ≤ 512 := by omega
  have hmw : IntKind.i64.wrap (m : Int) = m := by rw [IntKind.wrap_i64]; omega
  obtain ⟨i0, hi0, hz0, hz1, hz2'⟩ := info_parts u8_info
  have hmk : ∀ W : World, (Instr.makeSlice 41 (.int .i64 (m : Int)) (.int .i64 (m : Int))).run Tryd.prog W = .ok (.slice (some ⟨W.heap.size, 0, none⟩) m m) (W.alloc (.cells (Array.replicate m (.int .u8 0)) 5)) := fun W => by
    have hr := run_make (P := Tryd.prog) W 41 5 i0 _ Tryd.underlying41 hi0 hz0 .i64 .i64 m m (by omega) (Int.le_refl _) (by rw [hz2']; omega) (by omega)
    rw [hz1, Int.toNat_natCast, Nat.mul_one] at hr
    rw [hr]
    congr 2
    congr 1
    apply Array.ext
    · simp [madeCells]
    · intro i h1 h2
      simp [madeCells, Value.cells, Nat.mod_one]
  have hcv : ∀ W : World, (convert 41 9 (.slice (some ⟨W.heap.size, 0, none⟩) m m)).run Tryd.prog (W.alloc (.cells (Array.replicate m (Value.int IntKind.u8 0)) 5)) = .ok (.string (bstr (List.replicate m 0))) (W.alloc (.cells (Array.replicate m (Value.int IntKind.u8 0)) 5)) := fun W => by
    have h := run_convert_bytes_arg (P := Tryd.prog) (W.alloc (.cells (Array.replicate m (Value.int IntKind.u8 0)) 5)) 41 5 Tryd.underlying41 Tryd.underlying5 W.heap.size 0 m m ((List.replicate m 0).map Int.ofNat) (by simp) (fun i hi => by
      rw [World.cell?_alloc_mark]
      simp [List.getD_eq_getElem?_getD, hi]) 9 Tryd.underlying9
    rw [bstr_nums] at h
    exact h
  have HCAT := Lib.hid hcat
  generalize bstr (List.replicate m 0) = Z at *
  have z0 : S.size + Z.size ≤ 9223372036854775807 := by omega
  have z0' : ¬ (9223372036854775807 < S.size + Z.size) := by omega
  have z0I : (S.size : Int) + Z.size ≤ 9223372036854775807 := by omega
  clear hC hn hl hmay hz hs hS hz2 hcat i0 hi0 hz0 hz1 hz2'
  go_enter Tryd.func16, Tryd.ntmps16
  obtain ⟨c0, c1, c2, c3⟩ := cell4 HST.out.1.1
  go_wp2_with fail
  refine (HM.out _ HST.out).mono ?_
  rintro e wa ⟨rfl, ha⟩
  have HSA := Lib.hid ha
  clear ha c0 c1 c2 c3
  obtain ⟨c0, c1, c2, c3⟩ := cell4 HSA.out.1.1
  go_wp2_with fail
  refine (HBY.out _ HSA.out).mono ?_
  rintro e wb ⟨rfl, hb⟩
  have HB := Lib.hid hb.1.2
  clear hb
  go_wp2
  go_ret2
  exact ⟨congrArg (fun x => Ending.returned (.tuple #[.string x, .int .i64 0])) HCAT.out, HB.out.alloc HB.out.size _⟩
theorem rput_any (kind first : Int) (A : Option Addr) (l : List Cl) (n c : Nat) (data : ByteArray) (w : World) (hC : Cls w w.heap.size A l) (hn : n = l.length) (hl : n ≤ 65535) :
    Calls Tryd.prog 16 #[.agg #[.int .u8 kind, .int .i64 first, .slice A n c, .string data]] w fun e w' => e = .returned (.tuple #[.string (putN kind first l data).1, .int .i64 (putN kind first l data).2]) ∧ Below w.heap.size w w' := by
  unfold putN
  cases hmay : mayB kind first l data
  · have e : sizeZ kind first l data = 0 := by unfold sizeZ; rw [hmay]; rfl
    rw [if_pos e]
    exact rput_no kind first A l n c data w hC hn hl hmay
  · obtain ⟨e, hh⟩ := size_pos hmay
    rw [if_neg (by omega)]
    by_cases hz : 512 < sizeZ kind first l data
    · rw [if_pos hz]
      exact rput_full kind first A l n c data w hC hn hl hmay (by omega)
    · rw [if_neg hz]
      exact rput_ok kind first A l n c data w hC hn hl hmay _ (by omega)
end Go.Proofs.YticpenbebokjdaaDoor
