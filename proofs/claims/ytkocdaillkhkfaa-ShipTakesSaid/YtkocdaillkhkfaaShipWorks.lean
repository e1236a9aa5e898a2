/- The laws' own small check of package ship. No condition. -/
import Derived.Test.YtkocdaillkhkfaaShipTk
import Derived.Test.YtkocdaillkhkfaaShipSame
namespace Go.Proofs.Ytkocdaillkhkfaa
open Go.RowKit
set_option linter.unusedVariables false
theorem rep_flat1 (c : UInt8) (n : Nat) : Lib.repeatL [c] n = (List.replicate n c.toNat : List Nat).map UInt8.ofNat := by
  induction n with
  | zero => rfl
  | succ n ih => simp [Lib.repeatL, List.replicate_succ] at ih ⊢; try exact ih
def pgD (c : Nat) : ByteArray := bstr (List.replicate 512 c)
theorem pgD_size (c : Nat) : (pgD c).size = 512 := by unfold pgD; rw [bstr_size, List.length_replicate]
set_option maxRecDepth 100000 in
set_option maxHeartbeats 1000000 in
theorem page_any (c : Nat) (w : World) (hc : c < 256) :
    Calls Try.prog 13 #[.int .u8 c] w fun e w' => e = .returned (.string (pgD c)) ∧ Below w.heap.size w w' := by
  have hcv := run_convert_bytes_arg (P := Try.prog) (w.alloc (.cells #[Value.int IntKind.u8 c] 5)) 38 5 Try.underlying38 Try.underlying5 w.heap.size 0 1 1 ([c].map Int.ofNat) rfl (fun i hi => by
    rw [World.cell?_alloc_mark]
    obtain rfl : i = 0 := by omega
    rfl) 9 Try.underlying9
  rw [bstr_nums] at hcv
  have hj := fun w => Try.strings_Repeat (bstr [c]) 512 w (by omega) (by rw [bstr_size]; simp)
  have e0 : (bstr [c]).data.toList = [UInt8.ofNat c] := rfl
  have e1 : (UInt8.ofNat c).toNat = c := by rw [UInt8.toNat_ofNat']; omega
  rw [e0, rep_flat1, e1, show (⟨((List.replicate 512 c : List Nat).map UInt8.ofNat).toArray⟩ : ByteArray) = pgD c from rfl] at hj
  have HJ := Lib.hid hj
  clear hj e0 e1
  go_enter Try.func13, Try.ntmps13
  go_wp2_with fail
  refine (HJ.out _).mono ?_
  rintro e w1 ⟨rfl, hb1⟩
  go_wp2
  go_ret
  exact ⟨rfl, bja _ (Below.refl _ _) hb1⟩
def twoL : List (Int × ByteArray) := [(1, pgD 97), (3, pgD 98)]
def TwoPost (w : World) (e : Ending) (w' : World) : Prop := ∃ A, e = .returned (.agg #[.int .u8 1, .int .u64 1, .int .u64 5, .bool false, .int .i64 3, .slice A 2 2]) ∧ Imgs w' w'.heap.size A twoL ∧ Below w.heap.size w w'
theorem two_imgs {W : World} (g : Nat) {t : TypeId} {d1 d2 : ByteArray} (h : Blk W g t #[.int .i64 1, .string d1, .int .i64 3, .string d2]) : Imgs W W.heap.size (some ⟨g, 0, none⟩) [(1, d1), (3, d2)] := by
  refine .inr ⟨g, 0, rfl, h.lt, fun j x hx => ?_⟩
  match j, hx with
  | 0, hx => simp at hx; subst hx; exact ⟨h.cell 0, h.cell 1⟩
  | 1, hx => simp at hx; subst hx; exact ⟨h.cell 2, h.cell 3⟩
  | j + 2, hx => simp at hx
set_option maxRecDepth 100000 in
set_option maxHeartbeats 2000000 in
theorem two_any (w : World) : Calls Try.prog 25 #[] w (TwoPost w) := by
  have hz0 := tz_new w
  have h97 : ∀ w, Calls Try.prog 13 #[.int .u8 97] w fun e w' => e = .returned (.string (pgD 97)) ∧ Below w.heap.size w w' := fun w => page_any 97 w (by omega)
  have h98 : ∀ w, Calls Try.prog 13 #[.int .u8 98] w fun e w' => e = .returned (.string (pgD 98)) ∧ Below w.heap.size w w' := fun w => page_any 98 w (by omega)
  unfold TwoPost twoL
  generalize pgD 97 = D1 at *
  generalize pgD 98 = D2 at *
  have H1 := Lib.hid h97
  have H2 := Lib.hid h98
  clear h97 h98
  go_enter Try.func25, Try.ntmps25
  go_wp2_with fail
  refine (H1.out _).mono ?_
  rintro e w1 ⟨rfl, hb1⟩
  have hz1 := tz_step hb1 hz0
  go_wp2_with fail
  refine (H2.out _).mono ?_
  rintro e w2 ⟨rfl, hb2⟩
  have hz2 := tz_alloc (.cells #[.int .i64 1, .string D1, .int .i64 3, .string D2] 51) (tz_step hb2 hz1)
  have kI := Blk.new w2 51 #[.int .i64 1, .string D1, .int .i64 3, .string D2]
  have hne : w.heap.size < w2.heap.size := (tz_step hb2 hz1).1.lt
  obtain ⟨r0, r1, r2, r3, r4, r5, f0, f1, f2, f3, f4, f5⟩ := tzR hz2
  have HK := Lib.hid kI
  have HZ := Lib.hid hz2
  have HNE := Lib.hid hne
  clear hne hb1 hb2 hz0 hz1 kI hz2
  go_wp2
  refine bodyPost_ret (v := .agg #[.int .u8 1, .int .u64 1, .int .u64 5, .bool false, .int .i64 3, .slice (some ⟨w2.heap.size, 0, none⟩) 2 2]) (by simp [results, Try.results25, go_sem, r0, r1, r2, r3, r4, r5]) rfl ⟨_, rfl, ?_, tz_end HZ.out _ _ _ _ _ _⟩
  have ne : w2.heap.size ≠ w.heap.size := by have := HNE.out; omega
  have h1 := HK.out.far (p := (⟨w.heap.size, 0, none⟩ : Addr)) ne (.int .u8 1)
  have h2 := h1.far (p := (⟨w.heap.size, 1, none⟩ : Addr)) ne (.int .u64 1)
  have h3 := h2.far (p := (⟨w.heap.size, 2, none⟩ : Addr)) ne (.int .u64 5)
  have h4 := h3.far (p := (⟨w.heap.size, 3, none⟩ : Addr)) ne (.bool false)
  have h5 := h4.far (p := (⟨w.heap.size, 4, none⟩ : Addr)) ne (.int .i64 3)
  have h6 := h5.far (p := (⟨w.heap.size, 5, none⟩ : Addr)) ne (.slice (some ⟨w2.heap.size, 0, none⟩) 2 2)
  exact two_imgs _ h6
end Go.Proofs.Ytkocdaillkhkfaa
