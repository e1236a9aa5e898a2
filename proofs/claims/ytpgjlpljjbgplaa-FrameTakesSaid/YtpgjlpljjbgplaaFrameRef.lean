/- The small functions of package counterfoilref04. Conditions: those of each. -/
import Derived.Test.YtpgjlpljjbgplaaFrameSpec
import Derived.Test.YtpgjlpljjbgplaaRefFixed
import Derived.Test.YtpgjlpljjbgplaaRefValue2
import Derived.Test.YtpgjlpljjbgplaaSumRef
import Derived.Test.YtpgjlpljjbgplaaSumRef2
import Derived.Laws.MakeOwn
namespace Go.Proofs.Ytpgjlpljjbgplaa
open Go.RowKit
theorem fixL_eight (n : Nat) : fixL 8 n = eightL n := by
  simp [fixL, eightL, fourL]
  omega
theorem rnoughts_any (n : Nat) (w : World) (hn : n = 32 ∨ n = 40) :
    Calls Try.prog 42 #[.int .i64 n] w fun e w' => e = .returned (.string (bstr (List.replicate n 0))) ∧ Below w.heap.size w w' := by
  have hmk : ∀ W : World, (Instr.makeSlice 52 (.int .i64 (n : Int)) (.int .i64 (n : Int))).run Try.prog W = .ok (.slice (some ⟨W.heap.size, 0, none⟩) n n) (W.alloc (.cells (Array.replicate n (.int .u8 0)) 5)) := fun W => by
    rcases hn with rfl | rfl <;> kernel_rfl
  have hcv := run_convert_bytes_arg (P := Try.prog) (w.alloc (.cells (Array.replicate n (Value.int IntKind.u8 0)) 5)) 52 5 Try.underlying52 Try.underlying5 w.heap.size 0 n n ((List.replicate n 0).map Int.ofNat) (by simp) (fun i hi => by
    rw [World.cell?_alloc_mark]
    simp [List.getD_eq_getElem?_getD, hi]) 9 Try.underlying9
  rw [bstr_nums] at hcv
  have hn2 : n ≤ 40 := by omega
  clear hn
  go_enter Try.func42, Try.ntmps42
  go_wp2
  go_ret
  exact ⟨rfl, (Below.refl _ _).alloc (Nat.le_refl _) _⟩
theorem rnumber_any (n : Nat) (w : World) (hn : n < 4294967296) :
    Calls Try.prog 39 #[.int .i64 n, .int .i64 4] w fun e w' => e = .returned (.string (bstr (fourL n))) ∧ Below w.heap.size w w' := by
  have hf := refFixed_any n 4 w (by omega) (by omega) (by omega)
  rw [fixL_four] at hf
  have HF := Lib.hid hf
  have hI : (n : Int) < 4294967296 := by omega
  have hI0 : (0 : Int) ≤ n := by omega
  clear hf hn
  generalize hz : (n : Int) = z at *
  have HZ := Lib.hid hz
  clear hz
  go_enter Try.func39, Try.ntmps39
  go_wp2_with fail
  refine (HF.out).mono ?_
  rintro e w1 ⟨rfl, hb1⟩
  go_wp2
  go_ret
  exact ⟨rfl, hb1⟩
theorem rvalue_any (s : ByteArray) (w : World) (hs : s.size = 4) :
    Calls Try.prog 44 #[.string s] w fun e w' => e = .returned (.int .i64 (val 0 (bts s) : Nat)) ∧ w = w' := by
  have hlt := val4_lt (L := bts s) (by rw [bts_length]; exact hs) (bts_lt s)
  have hv := refValue_any s w (by omega)
  have hI : ((val 0 (bts s) : Nat) : Int) < 4294967296 := by omega
  have hI0 : (0 : Int) ≤ ((val 0 (bts s) : Nat) : Int) := by omega
  have HV := Lib.hid hv
  clear hv hlt
  generalize hz : ((val 0 (bts s) : Nat) : Int) = z at *
  have HZ := Lib.hid hz
  clear hz hs
  go_enter Try.func44, Try.ntmps44
  go_wp2_with fail
  refine (HV.out).mono ?_
  rintro e w1 ⟨rfl, rfl⟩
  go_wp2
  go_ret
  exact ⟨rfl, rfl⟩
set_option maxRecDepth 100000 in
set_option maxHeartbeats 2000000 in
theorem rheadMay_any (N F P : Int) (w : World) :
    Calls Try.prog 16 #[.agg #[.int .u64 N, .int .i64 F, .int .i64 P]] w fun e w' => e = .returned (.bool (okIn 256 F && okIn 256 P)) ∧ Below w.heap.size w w' := by
  have hb : Below w.heap.size w (w.alloc (.cells #[.int .u64 N, .int .i64 F, .int .i64 P] 27)) := (Below.refl _ _).alloc (Nat.le_refl _) _
  have hr : Hid ((okIn 256 F && okIn 256 P) = (decide (0 ≤ F) && decide (F ≤ 256) && decide (0 ≤ P) && decide (P ≤ 256))) := Lib.hid (by unfold okIn; rw [Bool.and_assoc, Bool.and_assoc, Bool.and_assoc])
  by_cases h1 : 0 ≤ F
  · by_cases h2 : F ≤ 256
    · by_cases h3 : 0 ≤ P
      · by_cases h4 : P ≤ 256
        · go_enter Try.func16, Try.ntmps16
          go_wp2
          go_ret
          exact ⟨by rw [hr.out]; simp [h1, h2, h3, h4], hb⟩
        · have h4' : decide (P ≤ 256) = false := by simpa using h4
          go_enter Try.func16, Try.ntmps16
          go_wp2
          go_ret
          exact ⟨by rw [hr.out, h4']; simp, hb⟩
      · have h3' : decide (0 ≤ P) = false := by simpa using h3
        go_enter Try.func16, Try.ntmps16
        go_wp2
        go_ret
        exact ⟨by rw [hr.out, h3']; simp, hb⟩
    · have h2' : decide (F ≤ 256) = false := by simpa using h2
      go_enter Try.func16, Try.ntmps16
      go_wp2
      go_ret
      exact ⟨by rw [hr.out, h2']; simp, hb⟩
  · have h1' : decide (0 ≤ F) = false := by simpa using h1
    go_enter Try.func16, Try.ntmps16
    go_wp2
    go_ret
    exact ⟨by rw [hr.out, h1']; simp, hb⟩
set_option maxRecDepth 100000 in
set_option maxHeartbeats 2000000 in
theorem rstart_any (N : Nat) (w : World) (hN : N < 18446744073709551616) :
    Calls Try.prog 20 #[.int .u64 N] w fun e w' => e = .returned (.agg #[.int .u32 (startP N).1, .int .u32 (startP N).2]) ∧ Below w.heap.size w w' := by
  have hf := fun w => refFixed_any N 8 w hN (by omega) (by omega)
  rw [fixL_eight] at hf
  have hz : (bstr (eightL N)).size = 8 := eight_size N
  have hadd := fun w => refAdd_any 0 0 (⟨#[99, 111, 117, 110, 116, 101, 114, 102]⟩ ++ bstr (eightL N)) w fit0 (by rw [ByteArray.size_append, hz, show (⟨#[99, 111, 117, 110, 116, 101, 114, 102]⟩ : ByteArray).size = 8 from rfl]; omega)
  have e : bts (⟨#[99, 111, 117, 110, 116, 101, 114, 102]⟩ ++ bstr (eightL N)) = startL N := by rw [bts_app, bts_name, bts_eight]; rfl
  rw [e] at hadd
  unfold startP
  generalize addL (startL N) (0, 0) = Q at *
  obtain ⟨Q1, Q2⟩ := Q
  simp only at hadd
  have HF := Lib.hid hf
  have HADD := Lib.hid hadd
  have hz1 : (⟨#[99, 111, 117, 110, 116, 101, 114, 102]⟩ : ByteArray).size + (bstr (eightL N)).size ≤ 9223372036854775807 := by rw [hz]; decide
  have hz2 : ¬ (9223372036854775807 < (⟨#[99, 111, 117, 110, 116, 101, 114, 102]⟩ : ByteArray).size + (bstr (eightL N)).size) := by rw [hz]; decide
  have hzI : (bstr (eightL N)).size ≤ 8 := by omega
  clear hf hadd e hz
  generalize bstr (eightL N) = E at *
  go_enter Try.func20, Try.ntmps20
  go_wp2_with fail
  refine (HF.out _).mono ?_
  rintro e w1 ⟨rfl, hb1⟩
  have hq := blk_at hb1
  have hb : Below w.heap.size w w1 := bja _ (Below.refl _ _) hb1
  clear hb1
  go_wp2_with fail
  refine (HADD.out _).mono ?_
  rintro e w2 ⟨rfl, hb2⟩
  replace hq := blk_step hq hb2
  replace hb := bj hb hb2
  have r0 : w2.cell? ⟨w.heap.size, 0, none⟩ = some (.int .u32 0) := hq.cell 0
  have r1 : w2.cell? ⟨w.heap.size, 1, none⟩ = some (.int .u32 0) := hq.cell 1
  have f0 := hq.frozen 0
  have f1 := hq.frozen 1
  clear hb2 hq
  go_wp2
  refine bodyPost_ret (v := .agg #[.int .u32 Q1, .int .u32 Q2]) (by simp [results, Try.results20, go_sem, r0, r1]) rfl ⟨rfl, ?_⟩
  exact (hb.setCell (Nat.le_refl _) _).setCell (Nat.le_refl _) _
end Go.Proofs.Ytpgjlpljjbgplaa
