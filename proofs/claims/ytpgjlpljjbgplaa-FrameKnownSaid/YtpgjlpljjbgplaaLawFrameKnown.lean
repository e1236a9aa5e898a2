/- The walk of FrameKnown: the document's examples. No condition. -/
import Derived.Test.YtpgjlpljjbgplaaFrameWorks
namespace Go.Proofs.Ytpgjlpljjbgplaa
open Go.RowKit
theorem bjaa {a b c : World} (o q : Obj) (h : Below a.heap.size a b) (k : Below ((b.alloc o).alloc q).heap.size ((b.alloc o).alloc q) c) : Below a.heap.size a c :=
  bj ((h.alloc h.size o).alloc (h.alloc h.size o).size q) k
structure KnownIn (Z : ByteArray) : Prop where
  h1 : ∀ w, Calls Try.prog 10 #[.agg #[.int .u64 0, .int .i64 257, .int .i64 0]] w fun e w' => e = .returned (.tuple #[.string ⟨#[]⟩, .int .i64 2]) ∧ Below w.heap.size w w'
  h2 : ∀ w, Calls Try.prog 10 #[.agg #[.int .u64 0, .int .i64 0, .int .i64 (-1)]] w fun e w' => e = .returned (.tuple #[.string ⟨#[]⟩, .int .i64 2]) ∧ Below w.heap.size w w'
  hp : ∀ w, Calls Try.prog 12 #[.int .u8 0] w fun e w' => e = .returned (.string Z) ∧ Below w.heap.size w w'
  h3 : ∀ w, Calls Try.prog 11 #[.string (Z.extract 0 63)] w fun e w' => e = .returned (.tuple #[.agg #[.int .u64 0, .int .i64 0, .int .i64 0], .int .i64 10]) ∧ Below w.heap.size w w'
  h4 : ∀ w, Calls Try.prog 11 #[.string (Z.extract 0 64)] w fun e w' => e = .returned (.tuple #[.agg #[.int .u64 0, .int .i64 0, .int .i64 0], .int .i64 11]) ∧ Below w.heap.size w w'
  h5 : ∀ w, Calls Try.prog 13 #[.agg #[.int .u32 0, .int .u32 0], .int .u64 0, .agg #[.int .i64 0, .int .i64 0, .string Z]] w fun e w' => e = .returned (.tuple #[.string ⟨#[]⟩, .agg #[.int .u32 0, .int .u32 0], .int .i64 2]) ∧ Below w.heap.size w w'
  h6 : ∀ w, Calls Try.prog 13 #[.agg #[.int .u32 0, .int .u32 0], .int .u64 0, .agg #[.int .i64 1, .int .i64 0, .string (Z.extract 1 Z.size)]] w fun e w' => e = .returned (.tuple #[.string ⟨#[]⟩, .agg #[.int .u32 0, .int .u32 0], .int .i64 2]) ∧ Below w.heap.size w w'
  h7 : ∀ w, Calls Try.prog 14 #[.agg #[.int .u32 0, .int .u32 0], .int .u64 0, .string ((Z ++ Z).extract 0 575)] w fun e w' => e = .returned (.tuple #[.agg #[.int .i64 0, .int .i64 0, .string ⟨#[]⟩], .agg #[.int .u32 0, .int .u32 0], .int .i64 10]) ∧ Below w.heap.size w w'
  h8 : ∀ w, Calls Try.prog 14 #[.agg #[.int .u32 0, .int .u32 0], .int .u64 0, .string ((Z ++ Z).extract 0 576)] w fun e w' => e = .returned (.tuple #[.agg #[.int .i64 0, .int .i64 0, .string ⟨#[]⟩], .agg #[.int .u32 0, .int .u32 0], .int .i64 11]) ∧ Below w.heap.size w w'
theorem kin {Z : ByteArray} (h : Hid (KnownIn Z)) : KnownIn Z := h
set_option maxRecDepth 100000 in
set_option maxHeartbeats 8000000 in
theorem known_core (Z : ByteArray) (w : World) (hz : 512 ≤ Z.size) (hz2 : Z.size ≤ 512) (H : Hid (KnownIn Z)) :
    Calls Try.prog 3 #[] w fun e w' => e = .returned (.bool true) ∧ Below w.heap.size w w' := by
  have hs1 : (1 : Int) ≤ Z.size := by omega
  have hs63 : (63 : Int) ≤ Z.size := by omega
  have hs64 : (64 : Int) ≤ Z.size := by omega
  have HSF3 : ¬ (9223372036854775807 < Z.size + Z.size) := by omega
  have HSF4 : Z.size + Z.size ≤ 9223372036854775807 := by omega
  have hc1 : (575 : Int) ≤ Z.size + Z.size := by omega
  have hc2 : (576 : Int) ≤ Z.size + Z.size := by omega
  have hb : Below w.heap.size w w := Below.refl _ _
  go_enter Try.func3, Try.ntmps3
  go_wp2_with (first
    | (go_at_call 10; (with_reducible refine ((kin H).h1 _).mono ?_); rintro e w1 ⟨rfl, hk⟩; (first | (replace hb := bj hb hk) | (replace hb := bja _ hb hk) | (replace hb := bjaa _ _ hb hk)); clear hk)
    | (go_at_call 10; (with_reducible refine ((kin H).h2 _).mono ?_); rintro e w1 ⟨rfl, hk⟩; (first | (replace hb := bj hb hk) | (replace hb := bja _ hb hk) | (replace hb := bjaa _ _ hb hk)); clear hk)
    | (go_at_call 12; (with_reducible refine ((kin H).hp _).mono ?_); rintro e w1 ⟨rfl, hk⟩; (first | (replace hb := bj hb hk) | (replace hb := bja _ hb hk) | (replace hb := bjaa _ _ hb hk)); clear hk)
    | (go_at_call 11; (with_reducible refine ((kin H).h3 _).mono ?_); rintro e w1 ⟨rfl, hk⟩; (first | (replace hb := bj hb hk) | (replace hb := bja _ hb hk) | (replace hb := bjaa _ _ hb hk)); clear hk)
    | (go_at_call 11; (with_reducible refine ((kin H).h4 _).mono ?_); rintro e w1 ⟨rfl, hk⟩; (first | (replace hb := bj hb hk) | (replace hb := bja _ hb hk) | (replace hb := bjaa _ _ hb hk)); clear hk)
    | (go_at_call 13; (with_reducible refine ((kin H).h5 _).mono ?_); rintro e w1 ⟨rfl, hk⟩; (first | (replace hb := bj hb hk) | (replace hb := bja _ hb hk) | (replace hb := bjaa _ _ hb hk)); clear hk)
    | (go_at_call 13; (with_reducible refine ((kin H).h6 _).mono ?_); rintro e w1 ⟨rfl, hk⟩; (first | (replace hb := bj hb hk) | (replace hb := bja _ hb hk) | (replace hb := bjaa _ _ hb hk)); clear hk)
    | (go_at_call 14; (with_reducible refine ((kin H).h7 _).mono ?_); rintro e w1 ⟨rfl, hk⟩; (first | (replace hb := bj hb hk) | (replace hb := bja _ hb hk) | (replace hb := bjaa _ _ hb hk)); clear hk)
    | (go_at_call 14; (with_reducible refine ((kin H).h8 _).mono ?_); rintro e w1 ⟨rfl, hk⟩; (first | (replace hb := bj hb hk) | (replace hb := bja _ hb hk) | (replace hb := bjaa _ _ hb hk)); clear hk)
    | (go_at_call 15; refine (works_any _).mono ?_; rintro e w1 ⟨rfl, hk⟩; (first | (replace hb := bj hb hk) | (replace hb := bja _ hb hk) | (replace hb := bjaa _ _ hb hk)); clear hk))
  go_ret
  exact ⟨rfl, hb⟩
theorem frameKnown_walk (w : World) :
    Calls Try.prog 3 #[] w fun e w' => e = .returned (.bool true) ∧ Below w.heap.size w w' := by
  have hZ : (bstr (List.replicate 512 0)).size = 512 := by rw [bstr_size, List.length_replicate]
  have hB : bts (bstr (List.replicate 512 0)) = List.replicate 512 0 := bts_zeros 512
  have hcut : ∀ k, bts ((bstr (List.replicate 512 0)).extract 0 k) = (List.replicate 512 0).take k := fun k => by rw [bts_cut0, hB]
  have hcut2 : ∀ k, bts ((bstr (List.replicate 512 0) ++ bstr (List.replicate 512 0)).extract 0 k) = (List.replicate 512 0 ++ List.replicate 512 0).take k := fun k => by rw [bts_cut0, bts_app, hB]
  have sz1 : ∀ k, ((bstr (List.replicate 512 0)).extract 0 k).size ≤ 140737488351232 := fun k => by rw [← bts_length, hcut, List.length_take, List.length_replicate]; omega
  have sz2 : ∀ k, ((bstr (List.replicate 512 0) ++ bstr (List.replicate 512 0)).extract 0 k).size ≤ 140737488351232 := fun k => by rw [← bts_length, hcut2, List.length_take, List.length_append, List.length_replicate]; omega
  refine known_core (bstr (List.replicate 512 0)) w (by omega) (by omega) (Lib.hid ⟨fun w => putHead_any 0 257 0 w (by omega) (by omega), fun w => putHead_any 0 0 (-1) w (by omega) (by omega), fun w => page_any 0 w (by omega), fun w => ?_, fun w => ?_, fun w => ?_, fun w => ?_, fun w => ?_, fun w => ?_⟩)
  · have h := takeHead_any _ w (sz1 63)
    have e : thRet (bts ((bstr (List.replicate 512 0)).extract 0 63)) = headV 0 0 0 10 := by
      have e2 : thErr ((List.replicate 512 0).take 63) = 10 := by decide +kernel
      unfold thRet; rw [hcut, e2, if_neg (by decide)]
    rw [e] at h; exact h
  · have h := takeHead_any _ w (sz1 64)
    have e : thRet (bts ((bstr (List.replicate 512 0)).extract 0 64)) = headV 0 0 0 11 := by
      have e2 : thErr ((List.replicate 512 0).take 64) = 11 := by decide +kernel
      unfold thRet; rw [hcut, e2, if_neg (by decide)]
    rw [e] at h; exact h
  · exact put_bad 0 0 0 0 0 _ w (by rw [hZ]; rfl)
  · exact put_bad 0 0 0 1 0 _ w (by
      have e : ((bstr (List.replicate 512 0)).extract 1 (bstr (List.replicate 512 0)).size).size = 511 := by rw [← bts_length, bts_cutr, hB, List.length_drop, List.length_replicate]
      rw [e]; rfl)
  · have h := take_any 0 0 0 _ w fit0 (sz2 575)
    have e : fErr (0, 0) 0 ((List.replicate 512 0 ++ List.replicate 512 0).take 575) = 10 := by decide +kernel
    unfold tfRet at h
    rw [hcut2, e, if_neg (by decide)] at h
    exact h
  · have h := take_any 0 0 0 _ w fit0 (sz2 576)
    have e : fErr (0, 0) 0 ((List.replicate 512 0 ++ List.replicate 512 0).take 576) = 11 := by decide +kernel
    unfold tfRet at h
    rw [hcut2, e, if_neg (by decide)] at h
    exact h
end Go.Proofs.Ytpgjlpljjbgplaa
