/- The walk of FramePuts. Conditions: the numbers fit their kinds. -/
import Derived.Test.YtpgjlpljjbgplaaLawFrameBack
import Derived.Test.YtpgjlpljjbgplaaFrameRefSpec
namespace Go.Proofs.Ytpgjlpljjbgplaa
open Go.RowKit
def Pt (w : World) (p1 p2 pg cm : Int) (d : ByteArray) (W : World) : Prop :=
  Blk W w.heap.size 33 #[.int .u32 p1, .int .u32 p2] ∧ Blk W (w.heap.size + 1) 37 #[.int .i64 pg, .int .i64 cm, .string d] ∧ Below w.heap.size w W
theorem pt_step {w W w' : World} {p1 p2 pg cm : Int} {d : ByteArray} (hb : Below W.heap.size W w') (h : Pt w p1 p2 pg cm d W) : Pt w p1 p2 pg cm d w' := ⟨blk_step h.1 hb, blk_step h.2.1 hb, bj h.2.2 hb⟩
theorem pt_alloc {w W : World} {p1 p2 pg cm : Int} {d : ByteArray} (o : Obj) (h : Pt w p1 p2 pg cm d W) : Pt w p1 p2 pg cm d (W.alloc o) := pt_step ((Below.refl _ _).alloc (Nat.le_refl _) _) h
theorem pt_new (w : World) (p1 p2 pg cm : Int) (d : ByteArray) : Pt w p1 p2 pg cm d ((w.alloc (.cells #[.int .u32 p1, .int .u32 p2] 33)).alloc (.cells #[.int .i64 pg, .int .i64 cm, .string d] 37)) :=
  ⟨(Blk.new w _ _).alloc _, blk_new _ _ _ _ (by simp), (((Below.refl _ _).alloc (Nat.le_refl _) _).alloc (by simp) _)⟩
theorem ptS {w W : World} {p1 p2 pg cm : Int} {d : ByteArray} (h : Pt w p1 p2 pg cm d W) : W.cell? ⟨w.heap.size, 0, none⟩ = some (.int .u32 p1) ∧ W.cell? ⟨w.heap.size, 1, none⟩ = some (.int .u32 p2) ∧ W.cell? ⟨w.heap.size + 1, 0, none⟩ = some (.int .i64 pg) ∧ W.cell? ⟨w.heap.size + 1, 1, none⟩ = some (.int .i64 cm) ∧ W.cell? ⟨w.heap.size + 1, 2, none⟩ = some (.string d) := ⟨h.1.cell 0, h.1.cell 1, h.2.1.cell 0, h.2.1.cell 1, h.2.1.cell 2⟩
set_option maxRecDepth 100000 in
set_option maxHeartbeats 4000000 in
theorem framePuts_long (p1 p2 salt pg cm : Int) (d : ByteArray) (w : World) (hs : 8192 < d.size) :
    Calls Try.prog 5 #[.agg #[.int .u32 p1, .int .u32 p2], .int .u64 salt, .agg #[.int .i64 pg, .int .i64 cm, .string d]] w fun e w' => e = .returned (.bool true) ∧ Below w.heap.size w w' := by
  have hs0 := pt_new w p1 p2 pg cm d
  go_enter Try.func5, Try.ntmps5
  go_wp2_with fail
  refine (works_any _).mono ?_
  rintro e w1 ⟨rfl, hb1⟩
  have hs1 := pt_step hb1 hs0
  obtain ⟨c0, c1, c2, c3, c4⟩ := ptS hs1
  go_wp2
  go_ret
  exact ⟨rfl, hs1.2.2⟩
set_option maxRecDepth 100000 in
set_option maxHeartbeats 4000000 in
theorem framePuts_bad (p1 p2 salt pg cm : Int) (d : ByteArray) (w : World) (hs : d.size ≤ 8192) (hf : okF pg cm d.size = false) :
    Calls Try.prog 5 #[.agg #[.int .u32 p1, .int .u32 p2], .int .u64 salt, .agg #[.int .i64 pg, .int .i64 cm, .string d]] w fun e w' => e = .returned (.bool true) ∧ Below w.heap.size w w' := by
  have hs0 := pt_new w p1 p2 pg cm d
  have H1 := Lib.hid (fun w => put_bad p1 p2 salt pg cm d w hf)
  have H2 := Lib.hid (fun w => rmay_any pg cm d false w hf)
  clear hf
  go_enter Try.func5, Try.ntmps5
  go_wp2_with fail
  refine (works_any _).mono ?_
  rintro e w1 ⟨rfl, hb1⟩
  have hs1 := pt_step hb1 hs0
  obtain ⟨c0, c1, c2, c3, c4⟩ := ptS hs1
  clear hb1 hs0
  go_wp2_with fail
  refine (H1.out _).mono ?_
  rintro e w2 ⟨rfl, hb2⟩
  have hs2 := pt_alloc (.cells #[.int .u32 0, .int .u32 0] 33) (pt_step hb2 hs1)
  have k := blk_new w2 w2.heap.size 33 #[.int .u32 0, .int .u32 0] rfl
  clear hb2 hs1 c0 c1 c2 c3 c4
  obtain ⟨c0, c1, c2, c3, c4⟩ := ptS hs2
  go_wp2_with fail
  refine (H2.out _).mono ?_
  rintro e w3 ⟨rfl, hb3⟩
  have hs3 := pt_step hb3 hs2
  obtain ⟨d0, d1⟩ := pair_at (blk_step k hb3)
  clear k hb3 hs2 c0 c1 c2 c3 c4
  go_wp2
  go_ret
  exact ⟨rfl, hs3.2.2⟩
set_option maxRecDepth 100000 in
set_option maxHeartbeats 4000000 in
theorem framePuts_ok (p1 p2 salt pg cm q1 q2 : Int) (d S : ByteArray) (w : World) (hs : d.size ≤ 8192)
    (H1 : Hid (∀ w, Calls Try.prog 13 #[.agg #[.int .u32 p1, .int .u32 p2], .int .u64 salt, .agg #[.int .i64 pg, .int .i64 cm, .string d]] w fun e w' => e = .returned (.tuple #[.string S, .agg #[.int .u32 q1, .int .u32 q2], .int .i64 0]) ∧ Below w.heap.size w w'))
    (H2 : Hid (∀ w, Calls Try.prog 21 #[.agg #[.int .i64 pg, .int .i64 cm, .string d]] w fun e w' => e = .returned (.bool true) ∧ Below w.heap.size w w'))
    (H3 : Hid (∀ w, Calls Try.prog 22 #[.agg #[.int .u32 p1, .int .u32 p2], .int .u64 salt, .agg #[.int .i64 pg, .int .i64 cm, .string d]] w fun e w' => e = .returned (.tuple #[.string S, .agg #[.int .u32 q1, .int .u32 q2]]) ∧ Below w.heap.size w w')) :
    Calls Try.prog 5 #[.agg #[.int .u32 p1, .int .u32 p2], .int .u64 salt, .agg #[.int .i64 pg, .int .i64 cm, .string d]] w fun e w' => e = .returned (.bool true) ∧ Below w.heap.size w w' := by
  have hs0 := pt_new w p1 p2 pg cm d
  go_enter Try.func5, Try.ntmps5
  go_wp2_with fail
  refine (works_any _).mono ?_
  rintro e w1 ⟨rfl, hb1⟩
  have hs1 := pt_step hb1 hs0
  obtain ⟨c0, c1, c2, c3, c4⟩ := ptS hs1
  clear hb1 hs0
  go_wp2_with fail
  refine (H1.out _).mono ?_
  rintro e w2 ⟨rfl, hb2⟩
  have hs2 := pt_alloc (.cells #[.int .u32 q1, .int .u32 q2] 33) (pt_step hb2 hs1)
  have k := blk_new w2 w2.heap.size 33 #[.int .u32 q1, .int .u32 q2] rfl
  clear hb2 hs1 c0 c1 c2 c3 c4
  obtain ⟨c0, c1, c2, c3, c4⟩ := ptS hs2
  go_wp2_with fail
  refine (H2.out _).mono ?_
  rintro e w3 ⟨rfl, hb3⟩
  have hs3 := pt_step hb3 hs2
  replace k := blk_step k hb3
  clear hb3 hs2 c0 c1 c2 c3 c4
  obtain ⟨c0, c1, c2, c3, c4⟩ := ptS hs3
  go_wp2_with fail
  refine (H3.out _).mono ?_
  rintro e w4 ⟨rfl, hb4⟩
  have hs4 := pt_step hb4 hs3
  obtain ⟨d0, d1⟩ := pair_at ((blk_step k hb4).alloc (.cells #[.int .u32 q1, .int .u32 q2] 33))
  clear k hb4 hs3 c0 c1 c2 c3 c4
  go_wp2
  go_ret
  exact ⟨rfl, hs4.2.2.alloc hs4.2.2.size _⟩
theorem framePuts_walk (a0 b0 a1 a2 b2 : Int) (c2 : ByteArray) (w0 : (Lit.int .u32 a0).wf = true) (u0 : (Lit.int .u32 b0).wf = true) (w1 : (Lit.int .u64 a1).wf = true) (_w2 : (Lit.int .i64 a2).wf = true) (_u2 : (Lit.int .i64 b2).wf = true) (_x2 : c2.size ≤ 140737488351232) (w : World) :
    Calls Try.prog 5 #[.agg #[.int .u32 a0, .int .u32 b0], .int .u64 a1, .agg #[.int .i64 a2, .int .i64 b2, .string c2]] w fun e w' => e = .returned (.bool true) ∧ Below w.heap.size w w' := by
  have hp := fit_wf w0 u0
  have h1 := bounds_u64 w1
  clear w0 u0 w1
  by_cases hs : 8192 < c2.size
  · exact framePuts_long a0 b0 a1 a2 b2 c2 w hs
  · cases hf : okF a2 b2 c2.size with
    | false => exact framePuts_bad a0 b0 a1 a2 b2 c2 w (by omega) hf
    | true =>
      obtain ⟨f1, f2, f3, f4, f5⟩ := (okF_iff _ _ _).1 hf
      obtain ⟨salt, rfl⟩ := Int.eq_ofNat_of_zero_le h1.1
      obtain ⟨pg, rfl⟩ := Int.eq_ofNat_of_zero_le (show 0 ≤ a2 from by omega)
      obtain ⟨cm, rfl⟩ := Int.eq_ofNat_of_zero_le f3
      exact framePuts_ok a0 b0 salt pg cm _ _ c2 _ w (by omega) (Lib.hid fun w => put_ok a0 b0 salt pg cm c2 w hp (by omega) (by omega) (by omega) f5 hf) (Lib.hid fun w => rmay_any _ _ c2 true w hf) (Lib.hid fun w => rput_any a0 b0 salt pg cm c2 w hp (by omega) (by omega) (by omega) f5)
end Go.Proofs.Ytpgjlpljjbgplaa
