/- The laws' own small check of package frame, and a page of one byte. No condition. -/
import Derived.Test.YtpgjlpljjbgplaaFrameSpec
namespace Go.Proofs.Ytpgjlpljjbgplaa
open Go.RowKit
theorem rep_flat1 (c : UInt8) (n : Nat) : Lib.repeatL [c] n = (List.replicate n c.toNat : List Nat).map UInt8.ofNat := by
  induction n with
  | zero => rfl
  | succ n ih => simp [Lib.repeatL, List.replicate_succ] at ih ⊢; try exact ih
set_option maxRecDepth 100000 in
set_option maxHeartbeats 1000000 in
theorem page_any (c : Nat) (w : World) (hc : c < 256) :
    Calls Try.prog 12 #[.int .u8 c] w fun e w' => e = .returned (.string (bstr (List.replicate 512 c))) ∧ Below w.heap.size w w' := by
  have hcv := run_convert_bytes_arg (P := Try.prog) (w.alloc (.cells #[Value.int IntKind.u8 c] 5)) 52 5 Try.underlying52 Try.underlying5 w.heap.size 0 1 1 ([c].map Int.ofNat) rfl (fun i hi => by
    rw [World.cell?_alloc_mark]
    obtain rfl : i = 0 := by omega
    rfl) 9 Try.underlying9
  rw [bstr_nums] at hcv
  have hj := fun w => Try.strings_Repeat (bstr [c]) 512 w (by omega) (by rw [bstr_size]; simp)
  have e0 : (bstr [c]).data.toList = [UInt8.ofNat c] := rfl
  have e1 : (UInt8.ofNat c).toNat = c := by rw [UInt8.toNat_ofNat']; omega
  rw [e0, rep_flat1, e1, show (⟨((List.replicate 512 c : List Nat).map UInt8.ofNat).toArray⟩ : ByteArray) = bstr (List.replicate 512 c) from rfl] at hj
  have HJ := Lib.hid hj
  clear hj e0 e1
  go_enter Try.func12, Try.ntmps12
  go_wp2_with fail
  refine (HJ.out _).mono ?_
  rintro e w1 ⟨rfl, hb1⟩
  go_wp2
  go_ret
  exact ⟨rfl, bja _ (Below.refl _ _) hb1⟩
structure WorksIn (S D T : ByteArray) (P1 P2 Q1 Q2 : Int) : Prop where
  h1 : ∀ w, Calls Try.prog 10 #[.agg #[.int .u64 7, .int .i64 2, .int .i64 3]] w fun e w' => e = .returned (.tuple #[.string S, .int .i64 0]) ∧ Below w.heap.size w w'
  h2 : ∀ w, Calls Try.prog 11 #[.string S] w fun e w' => e = .returned (.tuple #[.agg #[.int .u64 7, .int .i64 2, .int .i64 3], .int .i64 0]) ∧ Below w.heap.size w w'
  h3 : ∀ w, Calls Try.prog 19 #[.int .u64 7] w fun e w' => e = .returned (.agg #[.int .u32 P1, .int .u32 P2]) ∧ Below w.heap.size w w'
  h4 : ∀ w, Calls Try.prog 12 #[.int .u8 120] w fun e w' => e = .returned (.string D) ∧ Below w.heap.size w w'
  h5 : ∀ w, Calls Try.prog 13 #[.agg #[.int .u32 P1, .int .u32 P2], .int .u64 7, .agg #[.int .i64 1, .int .i64 0, .string D]] w fun e w' => e = .returned (.tuple #[.string T, .agg #[.int .u32 Q1, .int .u32 Q2], .int .i64 0]) ∧ Below w.heap.size w w'
  h6 : ∀ w, Calls Try.prog 14 #[.agg #[.int .u32 P1, .int .u32 P2], .int .u64 7, .string T] w fun e w' => e = .returned (.tuple #[.agg #[.int .i64 1, .int .i64 0, .string D], .agg #[.int .u32 Q1, .int .u32 Q2], .int .i64 0]) ∧ Below w.heap.size w w'
  h7 : (Q1 == P1) = false
theorem win {S D T : ByteArray} {P1 P2 Q1 Q2 : Int} (h : Hid (WorksIn S D T P1 P2 Q1 Q2)) : WorksIn S D T P1 P2 Q1 Q2 := h
def Wk (w : World) (g1 g2 g3 g4 g5 : Nat) (D : ByteArray) (Q1 Q2 : Int) (W : World) : Prop :=
  Blk W g1 27 #[.int .u64 7, .int .i64 2, .int .i64 3] ∧ Blk W g2 27 #[.int .u64 7, .int .i64 2, .int .i64 3] ∧ Blk W g3 33 #[.int .u32 Q1, .int .u32 Q2] ∧ Blk W g4 37 #[.int .i64 1, .int .i64 0, .string D] ∧ Blk W g5 33 #[.int .u32 Q1, .int .u32 Q2] ∧ Below w.heap.size w W
theorem wk_below {w W w' : World} {g1 g2 g3 g4 g5 : Nat} {D : ByteArray} {Q1 Q2 : Int} (hb : Below W.heap.size W w') (h : Wk w g1 g2 g3 g4 g5 D Q1 Q2 W) : Wk w g1 g2 g3 g4 g5 D Q1 Q2 w' := by
  obtain ⟨h1, h2, h3, h4, h5, hw⟩ := h
  exact ⟨blk_step h1 hb, blk_step h2 hb, blk_step h3 hb, blk_step h4 hb, blk_step h5 hb, bj hw hb⟩
theorem wk_drew {w W : World} {g1 g2 g3 g4 g5 : Nat} {D : ByteArray} {Q1 Q2 : Int} (h : Wk w g1 g2 g3 g4 g5 D Q1 Q2 W) : Wk w g1 g2 g3 g4 g5 D Q1 Q2 W.drew := wk_below (Below.refl _ _).drew h
theorem wkS {w W : World} {g1 g2 g3 g4 g5 : Nat} {D : ByteArray} {Q1 Q2 : Int} (h : Wk w g1 g2 g3 g4 g5 D Q1 Q2 W) :
    W.cell? ⟨g1, 0, none⟩ = some (.int .u64 7) ∧ W.cell? ⟨g1, 1, none⟩ = some (.int .i64 2) ∧ W.cell? ⟨g1, 2, none⟩ = some (.int .i64 3) ∧ W.cell? ⟨g2, 0, none⟩ = some (.int .u64 7) ∧ W.cell? ⟨g2, 1, none⟩ = some (.int .i64 2) ∧ W.cell? ⟨g2, 2, none⟩ = some (.int .i64 3) ∧
    W.cell? ⟨g3, 0, none⟩ = some (.int .u32 Q1) ∧ W.cell? ⟨g3, 1, none⟩ = some (.int .u32 Q2) ∧ W.cell? ⟨g4, 2, none⟩ = some (.string D) ∧ W.cell? ⟨g5, 0, none⟩ = some (.int .u32 Q1) ∧ W.cell? ⟨g5, 1, none⟩ = some (.int .u32 Q2) ∧ Wk w g1 g2 g3 g4 g5 D Q1 Q2 W :=
  ⟨h.1.cell 0, h.1.cell 1, h.1.cell 2, h.2.1.cell 0, h.2.1.cell 1, h.2.1.cell 2, h.2.2.1.cell 0, h.2.2.1.cell 1, h.2.2.2.1.cell 2, h.2.2.2.2.1.cell 0, h.2.2.2.2.1.cell 1, h⟩
set_option maxRecDepth 100000 in
set_option maxHeartbeats 8000000 in
theorem works_core (S D T : ByteArray) (P1 P2 Q1 Q2 : Int) (w : World) (H : Hid (WorksIn S D T P1 P2 Q1 Q2)) :
    Calls Try.prog 15 #[] w fun e w' => e = .returned (.bool true) ∧ Below w.heap.size w w' := by
  go_enter Try.func15, Try.ntmps15
  go_wp2_with fail
  refine ((win H).h1 _).mono ?_
  rintro e w1 ⟨rfl, hb1⟩
  have k1 := blk_at hb1
  have b1 := bja _ (Below.refl _ _) hb1
  clear hb1
  go_wp2_with fail
  refine ((win H).h2 _).mono ?_
  rintro e w2 ⟨rfl, hb2⟩
  have k2 := blk_new w2 w2.heap.size 27 #[.int .u64 7, .int .i64 2, .int .i64 3] rfl
  replace k1 := (blk_step k1 hb2).alloc (.cells #[.int .u64 7, .int .i64 2, .int .i64 3] 27)
  replace b1 := (bj b1 hb2).alloc (bj b1 hb2).size (.cells #[.int .u64 7, .int .i64 2, .int .i64 3] 27)
  clear hb2
  go_wp2_with fail
  refine ((win H).h3 _).mono ?_
  rintro e w3 ⟨rfl, hb3⟩
  replace k1 := blk_step k1 hb3
  replace k2 := blk_step k2 hb3
  replace b1 := bj b1 hb3
  clear hb3
  go_wp2_with fail
  refine ((win H).h4 _).mono ?_
  rintro e w4 ⟨rfl, hb4⟩
  replace k1 := blk_step k1 hb4
  replace k2 := blk_step k2 hb4
  replace b1 := bj b1 hb4
  clear hb4
  go_wp2_with fail
  refine ((win H).h5 _).mono ?_
  rintro e w5 ⟨rfl, hb5⟩
  have k3 := blk_new w5 w5.heap.size 33 #[.int .u32 Q1, .int .u32 Q2] rfl
  replace k1 := (blk_step k1 hb5).alloc (.cells #[.int .u32 Q1, .int .u32 Q2] 33)
  replace k2 := (blk_step k2 hb5).alloc (.cells #[.int .u32 Q1, .int .u32 Q2] 33)
  replace b1 := (bj b1 hb5).alloc (bj b1 hb5).size (.cells #[.int .u32 Q1, .int .u32 Q2] 33)
  clear hb5
  go_wp2_with fail
  refine ((win H).h3 _).mono ?_
  rintro e w6 ⟨rfl, hb6⟩
  replace k1 := blk_step k1 hb6
  replace k2 := blk_step k2 hb6
  replace k3 := blk_step k3 hb6
  replace b1 := bj b1 hb6
  clear hb6
  go_wp2_with fail
  refine ((win H).h6 _).mono ?_
  rintro e w7 ⟨rfl, hb7⟩
  have hs : Wk w w.heap.size w2.heap.size w5.heap.size w7.heap.size (w7.heap.size + 1) D Q1 Q2 ((w7.alloc (.cells #[.int .i64 1, .int .i64 0, .string D] 37)).alloc (.cells #[.int .u32 Q1, .int .u32 Q2] 33)) :=
    ⟨((blk_step k1 hb7).alloc _).alloc _, ((blk_step k2 hb7).alloc _).alloc _, ((blk_step k3 hb7).alloc _).alloc _, (blk_new w7 w7.heap.size _ _ rfl).alloc _, blk_new _ _ _ _ (by simp), (((bj b1 hb7).alloc (bj b1 hb7).size _).alloc ((bj b1 hb7).alloc (bj b1 hb7).size _).size _)⟩
  clear hb7 k1 k2 k3 b1
  go_wp2_with fail
  have h7 := (win H).h7
  generalize ((w7.alloc (.cells #[.int .i64 1, .int .i64 0, .string D] 37)).alloc (.cells #[.int .u32 Q1, .int .u32 Q2] 33)) = W8 at *
  generalize w7.heap.size + 1 = g5 at *
  generalize w7.heap.size = g4 at *
  generalize w5.heap.size = g3 at *
  generalize w2.heap.size = g2 at *
  have hs0 := wk_drew hs

  go_region_held3 (fun W => W.cell? ⟨w.heap.size, 0, none⟩ = some (.int .u64 7) ∧ W.cell? ⟨w.heap.size, 1, none⟩ = some (.int .i64 2) ∧ W.cell? ⟨w.heap.size, 2, none⟩ = some (.int .i64 3) ∧ W.cell? ⟨g2, 0, none⟩ = some (.int .u64 7) ∧ W.cell? ⟨g2, 1, none⟩ = some (.int .i64 2) ∧ W.cell? ⟨g2, 2, none⟩ = some (.int .i64 3) ∧
      W.cell? ⟨g3, 0, none⟩ = some (.int .u32 Q1) ∧ W.cell? ⟨g3, 1, none⟩ = some (.int .u32 Q2) ∧ W.cell? ⟨g4, 2, none⟩ = some (.string D) ∧ W.cell? ⟨g5, 0, none⟩ = some (.int .u32 Q1) ∧ W.cell? ⟨g5, 1, none⟩ = some (.int .u32 Q2) ∧ Wk w w.heap.size g2 g3 g4 g5 D Q1 Q2 W)
    (first | exact wkS hs0 | exact wkS hs1 | exact wkS hs2)
    (first | (go_at_call 12; (with_reducible refine ((win H).h4 _).mono ?_); rintro e w8 ⟨rfl, hb8⟩; (have hs1 := wk_below hb8 hs0)) | (go_at_call 19; (with_reducible refine ((win H).h3 _).mono ?_); rintro e w9 ⟨rfl, hb9⟩; (have hs2 := wk_below hb9 hs1)))
  go_wp2
  go_ret
  exact ⟨rfl, hs2.2.2.2.2.2⟩
theorem headL_lt (N F P : Nat) : ∀ x ∈ headL N F P, x < 256 := by
  intro x hx
  unfold headL at hx
  rcases List.mem_append.1 hx with h | h
  · rcases List.mem_append.1 h with h | h
    · exact headA_lt _ _ _ x h
    · exact text_lt _ _ x h
  · rw [(List.mem_replicate.1 h).2]; decide
theorem frameL_lt (p : Int × Int) (pg cm salt : Nat) (D : List Nat) (hD : ∀ x ∈ D, x < 256) : ∀ x ∈ frameL p pg cm salt D, x < 256 := by
  intro x hx
  unfold frameL at hx
  rcases List.mem_append.1 hx with h | h
  · rcases List.mem_append.1 h with h | h
    · rcases List.mem_append.1 h with h | h
      · exact frameA_lt _ _ _ x h
      · exact text_lt _ _ x h
    · rw [(List.mem_replicate.1 h).2]; decide
  · exact hD x h
theorem bts_headL (N F P : Nat) : bts (bstr (headL N F P)) = headL N F P := bts_bstr _ (headL_lt N F P)
theorem bts_frameL (p : Int × Int) (pg cm salt : Nat) (d : ByteArray) : bts (bstr (frameL p pg cm salt (bts d))) = frameL p pg cm salt (bts d) := bts_bstr _ (frameL_lt _ _ _ _ _ (bts_lt d))
theorem headL_size (N F P : Nat) : (bstr (headL N F P)).size = 64 := by rw [bstr_size, headL_length]
theorem frameL_size (p : Int × Int) (pg cm salt : Nat) (d : ByteArray) (hd : d.size = 512) : (bstr (frameL p pg cm salt (bts d))).size = 576 := by rw [bstr_size, frameL_length _ _ _ _ _ (by rw [bts_length]; exact hd)]
theorem fit_start (N : Nat) : Fit (startP N) := fit_addL fit0
theorem frame_cut (p : Int × Int) (pg cm salt : Nat) (d x : ByteArray) (hd : d.size = 512) : (bstr (frameL p pg cm salt (bts d)) ++ x).extract 64 576 = d := by
  have hD : (bts d).length = 512 := by rw [bts_length]; exact hd
  have h := bts_cutn (bstr (frameL p pg cm salt (bts d)) ++ x) 64 512
  have h3 := (frame_parts p pg cm salt (bts d) (bts x) hD).2.2.1
  unfold fD at h3
  rw [bts_app, bts_frameL, h3] at h
  rw [← bstr_bts ((bstr (frameL p pg cm salt (bts d)) ++ x).extract 64 576), h, bstr_bts]
theorem take_put (p p' : Int × Int) (pg cm salt salt' : Nat) (d x : ByteArray) (hp : Fit p) (hp' : Fit p') (hs : salt < 18446744073709551616) (h0 : 0 < pg) (hpg : pg ≤ 256) (hcm : cm ≤ 256) (hd : d.size = 512) :
    (fErr p' salt' (bts (bstr (frameL p pg cm salt (bts d)) ++ x)) = 0 ↔ p' = p ∧ salt' = salt) ∧ (fErr p' salt' (bts (bstr (frameL p pg cm salt (bts d)) ++ x)) = 0 →
      tfRet p' salt' (bstr (frameL p pg cm salt (bts d)) ++ x) = .tuple #[.agg #[.int .i64 pg, .int .i64 cm, .string d], .agg #[.int .u32 (frameQ p pg cm salt (bts d)).1, .int .u32 (frameQ p pg cm salt (bts d)).2], .int .i64 0]) := by
  have hD : (bts d).length = 512 := by rw [bts_length]; exact hd
  obtain ⟨b1, b2, b3, b4, b5⟩ := f_back (p := p) (p' := p') (pg := pg) (cm := cm) (salt := salt) (salt' := salt') (D := bts d) (bts x) hp hp' hD hs h0 hpg hcm
  unfold tfRet
  rw [frame_cut p pg cm salt d x hd, bts_app, bts_frameL]
  refine ⟨b1, fun h => ?_⟩
  rw [if_pos h, b2, b3, b5, (b1.1 h).1]
theorem app_none (s : ByteArray) : s ++ ⟨#[]⟩ = s := ByteArray.append_empty
theorem works_any (w : World) : Calls Try.prog 15 #[] w fun e w' => e = .returned (.bool true) ∧ Below w.heap.size w w' := by
  have hD : (bts (bstr (List.replicate 512 120))) = List.replicate 512 120 := bts_bstr _ (fun x hx => by rw [(List.mem_replicate.1 hx).2]; decide)
  have hd : (bstr (List.replicate 512 120)).size = 512 := by rw [bstr_size, List.length_replicate]
  have hf := fit_start 7
  refine works_core (bstr (headL 7 2 3)) (bstr (List.replicate 512 120)) (bstr (frameL (startP 7) 1 0 7 (bts (bstr (List.replicate 512 120))))) (startP 7).1 (startP 7).2 (frameQ (startP 7) 1 0 7 (bts (bstr (List.replicate 512 120)))).1 (frameQ (startP 7) 1 0 7 (bts (bstr (List.replicate 512 120)))).2 w
    (Lib.hid ⟨fun w => putHead_any 7 2 3 w (by omega) (by omega), fun w => ?_, fun w => start_any 7 w (by omega), fun w => page_any 120 w (by omega), fun w => ?_, fun w => ?_, ?_⟩)
  · have h := takeHead_any (bstr (headL 7 2 3)) w (by rw [headL_size]; omega)
    have e : thRet (bts (bstr (headL 7 2 3))) = headV 7 2 3 0 := by
      obtain ⟨b1, b2, b3, b4⟩ := th_back (N := 7) (F := 2) (P := 3) [] (by omega) (by omega) (by omega)
      rw [List.append_nil] at b1 b2 b3 b4
      unfold thRet
      rw [bts_headL, if_pos b1, b2, b3, b4]
    rw [e] at h
    exact h
  · exact put_any (startP 7).1 (startP 7).2 7 1 0 (bstr (List.replicate 512 120)) w hf (by omega) (by omega) |>.mono fun e w' he => by
      unfold putRet at he
      rw [if_pos (by rw [hd]; rfl)] at he
      exact he
  · have h := take_any (startP 7).1 (startP 7).2 7 (bstr (frameL (startP 7) 1 0 7 (bts (bstr (List.replicate 512 120))))) w hf (by rw [frameL_size _ _ _ _ _ hd]; omega)
    obtain ⟨t1, t2⟩ := take_put (startP 7) (startP 7) 1 0 7 7 (bstr (List.replicate 512 120)) ⟨#[]⟩ hf hf (by omega) (by omega) (by omega) (by omega) hd
    rw [app_none] at t1 t2
    have e := t2 (t1.2 ⟨rfl, rfl⟩)
    rw [show ((startP 7).1, (startP 7).2) = startP 7 from rfl, e] at h
    exact h
  · rw [hD]; decide +kernel
end Go.Proofs.Ytpgjlpljjbgplaa
