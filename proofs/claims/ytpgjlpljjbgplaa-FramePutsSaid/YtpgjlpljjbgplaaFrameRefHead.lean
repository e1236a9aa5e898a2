/- counterfoilref04.Head and TakeHead. Conditions: the numbers fit their kinds, a text is no longer than a machine has addresses. -/
import Derived.Test.YtpgjlpljjbgplaaFrameRef
import Derived.Outline
namespace Go.Proofs.Ytpgjlpljjbgplaa
open Go.RowKit
def R3 (w : World) (v0 v1 v2 : Value) (W : World) : Prop := Blk W w.heap.size 27 #[v0, v1, v2] ∧ Below w.heap.size w W
theorem r3_step {w W w' : World} {v0 v1 v2 : Value} (hb : Below W.heap.size W w') (h : R3 w v0 v1 v2 W) : R3 w v0 v1 v2 w' := ⟨blk_step h.1 hb, bj h.2 hb⟩
theorem r3S {w W : World} {v0 v1 v2 : Value} (h : R3 w v0 v1 v2 W) : W.cell? ⟨w.heap.size, 0, none⟩ = some v0 ∧ W.cell? ⟨w.heap.size, 1, none⟩ = some v1 ∧ W.cell? ⟨w.heap.size, 2, none⟩ = some v2 ∧ R3 w v0 v1 v2 W := ⟨h.1.cell 0, h.1.cell 1, h.1.cell 2, h⟩
theorem rstr {a b : ByteArray} (h : a = b) : Ending.returned (.string a) = .returned (.string b) := by rw [h]
theorem name_bstr : (⟨#[99, 111, 117, 110, 116, 101, 114, 102]⟩ : ByteArray) = bstr nameL := rfl
set_option maxRecDepth 100000 in
set_option maxHeartbeats 4000000 in
theorem rhead_any (N F P : Nat) (w : World) (hN : N < 18446744073709551616) (hF : F ≤ 256) (hP : P ≤ 256) :
    Calls Try.prog 17 #[.agg #[.int .u64 N, .int .i64 F, .int .i64 P]] w fun e w' => e = .returned (.string (bstr (headL N F P))) ∧ Below w.heap.size w w' := by
  have hs0 : R3 w (.int .u64 N) (.int .i64 F) (.int .i64 P) (w.alloc (.cells #[.int .u64 N, .int .i64 F, .int .i64 P] 27)).drew := ⟨Blk.new _ _ _, ((Below.refl _ _).alloc (Nat.le_refl _) _).drew⟩
  have h8 : ∀ w, Calls Try.prog 38 #[.int .u64 N, .int .i64 8] w fun e w' => e = .returned (.string (bstr (eightL N))) ∧ Below w.heap.size w w' := fun w => by
    have h := refFixed_any N 8 w hN (by omega) (by omega)
    rw [fixL_eight] at h
    exact h
  have hF4 := fun w => rnumber_any F w (by omega)
  have hP4 := fun w => rnumber_any P w (by omega)
  have hcat : ((⟨#[99, 111, 117, 110, 116, 101, 114, 102]⟩ ++ bstr (eightL N)) ++ bstr (fourL F)) ++ bstr (fourL P) = bstr (headA N F P) := by
    rw [name_bstr, bstr_append, bstr_append, bstr_append]; rfl
  have hadd := fun w => refAdd_any 0 0 (bstr (headA N F P)) w fit0 (by rw [headA_size]; omega)
  rw [bts_headA] at hadd
  have htx := fun w => refText_any (addL (headA N F P) (0, 0)).1 (addL (headA N F P) (0, 0)).2 w (fit_addL fit0)
  have hno : ∀ w, Calls Try.prog 42 #[.int .i64 32] w fun e w' => e = .returned (.string (bstr (List.replicate 32 0))) ∧ Below w.heap.size w w' := fun w => rnoughts_any 32 w (.inl rfl)
  have hres : bstr (headA N F P) ++ bstr (sumT (headA N F P)) ++ bstr (List.replicate 32 0) = bstr (headL N F P) := by
    rw [bstr_append, bstr_append]; rfl
  have s1 : (bstr (eightL N)).size = 8 := eight_size N
  have s2 : (bstr (fourL F)).size = 4 := four_size F
  have s3 : (bstr (fourL P)).size = 4 := four_size P
  have s4 : (bstr (headA N F P)).size = 24 := headA_size N F P
  have s5 : (bstr (sumT (headA N F P))).size = 8 := text_size _ _
  have s6 : (bstr (List.replicate 32 0)).size = 32 := zeros_size 32
  unfold sumT at hres s5
  generalize addL (headA N F P) (0, 0) = Q at *
  obtain ⟨Q1, Q2⟩ := Q
  simp only at hadd htx hres s5
  generalize hT : bstr (textL Q1 Q2) = T at *
  generalize hZ : bstr (List.replicate 32 0) = Z at *
  generalize hA : bstr (headA N F P) = A at *
  generalize hE : bstr (eightL N) = E at *
  generalize hG : bstr (fourL F) = G at *
  generalize hK : bstr (fourL P) = K at *
  generalize hR : bstr (headL N F P) = R at *
  have H8 := Lib.hid h8
  have HF4 := Lib.hid hF4
  have HP4 := Lib.hid hP4
  have HADD := Lib.hid hadd
  have HTX := Lib.hid htx
  have HNO := Lib.hid hno
  have HCAT := Lib.hid hcat
  have HRES := Lib.hid hres
  have z1 : 8 + E.size ≤ 9223372036854775807 := by omega
  have z1' : ¬ (9223372036854775807 < 8 + E.size) := by omega
  have z1I : (8 : Int) + E.size ≤ 9223372036854775807 := by omega
  have z2 : 8 + E.size + G.size ≤ 9223372036854775807 := by omega
  have z2' : ¬ (9223372036854775807 < 8 + E.size + G.size) := by omega
  have z2I : (8 : Int) + E.size + G.size ≤ 9223372036854775807 := by omega
  have z3 : 8 + E.size + G.size + K.size ≤ 9223372036854775807 := by omega
  have z3' : ¬ (9223372036854775807 < 8 + E.size + G.size + K.size) := by omega
  have z3I : (8 : Int) + E.size + G.size + K.size ≤ 9223372036854775807 := by omega
  have z4 : A.size + T.size ≤ 9223372036854775807 := by omega
  have z4' : ¬ (9223372036854775807 < A.size + T.size) := by omega
  have z5 : A.size + T.size + Z.size ≤ 9223372036854775807 := by omega
  have z5' : ¬ (9223372036854775807 < A.size + T.size + Z.size) := by omega
  clear h8 hF4 hP4 hadd htx hno hcat hres hT hZ hA hE hG hK hR s1 s2 s3 s4 s5 s6 hN
  go_enter Try.func17, Try.ntmps17
  go_wp2_with fail
  go_region_held3 (fun W => W.cell? ⟨w.heap.size, 0, none⟩ = some (.int .u64 N) ∧ W.cell? ⟨w.heap.size, 1, none⟩ = some (.int .i64 F) ∧ W.cell? ⟨w.heap.size, 2, none⟩ = some (.int .i64 P) ∧ R3 w (.int .u64 N) (.int .i64 F) (.int .i64 P) W)
    (first | exact r3S hs0 | exact r3S hs1 | exact r3S hs2 | exact r3S hs3)
    (first
      | (go_at_call 38; (with_reducible refine (H8.out _).mono ?_); rintro e w1 ⟨rfl, hb1⟩; (have hs1 := r3_step hb1 hs0))
      | (go_at_call 39; (with_reducible refine (HF4.out _).mono ?_); rintro e w2 ⟨rfl, hb2⟩; (have hs2 := r3_step hb2 hs1))
      | (go_at_call 39; (with_reducible refine (HP4.out _).mono ?_); rintro e w3 ⟨rfl, hb3⟩; (have hs3 := r3_step hb3 hs2)))
  have hc := HCAT.out
  simp only [hc]
  clear hc
  go_wp2_with fail
  refine (HADD.out _).mono ?_
  rintro e w4 ⟨rfl, hb4⟩
  go_wp2_with fail
  refine (HTX.out _).mono ?_
  rintro e w5 ⟨rfl, hb5⟩
  go_wp2_with fail
  refine (HNO.out _).mono ?_
  rintro e w6 ⟨rfl, hb6⟩
  go_wp2
  go_ret
  exact ⟨rstr HRES.out, bj (bj (bj hs3.2 hb4) hb5) hb6⟩
set_option maxRecDepth 100000 in
set_option maxHeartbeats 2000000 in
theorem rtakeHead_len (s : ByteArray) (w : World) (hs : s.size < 64) :
    Calls Try.prog 18 #[.string s] w fun e w' => e = .returned (.tuple #[.agg #[.int .u64 0, .int .i64 0, .int .i64 0], .int .i64 10]) ∧ Below w.heap.size w w' := by
  go_enter Try.func18, Try.ntmps18
  go_wp2
  refine bodyPost_ret (v := .tuple #[.agg #[.int .u64 0, .int .i64 0, .int .i64 0], .int .i64 10]) (by simp [results, Try.results18, go_sem]) rfl ⟨rfl, ?_⟩
  exact (Below.refl _ _).alloc (Nat.le_refl _) _
structure RHeadIn (s Z R : ByteArray) (N F P : Int) (p z m q : Bool) : Prop where
  hN : ∀ w, Calls Try.prog 43 #[.string (s.extract 8 16)] w fun e w' => e = .returned (.int .u64 N) ∧ w = w'
  hF : ∀ w, Calls Try.prog 44 #[.string (s.extract 16 20)] w fun e w' => e = .returned (.int .i64 F) ∧ w = w'
  hP : ∀ w, Calls Try.prog 44 #[.string (s.extract 20 24)] w fun e w' => e = .returned (.int .i64 P) ∧ w = w'
  hn : ∀ w, Calls Try.prog 42 #[.int .i64 32] w fun e w' => e = .returned (.string Z) ∧ Below w.heap.size w w'
  hm : ∀ w, Calls Try.prog 16 #[.agg #[.int .u64 N, .int .i64 F, .int .i64 P]] w fun e w' => e = .returned (.bool m) ∧ Below w.heap.size w w'
  hh : m = true → ∀ w, Calls Try.prog 17 #[.agg #[.int .u64 N, .int .i64 F, .int .i64 P]] w fun e w' => e = .returned (.string R) ∧ Below w.heap.size w w'
  e1 : ((s.extract 0 8).toList == [99, 111, 117, 110, 116, 101, 114, 102]) = p
  e2 : ((s.extract 32 64).toList == Z.toList) = z
  e3 : (R.toList == (s.extract 0 64).toList) = q
theorem rhin {s Z R : ByteArray} {N F P : Int} {p z m q : Bool} (h : Hid (RHeadIn s Z R N F P p z m q)) : RHeadIn s Z R N F P p z m q := h
def R2 (w : World) (N F P : Int) (W : World) : Prop := Blk W w.heap.size 27 #[.int .u64 0, .int .i64 0, .int .i64 0] ∧ Blk W (w.heap.size + 1) 27 #[.int .u64 N, .int .i64 F, .int .i64 P] ∧ Below w.heap.size w W
theorem r2_step {w W w' : World} {N F P : Int} (hb : Below W.heap.size W w') (h : R2 w N F P W) : R2 w N F P w' := ⟨blk_step h.1 hb, blk_step h.2.1 hb, bj h.2.2 hb⟩
theorem r2_drewN {w W : World} {N F P : Int} (n : Nat) (h : R2 w N F P W) : R2 w N F P (W.drewN n) := ⟨h.1.drewN n, h.2.1.drewN n, below_drewN h.2.2 n⟩
theorem r2_drew {w W : World} {N F P : Int} (h : R2 w N F P W) : R2 w N F P W.drew := r2_step (Below.refl _ _).drew h
theorem r2S {w W : World} {N F P : Int} (h : R2 w N F P W) : W.cell? ⟨w.heap.size, 0, none⟩ = some (.int .u64 0) ∧ W.cell? ⟨w.heap.size, 1, none⟩ = some (.int .i64 0) ∧ W.cell? ⟨w.heap.size, 2, none⟩ = some (.int .i64 0) ∧ W.frozen? ⟨w.heap.size, 0, none⟩ = false ∧ W.frozen? ⟨w.heap.size, 1, none⟩ = false ∧ W.frozen? ⟨w.heap.size, 2, none⟩ = false ∧
    W.cell? ⟨w.heap.size + 1, 0, none⟩ = some (.int .u64 N) ∧ W.cell? ⟨w.heap.size + 1, 1, none⟩ = some (.int .i64 F) ∧ W.cell? ⟨w.heap.size + 1, 2, none⟩ = some (.int .i64 P) := ⟨h.1.cell 0, h.1.cell 1, h.1.cell 2, h.1.frozen 0, h.1.frozen 1, h.1.frozen 2, h.2.1.cell 0, h.2.1.cell 1, h.2.1.cell 2⟩
def rhRet (p z m q : Bool) (N F P : Int) : Value :=
  if p && z && m then if q then .tuple #[.agg #[.int .u64 N, .int .i64 F, .int .i64 P], .int .i64 0] else .tuple #[.agg #[.int .u64 0, .int .i64 0, .int .i64 0], .int .i64 40] else .tuple #[.agg #[.int .u64 0, .int .i64 0, .int .i64 0], .int .i64 11]
set_option maxRecDepth 100000 in
set_option maxHeartbeats 8000000 in
theorem rtakeHead_core (s Z R : ByteArray) (N F P : Int) (p z m q : Bool) (w : World) (hs : 64 ≤ s.size) (H : Hid (RHeadIn s Z R N F P p z m q)) :
    Calls Try.prog 18 #[.string s] w fun e w' => e = .returned (rhRet p z m q N F P) ∧ Below w.heap.size w w' := by
  have hs8 : (8 : Int) ≤ s.size := by omega
  have hs16 : (16 : Int) ≤ s.size := by omega
  have hs20 : (20 : Int) ≤ s.size := by omega
  have hs24 : (24 : Int) ≤ s.size := by omega
  have hs32 : (32 : Int) ≤ s.size := by omega
  have hs64 : (64 : Int) ≤ s.size := by omega
  go_enter Try.func18, Try.ntmps18
  go_wp2_with fail
  go_upto_region 3 with fail
  go_cut [4] (fun s4 wx => s4 = .pointer (some ⟨w.heap.size + 1, 0, none⟩) ∧ R2 w N F P wx)
  case first =>
    go_region_with (first | (go_at_call 43; (with_reducible refine ((rhin H).hN _).mono ?_); rintro e w1 ⟨rfl, rfl⟩) | (go_at_call 44; (with_reducible refine ((rhin H).hF _).mono ?_); rintro e w1 ⟨rfl, rfl⟩) | (go_at_call 44; (with_reducible refine ((rhin H).hP _).mono ?_); rintro e w1 ⟨rfl, rfl⟩))
    all_goals (go_wp2_with fail; go_meet)
    all_goals exact ⟨by simp, ((Blk.new w _ _).alloc _).drew, blk_new _ _ _ _ (by simp), ((((Below.refl _ _).alloc (Nat.le_refl _) _).alloc (by simp) _).drew)⟩
  case rest =>
    obtain ⟨rfl, hr⟩ := hcut
    obtain ⟨c0, c1, c2, f0, f1, f2, d0, d1, d2⟩ := r2S hr
    have e1 := (rhin H).e1
    have e2 := (rhin H).e2
    have e3 := (rhin H).e3
    have hrd := r2_drew hr
    cases p
    · go_wp2_with fail
      go_quiet (fail)
      go_wp2
      refine bodyPost_ret (v := .tuple #[.agg #[.int .u64 0, .int .i64 0, .int .i64 0], .int .i64 11]) (by simp [results, Try.results18, go_sem, *]) rfl ⟨rfl, ?_⟩
      exact (((below_drewN hr.2.2 _).setCell (Nat.le_refl _) _).setCell (Nat.le_refl _) _).setCell (Nat.le_refl _) _
    · cases z
      · go_wp2_with fail
        clear c0 c1 c2 f0 f1 f2 d0 d1 d2
        go_region_with (first | (go_at_call 42; (with_reducible refine ((rhin H).hn _).mono ?_); rintro e w4 ⟨rfl, hb4⟩; (have hr4 := r2_step hb4 hrd); (obtain ⟨c0, c1, c2, f0, f1, f2, d0, d1, d2⟩ := r2S hr4)))
        all_goals go_wp2
        all_goals refine bodyPost_ret (v := .tuple #[.agg #[.int .u64 0, .int .i64 0, .int .i64 0], .int .i64 11]) (by simp [results, Try.results18, go_sem, *]) rfl ⟨rfl, ?_⟩
        all_goals exact ((hr4.2.2.setCell (Nat.le_refl _) _).setCell (Nat.le_refl _) _).setCell (Nat.le_refl _) _
      · cases m
        · go_wp2_with fail
          clear c0 c1 c2 f0 f1 f2 d0 d1 d2
          go_region_with (first | (go_at_call 42; (with_reducible refine ((rhin H).hn _).mono ?_); rintro e w4 ⟨rfl, hb4⟩; (have hr4 := r2_step hb4 hrd); (obtain ⟨c0, c1, c2, f0, f1, f2, d0, d1, d2⟩ := r2S hr4)) | (go_at_call 16; (with_reducible refine ((rhin H).hm _).mono ?_); rintro e w5 ⟨rfl, hb5⟩; (have hr5 := r2_step hb5 hr4); (have hr5d := r2_drew hr5); (obtain ⟨c0, c1, c2, f0, f1, f2, d0, d1, d2⟩ := r2S hr5)))
          all_goals go_wp2
          all_goals refine bodyPost_ret (v := .tuple #[.agg #[.int .u64 0, .int .i64 0, .int .i64 0], .int .i64 11]) (by simp [results, Try.results18, go_sem, *]) rfl ⟨rfl, ?_⟩
          all_goals exact ((hr5.2.2.setCell (Nat.le_refl _) _).setCell (Nat.le_refl _) _).setCell (Nat.le_refl _) _
        · cases q
          · go_wp2_with fail
            clear c0 c1 c2 f0 f1 f2 d0 d1 d2
            go_region_with (first | (go_at_call 42; (with_reducible refine ((rhin H).hn _).mono ?_); rintro e w4 ⟨rfl, hb4⟩; (have hr4 := r2_step hb4 hrd); (obtain ⟨c0, c1, c2, f0, f1, f2, d0, d1, d2⟩ := r2S hr4)) | (go_at_call 16; (with_reducible refine ((rhin H).hm _).mono ?_); rintro e w5 ⟨rfl, hb5⟩; (have hr5 := r2_step hb5 hr4); (have hr5d := r2_drew hr5); (obtain ⟨c0, c1, c2, f0, f1, f2, d0, d1, d2⟩ := r2S hr5)))
            all_goals go_wp2
            all_goals clear c0 c1 c2 f0 f1 f2
            all_goals go_region_with (first | (go_at_call 17; (with_reducible refine ((rhin H).hh rfl _).mono ?_); rintro e w6 ⟨rfl, hb6⟩; (have hr6 := r2_step hb6 hr5d); (obtain ⟨c0, c1, c2, f0, f1, f2, d0, d1, d2⟩ := r2S hr6)))
            all_goals go_wp2
            all_goals refine bodyPost_ret (v := .tuple #[.agg #[.int .u64 0, .int .i64 0, .int .i64 0], .int .i64 40]) (by simp [results, Try.results18, go_sem, *]) rfl ⟨rfl, ?_⟩
            all_goals exact ((hr6.2.2.setCell (Nat.le_refl _) _).setCell (Nat.le_refl _) _).setCell (Nat.le_refl _) _
          · go_wp2_with fail
            clear c0 c1 c2 f0 f1 f2 d0 d1 d2
            go_region_with (first | (go_at_call 42; (with_reducible refine ((rhin H).hn _).mono ?_); rintro e w4 ⟨rfl, hb4⟩; (have hr4 := r2_step hb4 hrd); (obtain ⟨c0, c1, c2, f0, f1, f2, d0, d1, d2⟩ := r2S hr4)) | (go_at_call 16; (with_reducible refine ((rhin H).hm _).mono ?_); rintro e w5 ⟨rfl, hb5⟩; (have hr5 := r2_step hb5 hr4); (have hr5d := r2_drew hr5); (obtain ⟨c0, c1, c2, f0, f1, f2, d0, d1, d2⟩ := r2S hr5)))
            all_goals go_wp2
            all_goals clear c0 c1 c2 f0 f1 f2
            all_goals go_region_with (first | (go_at_call 17; (with_reducible refine ((rhin H).hh rfl _).mono ?_); rintro e w6 ⟨rfl, hb6⟩; (have hr6 := r2_step hb6 hr5d); (obtain ⟨c0, c1, c2, f0, f1, f2, d0, d1, d2⟩ := r2S hr6)))
            all_goals go_wp2
            all_goals refine bodyPost_ret (v := .tuple #[.agg #[.int .u64 N, .int .i64 F, .int .i64 P], .int .i64 0]) (by simp [results, Try.results18, go_sem, *]) rfl ⟨rfl, ?_⟩
            all_goals exact ((hr6.2.2.setCell (Nat.le_refl _) _).setCell (Nat.le_refl _) _).setCell (Nat.le_refl _) _
end Go.Proofs.Ytpgjlpljjbgplaa
