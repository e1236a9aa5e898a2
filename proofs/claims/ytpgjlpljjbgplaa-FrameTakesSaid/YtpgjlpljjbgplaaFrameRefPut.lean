/- counterfoilref04.May, Put and Take. Conditions: the numbers fit their kinds, a text is no longer than a machine has addresses. -/
import Derived.Test.YtpgjlpljjbgplaaFrameRefHead
namespace Go.Proofs.Ytpgjlpljjbgplaa
open Go.RowKit
set_option maxRecDepth 100000 in
set_option maxHeartbeats 4000000 in
theorem rmay_any (pg cm : Int) (d : ByteArray) (b : Bool) (w : World) (hok : okF pg cm d.size = b) :
    Calls Try.prog 21 #[.agg #[.int .i64 pg, .int .i64 cm, .string d]] w fun e w' => e = .returned (.bool b) ∧ Below w.heap.size w w' := by
  have hb : Below w.heap.size w (w.alloc (.cells #[.int .i64 pg, .int .i64 cm, .string d] 37)) := (Below.refl _ _).alloc (Nat.le_refl _) _
  have hno : ¬ (0 < pg ∧ pg ≤ 256 ∧ 0 ≤ cm ∧ cm ≤ 256 ∧ d.size = 512) → b = false := fun h => by
    cases b with
    | false => rfl
    | true => exact absurd ((okF_iff _ _ _).1 hok) h
  have hyes : (0 < pg ∧ pg ≤ 256 ∧ 0 ≤ cm ∧ cm ≤ 256 ∧ d.size = 512) → b = true := fun h => by rw [← hok]; exact (okF_iff _ _ _).2 h
  clear hok
  by_cases h1 : 1 ≤ pg
  · by_cases h2 : pg ≤ 256
    · by_cases h3 : 0 ≤ cm
      · by_cases h4 : cm ≤ 256
        · by_cases h5 : d.size = 512
          · obtain rfl := hyes ⟨by omega, h2, h3, h4, h5⟩
            have h5' : ((d.size : Int) == 512) = true := by rw [h5]; rfl
            clear hno hyes h5
            go_enter Try.func21, Try.ntmps21
            go_wp2
            go_ret
            exact ⟨rfl, hb⟩
          · obtain rfl := hno (fun h => h5 h.2.2.2.2)
            have h5' : ((d.size : Int) == 512) = false := by rw [beq_eq_false_iff_ne]; omega
            clear hno hyes h5
            go_enter Try.func21, Try.ntmps21
            go_wp2
            go_ret
            exact ⟨rfl, hb⟩
        · obtain rfl := hno (fun h => h4 h.2.2.2.1)
          have h4' : decide (cm ≤ 256) = false := by simpa using h4
          clear hno hyes
          go_enter Try.func21, Try.ntmps21
          go_wp2
          go_ret
          exact ⟨rfl, hb⟩
      · obtain rfl := hno (fun h => h3 h.2.2.1)
        have h3' : decide (0 ≤ cm) = false := by simpa using h3
        clear hno hyes
        go_enter Try.func21, Try.ntmps21
        go_wp2
        go_ret
        exact ⟨rfl, hb⟩
    · obtain rfl := hno (fun h => h2 h.2.1)
      have h2' : decide (pg ≤ 256) = false := by simpa using h2
      clear hno hyes
      go_enter Try.func21, Try.ntmps21
      go_wp2
      go_ret
      exact ⟨rfl, hb⟩
  · obtain rfl := hno (fun h => by omega)
    have h1' : decide (1 ≤ pg) = false := by simpa using h1
    clear hno hyes
    go_enter Try.func21, Try.ntmps21
    go_wp2
    go_ret
    exact ⟨rfl, hb⟩
set_option maxRecDepth 100000 in
set_option maxHeartbeats 8000000 in
theorem rput_any (p1 p2 : Int) (salt pg cm : Nat) (d : ByteArray) (w : World) (hp : Fit (p1, p2)) (hsalt : salt < 18446744073709551616) (hpg : pg ≤ 256) (hcm : cm ≤ 256) (hd : d.size = 512) :
    Calls Try.prog 22 #[.agg #[.int .u32 p1, .int .u32 p2], .int .u64 salt, .agg #[.int .i64 pg, .int .i64 cm, .string d]] w fun e w' => e = .returned (.tuple #[.string (bstr (frameL (p1, p2) pg cm salt (bts d))), .agg #[.int .u32 (frameQ (p1, p2) pg cm salt (bts d)).1, .int .u32 (frameQ (p1, p2) pg cm salt (bts d)).2]]) ∧ Below w.heap.size w w' := by
  have hs0 := pk_new w (.int .u32 p1) (.int .u32 p2) (.int .i64 pg) (.int .i64 cm) (.string d)
  have h8 : ∀ w, Calls Try.prog 38 #[.int .u64 salt, .int .i64 8] w fun e w' => e = .returned (.string (bstr (eightL salt))) ∧ Below w.heap.size w w' := fun w => by
    have h := refFixed_any salt 8 w hsalt (by omega) (by omega)
    rw [fixL_eight] at h
    exact h
  have h4a := fun w => rnumber_any pg w (by omega)
  have h4b := fun w => rnumber_any cm w (by omega)
  have hno : ∀ w, Calls Try.prog 42 #[.int .i64 40] w fun e w' => e = .returned (.string (bstr (List.replicate 40 0))) ∧ Below w.heap.size w w' := fun w => rnoughts_any 40 w (.inr rfl)
  have hcat : (bstr (fourL pg) ++ bstr (fourL cm)) ++ bstr (eightL salt) = bstr (frameA pg cm salt) := by rw [bstr_append, bstr_append]; rfl
  have hfA := fit_addL (L := frameA pg cm salt) hp
  have hadd1 := fun w => refAdd_any p1 p2 (bstr (frameA pg cm salt)) w hp (by rw [frameA_size]; omega)
  have hadd2 := fun w => refAdd_any (addL (frameA pg cm salt) (p1, p2)).1 (addL (frameA pg cm salt) (p1, p2)).2 d w hfA (by omega)
  rw [bts_frameA] at hadd1
  have hfQ : Fit (frameQ (p1, p2) pg cm salt (bts d)) := fit_addL hfA
  rw [show addL (bts d) ((addL (frameA pg cm salt) (p1, p2)).1, (addL (frameA pg cm salt) (p1, p2)).2) = frameQ (p1, p2) pg cm salt (bts d) from rfl] at hadd2
  generalize addL (frameA pg cm salt) (p1, p2) = A at hadd1 hadd2
  have hres : bstr (frameA pg cm salt) ++ bstr (textL (frameQ (p1, p2) pg cm salt (bts d)).1 (frameQ (p1, p2) pg cm salt (bts d)).2) ++ bstr (List.replicate 40 0) ++ d = bstr (frameL (p1, p2) pg cm salt (bts d)) := by
    conv => lhs; rhs; rw [← bstr_bts d]
    rw [bstr_append, bstr_append, bstr_append]; rfl
  have htx := fun w => refText_any (frameQ (p1, p2) pg cm salt (bts d)).1 (frameQ (p1, p2) pg cm salt (bts d)).2 w hfQ
  generalize frameL (p1, p2) pg cm salt (bts d) = FL at *
  generalize frameQ (p1, p2) pg cm salt (bts d) = Q at *
  obtain ⟨A1, A2⟩ := A
  obtain ⟨Q1, Q2⟩ := Q
  simp only at hadd1 hadd2 hres htx
  have s1 := four_size pg
  have s2 := four_size cm
  have s3 := eight_size salt
  have s4 := frameA_size pg cm salt
  have s5 := text_size Q1 Q2
  have s6 := zeros_size 40
  generalize bstr (textL Q1 Q2) = T at *
  generalize bstr (List.replicate 40 0) = Z at *
  generalize bstr (frameA pg cm salt) = S at *
  generalize bstr (eightL salt) = E at *
  generalize bstr (fourL pg) = G at *
  generalize bstr (fourL cm) = K at *
  have z1 : G.size + K.size ≤ 9223372036854775807 := by omega
  have z1' : ¬ (9223372036854775807 < G.size + K.size) := by omega
  have z1I : (G.size : Int) + K.size ≤ 9223372036854775807 := by omega
  have z2 : G.size + K.size + E.size ≤ 9223372036854775807 := by omega
  have z2' : ¬ (9223372036854775807 < G.size + K.size + E.size) := by omega
  have z2I : (G.size : Int) + K.size + E.size ≤ 9223372036854775807 := by omega
  have z4 : S.size + T.size ≤ 9223372036854775807 := by omega
  have z4' : ¬ (9223372036854775807 < S.size + T.size) := by omega
  have z4I : (S.size : Int) + T.size ≤ 9223372036854775807 := by omega
  have z5 : S.size + T.size + Z.size ≤ 9223372036854775807 := by omega
  have z5' : ¬ (9223372036854775807 < S.size + T.size + Z.size) := by omega
  have z5I : (S.size : Int) + T.size + Z.size ≤ 9223372036854775807 := by omega
  have z6 : S.size + T.size + Z.size + d.size ≤ 9223372036854775807 := by omega
  have z6' : ¬ (9223372036854775807 < S.size + T.size + Z.size + d.size) := by omega
  have z6I : (S.size : Int) + T.size + Z.size + d.size ≤ 9223372036854775807 := by omega
  have H8 := Lib.hid h8
  have H4A := Lib.hid h4a
  have H4B := Lib.hid h4b
  have HNO := Lib.hid hno
  have HCAT := Lib.hid hcat
  have HADD1 := Lib.hid hadd1
  have HADD2 := Lib.hid hadd2
  have HRES := Lib.hid hres
  have HTX := Lib.hid htx
  have hk := pk_drew hs0
  clear h8 h4a h4b hno hcat hadd1 hadd2 hres htx s1 s2 s3 s4 s5 s6 hd hs0 hfA hfQ
  go_enter Try.func22, Try.ntmps22
  go_wp2_with fail
  go_upto_region 1 with fail
  go_cut [8] (fun s8 wx => s8 = .string S ∧ Pk w (.int .u32 p1) (.int .u32 p2) (.int .i64 pg) (.int .i64 cm) (.string d) wx)
  case first =>
    go_region_held3 (fun w' => w'.cell? ⟨w.heap.size, 0, none⟩ = some (.int .u32 p1) ∧ w'.cell? ⟨w.heap.size, 1, none⟩ = some (.int .u32 p2) ∧ w'.cell? ⟨w.heap.size + 1, 0, none⟩ = some (.int .i64 pg) ∧ w'.cell? ⟨w.heap.size + 1, 1, none⟩ = some (.int .i64 cm) ∧ w'.cell? ⟨w.heap.size + 1, 2, none⟩ = some (.string d) ∧ Blk w' (w.heap.size + 1 + 1) 33 #[.int .u32 0, .int .u32 0] ∧ Below w.heap.size w w')
      (first | exact hk | exact hk1 | exact hk2 | exact hk3)
      (first
        | (go_at_call 39; (with_reducible refine (H4A.out _).mono ?_); rintro e w1 ⟨rfl, hb1⟩; (have hk1 := pk_below hb1 hk))
        | (go_at_call 39; (with_reducible refine (H4B.out _).mono ?_); rintro e w2 ⟨rfl, hb2⟩; (have hk2 := pk_below hb2 hk1))
        | (go_at_call 38; (with_reducible refine (H8.out _).mono ?_); rintro e w3 ⟨rfl, hb3⟩; (have hk3 := pk_below hb3 hk2)))
    all_goals (go_wp2_with fail; go_meet; exact ⟨by rw [HCAT.out], hk3⟩)
  case rest =>
    obtain ⟨rfl, hk0⟩ := hcut
    have hk' := pk_drew hk0
    clear hk hk0
    go_upto_region 2 with fail
    go_cut [9] (fun s9 wx => Pq w (.int .u32 p1) (.int .u32 p2) (.int .i64 pg) (.int .i64 cm) (.string d) Q1 Q2 s9 wx)
    case first =>
      go_region_held3 (fun w' => w'.cell? ⟨w.heap.size, 0, none⟩ = some (.int .u32 p1) ∧ w'.cell? ⟨w.heap.size, 1, none⟩ = some (.int .u32 p2) ∧ w'.cell? ⟨w.heap.size + 1, 0, none⟩ = some (.int .i64 pg) ∧ w'.cell? ⟨w.heap.size + 1, 1, none⟩ = some (.int .i64 cm) ∧ w'.cell? ⟨w.heap.size + 1, 2, none⟩ = some (.string d) ∧ Blk w' (w.heap.size + 1 + 1) 33 #[.int .u32 0, .int .u32 0] ∧ Below w.heap.size w w')
        (first | exact hk' | exact hk3 | exact hk4 | exact pk_alloc _ hk' | exact pk_alloc _ hk3 | exact pk_alloc _ hk4 | exact pk_set hk4 _ _ (by first | (have h := pk_lt hk'; exact h) | (have h := pk_lt hk3; exact h)) | exact pk_set (pk_set hk4 _ _ (by first | (have h := pk_lt hk'; exact h) | (have h := pk_lt hk3; exact h))) _ _ (by first | (have h := pk_lt hk'; exact h) | (have h := pk_lt hk3; exact h)))
        (first
          | (go_at_call 41; (with_reducible refine (HADD1.out _).mono ?_); rintro e w3 ⟨rfl, hb3⟩; (have hk3 := pk_below hb3 (by first | exact hk' | exact pk_alloc _ hk')); (try (have hq := blk_at' hb3)))
          | (go_at_call 41; (with_reducible refine (HADD2.out _).mono ?_); rintro e w4 ⟨rfl, hb4⟩; (have hk4 := pk_below hb4 (by first | exact hk3 | exact pk_alloc _ hk3)); (try (have hq := blk_at hb4)); (try (replace hq := blk_step hq hb4)); (try (have r0 := hq.cell 0; have r1 := hq.cell 1; have f0 := hq.frozen 0; have f1 := hq.frozen 1))))
      all_goals (go_wp2_with fail; go_meet; rename_i hP; exact ⟨_, rfl, (by first | (have h := pk_lt hk'; exact h) | (have h := pk_lt hk3; exact h) | (have h := pk_lt hk4; exact h)), hP, by first | exact blk_new _ _ _ _ rfl | exact blk2 hq⟩)
    case rest =>
      obtain ⟨g, rfl, hg, hP, hQ⟩ := hcut
      have hr : Pr w g d Q1 Q2 wc := ⟨hP.2.2.2.2.1, hQ.cell 0, hQ.cell 1, pk_lt hP, hQ.lt, hP.2.2.2.2.2.2⟩
      have hrd := pr_drew hr
      have hB : Blk wc.drew (w.heap.size + 1 + 1) 33 #[.int .u32 0, .int .u32 0] := hP.2.2.2.2.2.1
      have hgne : w.heap.size + 1 + 1 ≠ g := by omega
      clear hQ hP hr hk' hg
      go_wp2_with fail
      go_region_held3 (fun w' => w'.cell? ⟨w.heap.size + 1, 2, none⟩ = some (.string d) ∧ w'.cell? ⟨g, 0, none⟩ = some (.int .u32 Q1) ∧ w'.cell? ⟨g, 1, none⟩ = some (.int .u32 Q2) ∧ w.heap.size + 1 + 1 < w'.heap.size ∧ g < w'.heap.size ∧ Below w.heap.size w w')
        (first | exact hrd | exact h5 | exact h6 | exact pr_set h6 hgne _ _ | exact pr_set (pr_set h6 hgne _ _) hgne _ _)
        (first
          | (go_at_call 40; (with_reducible refine (HTX.out _).mono ?_); rintro e w5 ⟨rfl, hb5⟩; (have h5 := pr_below hb5 hrd))
          | (go_at_call 42; (with_reducible refine (HNO.out _).mono ?_); rintro e w6 ⟨rfl, hb6⟩; (have h6 := pr_below hb6 h5); (have hB7 := blk_step (blk_step hB hb5) hb6); (have r0 : w6.cell? ⟨w.heap.size + 1 + 1, 0, none⟩ = some (.int .u32 0) := hB7.cell 0); (have r1 : w6.cell? ⟨w.heap.size + 1 + 1, 1, none⟩ = some (.int .u32 0) := hB7.cell 1); (have f0 := hB7.frozen 0); (have f1 := hB7.frozen 1)))
      all_goals go_wp2
      all_goals rename_i hE
      all_goals refine bodyPost_ret (v := .tuple #[.string (S ++ T ++ Z ++ d), .agg #[.int .u32 Q1, .int .u32 Q2]]) (by simp [results, Try.results22, go_sem, r0, r1]) rfl ⟨by rw [HRES.out], hE.2.2.2.2.2⟩
structure RTakeIn (s Z T : ByteArray) (p1 p2 salt X0 X1 sv Q1 Q2 : Int) (z b sa su : Bool) : Prop where
  hA : ∀ w, Calls Try.prog 44 #[.string (s.extract 0 4)] w fun e w' => e = .returned (.int .i64 X0) ∧ w = w'
  hB : ∀ w, Calls Try.prog 44 #[.string (s.extract 4 8)] w fun e w' => e = .returned (.int .i64 X1) ∧ w = w'
  hn : ∀ w, Calls Try.prog 42 #[.int .i64 40] w fun e w' => e = .returned (.string Z) ∧ Below w.heap.size w w'
  hm : ∀ w, Calls Try.prog 21 #[.agg #[.int .i64 X0, .int .i64 X1, .string (s.extract 64 576)]] w fun e w' => e = .returned (.bool b) ∧ Below w.heap.size w w'
  hs : ∀ w, Calls Try.prog 43 #[.string (s.extract 8 16)] w fun e w' => e = .returned (.int .u64 sv) ∧ w = w'
  hp : b = true → ∀ w, Calls Try.prog 22 #[.agg #[.int .u32 p1, .int .u32 p2], .int .u64 salt, .agg #[.int .i64 X0, .int .i64 X1, .string (s.extract 64 576)]] w fun e w' => e = .returned (.tuple #[.string T, .agg #[.int .u32 Q1, .int .u32 Q2]]) ∧ Below w.heap.size w w'
  e2 : ((s.extract 24 64).toList == Z.toList) = z
  e3 : (T.toList == (s.extract 0 576).toList) = su
  e4 : (sv != salt) = !sa
theorem rtin {s Z T : ByteArray} {p1 p2 salt X0 X1 sv Q1 Q2 : Int} {z b sa su : Bool} (h : Hid (RTakeIn s Z T p1 p2 salt X0 X1 sv Q1 Q2 z b sa su)) : RTakeIn s Z T p1 p2 salt X0 X1 sv Q1 Q2 z b sa su := h
def R5 (w : World) (p1 p2 X0 X1 : Int) (D : ByteArray) (W : World) : Prop :=
  Blk W w.heap.size 33 #[.int .u32 p1, .int .u32 p2] ∧ Blk W (w.heap.size + 1) 37 #[.int .i64 0, .int .i64 0, .string ⟨#[]⟩] ∧ Blk W (w.heap.size + 1 + 1) 33 #[.int .u32 0, .int .u32 0] ∧ Blk W (w.heap.size + 1 + 1 + 1) 37 #[.int .i64 X0, .int .i64 X1, .string D] ∧ Below w.heap.size w W
section
variable {w W w' : World} {p1 p2 X0 X1 : Int} {D : ByteArray}
theorem r5_step (hb : Below W.heap.size W w') (h : R5 w p1 p2 X0 X1 D W) : R5 w p1 p2 X0 X1 D w' := ⟨blk_step h.1 hb, blk_step h.2.1 hb, blk_step h.2.2.1 hb, blk_step h.2.2.2.1 hb, bj h.2.2.2.2 hb⟩
theorem r5_drew (h : R5 w p1 p2 X0 X1 D W) : R5 w p1 p2 X0 X1 D W.drew := r5_step (Below.refl _ _).drew h
theorem r5_alloc (o : Obj) (h : R5 w p1 p2 X0 X1 D W) : R5 w p1 p2 X0 X1 D (W.alloc o) := r5_step ((Below.refl _ _).alloc (Nat.le_refl _) _) h
theorem r5R (h : R5 w p1 p2 X0 X1 D W) :
    W.cell? ⟨w.heap.size + 1, 0, none⟩ = some (.int .i64 0) ∧ W.cell? ⟨w.heap.size + 1, 1, none⟩ = some (.int .i64 0) ∧ W.cell? ⟨w.heap.size + 1, 2, none⟩ = some (.string ⟨#[]⟩) ∧ W.cell? ⟨w.heap.size + 1 + 1, 0, none⟩ = some (.int .u32 0) ∧ W.cell? ⟨w.heap.size + 1 + 1, 1, none⟩ = some (.int .u32 0) ∧
    W.frozen? ⟨w.heap.size + 1, 0, none⟩ = false ∧ W.frozen? ⟨w.heap.size + 1, 1, none⟩ = false ∧ W.frozen? ⟨w.heap.size + 1, 2, none⟩ = false ∧ W.frozen? ⟨w.heap.size + 1 + 1, 0, none⟩ = false ∧ W.frozen? ⟨w.heap.size + 1 + 1, 1, none⟩ = false := by
  obtain ⟨_, h1, h2, _, _⟩ := h
  exact ⟨h1.cell 0, h1.cell 1, h1.cell 2, h2.cell 0, h2.cell 1, h1.frozen 0, h1.frozen 1, h1.frozen 2, h2.frozen 0, h2.frozen 1⟩
theorem r5F (h : R5 w p1 p2 X0 X1 D W) : W.cell? ⟨w.heap.size, 0, none⟩ = some (.int .u32 p1) ∧ W.cell? ⟨w.heap.size, 1, none⟩ = some (.int .u32 p2) ∧ W.cell? ⟨w.heap.size + 1 + 1 + 1, 0, none⟩ = some (.int .i64 X0) ∧ W.cell? ⟨w.heap.size + 1 + 1 + 1, 1, none⟩ = some (.int .i64 X1) ∧ W.cell? ⟨w.heap.size + 1 + 1 + 1, 2, none⟩ = some (.string D) := ⟨h.1.cell 0, h.1.cell 1, h.2.2.2.1.cell 0, h.2.2.2.1.cell 1, h.2.2.2.1.cell 2⟩
end
set_option maxRecDepth 100000 in
set_option maxHeartbeats 2000000 in
theorem rtake_len (p1 p2 salt : Int) (s : ByteArray) (w : World) (hs : s.size < 576) :
    Calls Try.prog 23 #[.agg #[.int .u32 p1, .int .u32 p2], .int .u64 salt, .string s] w fun e w' => e = .returned (takeZero 10) ∧ Below w.heap.size w w' := by
  go_enter Try.func23, Try.ntmps23
  go_wp2
  refine bodyPost_ret (v := takeZero 10) (by simp [takeZero, results, Try.results23, go_sem]) rfl ⟨rfl, ?_⟩
  exact ((((Below.refl _ _).alloc (Nat.le_refl _) _).alloc (by simp) _).alloc (by simp; omega) _)
set_option maxRecDepth 100000 in
set_option maxHeartbeats 8000000 in
theorem rtake_core (s Z T : ByteArray) (p1 p2 salt X0 X1 sv Q1 Q2 : Int) (z b sa su : Bool) (w : World) (hs : 576 ≤ s.size) (H : Hid (RTakeIn s Z T p1 p2 salt X0 X1 sv Q1 Q2 z b sa su)) :
    Calls Try.prog 23 #[.agg #[.int .u32 p1, .int .u32 p2], .int .u64 salt, .string s] w fun e w' => e = .returned (takeRet z b sa su X0 X1 (s.extract 64 576) Q1 Q2) ∧ Below w.heap.size w w' := by
  have hs4 : (4 : Int) ≤ s.size := by omega
  have hs8 : (8 : Int) ≤ s.size := by omega
  have hs16 : (16 : Int) ≤ s.size := by omega
  have hs64 : (64 : Int) ≤ s.size := by omega
  have hs576 : (576 : Int) ≤ s.size := by omega
  go_enter Try.func23, Try.ntmps23
  go_wp2_with fail
  go_upto_region 3 with fail
  go_cut [9] (fun s9 wx => s9 = .pointer (some ⟨w.heap.size + 1 + 1 + 1, 0, none⟩) ∧ R5 w p1 p2 X0 X1 (s.extract 64 576) wx)
  case first =>
    go_region_with (first | (go_at_call 44; (with_reducible refine ((rtin H).hA _).mono ?_); rintro e w1 ⟨rfl, rfl⟩) | (go_at_call 44; (with_reducible refine ((rtin H).hB _).mono ?_); rintro e w1 ⟨rfl, rfl⟩))
    all_goals (go_wp2_with fail; go_meet)
    all_goals exact ⟨by simp, (((Blk.new w _ _).alloc _).alloc _).alloc _, ((blk_new (w.alloc (.cells #[.int .u32 p1, .int .u32 p2] 33)) (w.heap.size + 1) 37 #[.int .i64 0, .int .i64 0, .string ⟨#[]⟩] (by simp)).alloc _).alloc _, (blk_new ((w.alloc (.cells #[.int .u32 p1, .int .u32 p2] 33)).alloc (.cells #[.int .i64 0, .int .i64 0, .string ⟨#[]⟩] 37)) (w.heap.size + 1 + 1) 33 #[.int .u32 0, .int .u32 0] (by simp)).alloc _, blk_new _ _ _ _ (by simp), ((((((Below.refl _ _).alloc (Nat.le_refl _) _).alloc (by simp) _).alloc (by simp; omega) _).alloc (by simp; omega) _).drew)⟩
  case rest =>
    obtain ⟨rfl, hr⟩ := hcut
    have hrd := r5_drew hr
    have e2 := (rtin H).e2
    have e3 := (rtin H).e3
    have e4 := (rtin H).e4
    go_wp2_with fail
    cases z
    · have HRES := Lib.hid (show takeRet false b sa su X0 X1 (s.extract 64 576) Q1 Q2 = takeZero 11 from rfl)
      go_region_with ((go_at_call 42; (with_reducible refine ((rtin H).hn _).mono ?_); rintro e w4 ⟨rfl, hb4⟩; (have hr4 := r5_step hb4 hrd); (obtain ⟨r0, r1, r2, r3, r4, f0, f1, f2, f3, f4⟩ := r5R hr4)))
      all_goals go_wp2
      all_goals refine bodyPost_ret (v := takeZero 11) (by simp [takeZero, results, Try.results23, go_sem, r0, r1, r2, r3, r4]) rfl ⟨by rw [HRES.out], take_end hr4.2.2.2.2 _ _ _ _ _⟩
    · go_region_with (first | (go_at_call 42; (with_reducible refine ((rtin H).hn _).mono ?_); rintro e w4 ⟨rfl, hb4⟩; (have hr4 := r5_step hb4 hrd); (obtain ⟨_, _, c0, c1, c2⟩ := r5F hr4)) | (go_at_call 21; (with_reducible refine ((rtin H).hm _).mono ?_); rintro e w5 ⟨rfl, hb5⟩; (have hr5 := r5_step hb5 hr4)))
      all_goals clear c0 c1 c2
      all_goals cases b
      · obtain ⟨r0, r1, r2, r3, r4, f0, f1, f2, f3, f4⟩ := r5R hr5
        have HRES := Lib.hid (show takeRet true false sa su X0 X1 (s.extract 64 576) Q1 Q2 = takeZero 11 from rfl)
        go_wp2
        refine bodyPost_ret (v := takeZero 11) (by simp [takeZero, results, Try.results23, go_sem, r0, r1, r2, r3, r4]) rfl ⟨by rw [HRES.out], take_end hr5.2.2.2.2 _ _ _ _ _⟩
      · obtain ⟨r0, r1, r2, r3, r4, f0, f1, f2, f3, f4⟩ := r5R hr5
        obtain ⟨p0, p1', c0, c1, c2⟩ := r5F hr5
        go_wp2_with fail
        refine ((rtin H).hs _).mono ?_
        rintro e w6 ⟨rfl, rfl⟩
        cases sa
        · have e4' : (sv != salt) = true := e4
          have HRES := Lib.hid (show takeRet true true false su X0 X1 (s.extract 64 576) Q1 Q2 = takeZero 41 from rfl)
          clear e4
          go_wp2
          refine bodyPost_ret (v := takeZero 41) (by simp [takeZero, results, Try.results23, go_sem, r0, r1, r2, r3, r4]) rfl ⟨by rw [HRES.out], take_end hr5.2.2.2.2 _ _ _ _ _⟩
        · have e4' : (sv != salt) = false := e4
          clear e4
          go_wp2_with fail
          refine ((rtin H).hp rfl _).mono ?_
          rintro e w7 ⟨rfl, hb7⟩
          have hr8 := r5_alloc (.cells #[.int .u32 Q1, .int .u32 Q2] 33) (r5_step hb7 hr5)
          have hlt : w.heap.size + 1 + 1 + 1 < w7.heap.size := (r5_step hb7 hr5).2.2.2.1.lt
          clear r0 r1 r2 r3 r4 f0 f1 f2 f3 f4 p0 p1' c0 c1 c2 hb7 hr5
          obtain ⟨r0, r1, r2, r3, r4, f0, f1, f2, f3, f4⟩ := r5R hr8
          obtain ⟨p0, p1', c0, c1, c2⟩ := r5F hr8
          cases su
          · have HRES := Lib.hid (show takeRet true true true false X0 X1 (s.extract 64 576) Q1 Q2 = takeZero 40 from rfl)
            go_wp2
            refine bodyPost_ret (v := takeZero 40) (by simp [takeZero, results, Try.results23, go_sem, r0, r1, r2, r3, r4]) rfl ⟨by rw [HRES.out], take_end hr8.2.2.2.2 _ _ _ _ _⟩
          · have q0 : (w7.alloc (.cells #[.int .u32 Q1, .int .u32 Q2] 33)).cell? ⟨w7.heap.size, 0, none⟩ = some (.int .u32 Q1) := (blk_new w7 w7.heap.size 33 #[.int .u32 Q1, .int .u32 Q2] rfl).cell 0
            have q1 : (w7.alloc (.cells #[.int .u32 Q1, .int .u32 Q2] 33)).cell? ⟨w7.heap.size, 1, none⟩ = some (.int .u32 Q2) := (blk_new w7 w7.heap.size 33 #[.int .u32 Q1, .int .u32 Q2] rfl).cell 1
            have hw := hr8.2.2.2.2
            go_wp2_with fail
            generalize (w7.alloc (.cells #[.int .u32 Q1, .int .u32 Q2] 33)) = W8 at *
            generalize w7.heap.size = g at *
            have n3 : ¬ g = w.heap.size + 1 := by omega
            have n4 : ¬ g = w.heap.size + 1 + 1 := by omega
            have n3' : ¬ w.heap.size + 1 = g := by omega
            have n4' : ¬ w.heap.size + 1 + 1 = g := by omega
            have d0 : W8.drew.frozen? ⟨w.heap.size + 1, 0, none⟩ = false := f0
            have d1 : W8.drew.frozen? ⟨w.heap.size + 1, 1, none⟩ = false := f1
            have d2 : W8.drew.frozen? ⟨w.heap.size + 1, 2, none⟩ = false := f2
            have d3 : W8.drew.frozen? ⟨w.heap.size + 1 + 1, 0, none⟩ = false := f3
            have d4 : W8.drew.frozen? ⟨w.heap.size + 1 + 1, 1, none⟩ = false := f4
            clear e2 e3 hrd hr hr8 hs hs4 hs8 hs16 hs64 hs576 hlt
            go_region
            all_goals go_wp2_with fail
            refine bodyPost_ret (v := .tuple #[.agg #[.int .i64 X0, .int .i64 X1, .string (s.extract 64 576)], .agg #[.int .u32 Q1, .int .u32 Q2], .int .i64 0]) (by simp [results, Try.results23, go_sem, r0, r1, r2, r3, r4]) rfl ⟨rfl, (take_end hw _ _ _ _ _).drew⟩
end Go.Proofs.Ytpgjlpljjbgplaa
