/- frame.mayBe and frame.Put. Conditions: the numbers fit their kinds. -/
import Derived.Test.YthipaabjmlgjmaaFrameHead
import Derived.Outline
import Derived.Deep.DeepCutAuto
namespace Go.Proofs.Ythipaabjmlgjmaa
open Go.RowKit
def okF (pg cm : Int) (n : Nat) : Bool := decide (0 < pg) && (okIn 256 pg && okIn 256 cm) && decide (n = 512)
set_option maxRecDepth 100000 in
set_option maxHeartbeats 2000000 in
theorem mayBe_any (pg cm : Int) (d : ByteArray) (b : Bool) (w : World) (hb : okF pg cm d.size = b) :
    Calls Try.prog 84 #[.agg #[.int .i64 pg, .int .i64 cm, .string d]] w fun e w' => e = .returned (.bool b) ∧ Below w.heap.size w w' := by
  have hb0 : Below w.heap.size w (w.alloc (.cells #[.int .i64 pg, .int .i64 cm, .string d] 61)) := (Below.refl _ _).alloc (Nat.le_refl _) _
  unfold okF at hb
  by_cases h0 : 0 < pg
  · by_cases h1 : (okIn 256 pg && okIn 256 cm) = true
    · by_cases h2 : d.size = 512
      · obtain rfl : b = true := by rw [← hb, h1]; simp [h0, h2]
        have h3 : ((d.size : Int) == 512) = true := by rw [h2]; rfl
        clear hb h2
        go_enter Try.func84, Try.ntmps84
        go_wp2_with (go_at_call 67; refine (within_two _ pg cm _ (blk_new _ _ _ _ (by simp)) h1).mono ?_; rintro e w2 ⟨rfl, rfl⟩)
        go_ret
        exact ⟨rfl, hb0.alloc hb0.size _⟩
      · obtain rfl : b = false := by rw [← hb]; simp [h2]
        have h3 : ((d.size : Int) == 512) = false := by rw [beq_eq_false_iff_ne]; omega
        clear hb h2
        go_enter Try.func84, Try.ntmps84
        go_wp2_with (go_at_call 67; refine (within_two _ pg cm _ (blk_new _ _ _ _ (by simp)) h1).mono ?_; rintro e w2 ⟨rfl, rfl⟩)
        go_ret
        exact ⟨rfl, hb0.alloc hb0.size _⟩
    · have h1' : (okIn 256 pg && okIn 256 cm) = false := by simpa using h1
      obtain rfl : b = false := by rw [← hb, h1']; simp
      clear hb h1
      go_enter Try.func84, Try.ntmps84
      go_wp2_with (go_at_call 67; refine (within_two _ pg cm _ (blk_new _ _ _ _ (by simp)) h1').mono ?_; rintro e w2 ⟨rfl, rfl⟩)
      go_ret
      exact ⟨rfl, hb0.alloc hb0.size _⟩
  · obtain rfl : b = false := by rw [← hb]; simp [h0]
    have h0' : decide (0 < pg) = false := by simpa using h0
    clear hb
    go_enter Try.func84, Try.ntmps84
    go_wp2
    go_ret
    exact ⟨rfl, hb0⟩
def frameA (pg cm salt : Nat) : List Nat := fourL pg ++ fourL cm ++ eightL salt
def frameQ (p : Int × Int) (pg cm salt : Nat) (D : List Nat) : Int × Int := addL D (addL (frameA pg cm salt) p)
def frameL (p : Int × Int) (pg cm salt : Nat) (D : List Nat) : List Nat := frameA pg cm salt ++ textL (frameQ p pg cm salt D).1 (frameQ p pg cm salt D).2 ++ List.replicate 40 0 ++ D
theorem frameA_lt (pg cm salt : Nat) : ∀ x ∈ frameA pg cm salt, x < 256 := by
  intro x hx
  simp only [frameA, List.mem_append] at hx
  rcases hx with (h | h) | h
  · exact four_lt _ x h
  · exact four_lt _ x h
  · exact eight_lt _ x h
theorem bts_frameA (pg cm salt : Nat) : bts (bstr (frameA pg cm salt)) = frameA pg cm salt := bts_bstr _ (frameA_lt pg cm salt)
theorem frameA_size (pg cm salt : Nat) : (bstr (frameA pg cm salt)).size = 16 := by rw [bstr_size]; rfl
set_option maxRecDepth 100000 in
set_option maxHeartbeats 2000000 in
theorem put_bad (p1 p2 salt pg cm : Int) (d : ByteArray) (w : World) (h : okF pg cm d.size = false) :
    Calls Try.prog 66 #[.agg #[.int .u32 p1, .int .u32 p2], .int .u64 salt, .agg #[.int .i64 pg, .int .i64 cm, .string d]] w fun e w' => e = .returned (.tuple #[.string ⟨#[]⟩, .agg #[.int .u32 0, .int .u32 0], .int .i64 2]) ∧ Below w.heap.size w w' := by
  go_enter Try.func66, Try.ntmps66
  go_wp2_with fail
  refine (mayBe_any pg cm d _ _ h).mono ?_
  rintro e w1 ⟨rfl, hb1⟩
  have hq := blk_new (((w.alloc (.cells #[.int .u32 p1, .int .u32 p2] 73)).alloc (.cells #[.int .i64 pg, .int .i64 cm, .string d] 61))) (w.heap.size + 1 + 1) 73 #[.int .u32 0, .int .u32 0] (by simp)
  have hq1 := hq.below hb1 hq.lt
  have hb : Below w.heap.size w w1 := bj ((((Below.refl _ _).alloc (Nat.le_refl _) _).alloc (by simp) _).alloc (by simp; omega) _) hb1
  have r0 : w1.cell? ⟨w.heap.size + 1 + 1, 0, none⟩ = some (.int .u32 0) := hq1.cell 0
  have r1 : w1.cell? ⟨w.heap.size + 1 + 1, 1, none⟩ = some (.int .u32 0) := hq1.cell 1
  have f0 := hq1.frozen 0
  have f1 := hq1.frozen 1
  clear hq hq1 hb1
  go_wp2
  refine bodyPost_ret (v := .tuple #[.string ⟨#[]⟩, .agg #[.int .u32 0, .int .u32 0], .int .i64 2]) (by simp [results, Try.results66, go_sem, *]) rfl ⟨rfl, ?_⟩
  exact (hb.setCell (by simp; omega) _).setCell (by simp; omega) _
def Pk (w : World) (v0 v1 v2 v3 v4 : Value) (W : World) : Prop :=
  W.cell? ⟨w.heap.size, 0, none⟩ = some v0 ∧ W.cell? ⟨w.heap.size, 1, none⟩ = some v1 ∧ W.cell? ⟨w.heap.size + 1, 0, none⟩ = some v2 ∧ W.cell? ⟨w.heap.size + 1, 1, none⟩ = some v3 ∧ W.cell? ⟨w.heap.size + 1, 2, none⟩ = some v4 ∧ Blk W (w.heap.size + 1 + 1) 73 #[.int .u32 0, .int .u32 0] ∧ Below w.heap.size w W
theorem pk_below {w W w' : World} {v0 v1 v2 v3 v4 : Value} (hb : Below W.heap.size W w') (h : Pk w v0 v1 v2 v3 v4 W) : Pk w v0 v1 v2 v3 v4 w' := by
  obtain ⟨h0, h1, h2, h3, h4, hB, hw⟩ := h
  have hl := hB.lt
  exact ⟨(hb.cell (p := ⟨w.heap.size, 0, none⟩) (by simp; omega)).trans h0, (hb.cell (p := ⟨w.heap.size, 1, none⟩) (by simp; omega)).trans h1, (hb.cell (p := ⟨w.heap.size + 1, 0, none⟩) (by simp; omega)).trans h2, (hb.cell (p := ⟨w.heap.size + 1, 1, none⟩) (by simp; omega)).trans h3, (hb.cell (p := ⟨w.heap.size + 1, 2, none⟩) (by simp; omega)).trans h4, hB.below hb hl, bj hw hb⟩
theorem pk_alloc {w W : World} {v0 v1 v2 v3 v4 : Value} (o : Obj) (h : Pk w v0 v1 v2 v3 v4 W) : Pk w v0 v1 v2 v3 v4 (W.alloc o) := pk_below ((Below.refl _ _).alloc (Nat.le_refl _) _) h
theorem pk_drew {w W : World} {v0 v1 v2 v3 v4 : Value} (h : Pk w v0 v1 v2 v3 v4 W) : Pk w v0 v1 v2 v3 v4 W.drew := pk_below (Below.refl _ _).drew h
theorem blk_at {W w' : World} {cs : Array Value} {t : TypeId} (hb : Below (W.alloc (.cells cs t)).heap.size (W.alloc (.cells cs t)) w') : Blk w' W.heap.size t cs := (Blk.new W t cs).below hb (by simp)
theorem blk_at' {W w' : World} {cs : Array Value} {t : TypeId} (hb : Below (W.alloc (.cells cs t)).drew.heap.size (W.alloc (.cells cs t)).drew w') : Blk w' W.heap.size t cs := (Blk.new W t cs).drew.below hb (by simp)
theorem blk_step {W w' : World} {g : Nat} {cs : Array Value} {t : TypeId} (h : Blk W g t cs) (hb : Below W.heap.size W w') : Blk w' g t cs := h.below hb h.lt
def Pq (w : World) (v0 v1 v2 v3 v4 : Value) (Q1 Q2 : Int) (s10 : Value) (W : World) : Prop :=
  ∃ g, s10 = .pointer (some ⟨g, 0, none⟩) ∧ w.heap.size + 1 + 1 < g ∧ Pk w v0 v1 v2 v3 v4 W ∧ Blk W g 73 #[.int .u32 Q1, .int .u32 Q2]
theorem pk_set {w W : World} {v0 v1 v2 v3 v4 : Value} (h : Pk w v0 v1 v2 v3 v4 W) (p : Addr) (v : Value) (hp : w.heap.size + 1 + 1 < p.block) : Pk w v0 v1 v2 v3 v4 (W.setCell p v) := by
  obtain ⟨h0, h1, h2, h3, h4, hB, hw⟩ := h
  have ne : ∀ g o : Nat, g ≤ w.heap.size + 1 → (W.setCell p v).cell? ⟨g, o, none⟩ = W.cell? ⟨g, o, none⟩ := fun g o hg => World.cell?_setCell_other W p _ v (fun e => by subst e; simp at hp; omega)
  exact ⟨(ne _ _ (by omega)).trans h0, (ne _ _ (by omega)).trans h1, (ne _ _ (by omega)).trans h2, (ne _ _ (by omega)).trans h3, (ne _ _ (by omega)).trans h4, hB.far (by omega) v, hw.setCell (by omega) v⟩
theorem pk_lt {w W : World} {v0 v1 v2 v3 v4 : Value} (h : Pk w v0 v1 v2 v3 v4 W) : w.heap.size + 1 + 1 < W.heap.size := h.2.2.2.2.2.1.lt
theorem blk2 {W : World} {g : Nat} {t : TypeId} {a b x y : Value} (h : Blk W g t #[a, b]) : Blk ((W.setCell ⟨g, 0, none⟩ x).setCell ⟨g, 1, none⟩ y) g t #[x, y] := (h.set_ 0 x).set_ 1 y
def Pr (w : World) (g : Nat) (d : ByteArray) (Q1 Q2 : Int) (W : World) : Prop :=
  W.cell? ⟨w.heap.size + 1, 2, none⟩ = some (.string d) ∧ W.cell? ⟨g, 0, none⟩ = some (.int .u32 Q1) ∧ W.cell? ⟨g, 1, none⟩ = some (.int .u32 Q2) ∧ w.heap.size + 1 + 1 < W.heap.size ∧ g < W.heap.size ∧ Below w.heap.size w W
theorem pr_below {w W w' : World} {g : Nat} {d : ByteArray} {Q1 Q2 : Int} (hb : Below W.heap.size W w') (h : Pr w g d Q1 Q2 W) : Pr w g d Q1 Q2 w' := by
  obtain ⟨h0, h1, h2, h3, h4, hw⟩ := h
  have := hb.size
  exact ⟨(hb.cell (p := ⟨w.heap.size + 1, 2, none⟩) (by simp; omega)).trans h0, (hb.cell (p := ⟨g, 0, none⟩) h4).trans h1, (hb.cell (p := ⟨g, 1, none⟩) h4).trans h2, by omega, by omega, bj hw hb⟩
theorem pr_alloc {w W : World} {g : Nat} {d : ByteArray} {Q1 Q2 : Int} (o : Obj) (h : Pr w g d Q1 Q2 W) : Pr w g d Q1 Q2 (W.alloc o) := pr_below ((Below.refl _ _).alloc (Nat.le_refl _) _) h
theorem pr_drew {w W : World} {g : Nat} {d : ByteArray} {Q1 Q2 : Int} (h : Pr w g d Q1 Q2 W) : Pr w g d Q1 Q2 W.drew := pr_below (Below.refl _ _).drew h
theorem pr_set {w W : World} {g : Nat} {d : ByteArray} {Q1 Q2 : Int} (h : Pr w g d Q1 Q2 W) (hg : w.heap.size + 1 + 1 ≠ g) (k : Nat) (v : Value) : Pr w g d Q1 Q2 (W.setCell ⟨w.heap.size + 1 + 1, k, none⟩ v) := by
  obtain ⟨h0, h1, h2, h3, h4, hw⟩ := h
  have ne : ∀ b o : Nat, w.heap.size + 1 + 1 ≠ b → (W.setCell ⟨w.heap.size + 1 + 1, k, none⟩ v).cell? ⟨b, o, none⟩ = W.cell? ⟨b, o, none⟩ := fun b o hg => World.cell?_setCell_other W _ _ v (fun e => by simp at e <;> omega)
  exact ⟨(ne _ _ (by omega)).trans h0, (ne _ _ hg).trans h1, (ne _ _ hg).trans h2, by simpa [World.setCell] using h3, by simpa [World.setCell] using h4, hw.setCell (by simp <;> omega) v⟩
theorem pk_new (w : World) (v0 v1 v2 v3 v4 : Value) : Pk w v0 v1 v2 v3 v4 (((w.alloc (.cells #[v0, v1] 73)).alloc (.cells #[v2, v3, v4] 61)).alloc (.cells #[.int .u32 0, .int .u32 0] 73)) := by
  have h0 := ((blk_new w w.heap.size 73 #[v0, v1] rfl).alloc (.cells #[v2, v3, v4] 61)).alloc (.cells #[.int .u32 0, .int .u32 0] 73)
  have h1 := (blk_new (w.alloc (.cells #[v0, v1] 73)) (w.heap.size + 1) 61 #[v2, v3, v4] (by simp)).alloc (.cells #[.int .u32 0, .int .u32 0] 73)
  exact ⟨h0.cell 0, h0.cell 1, h1.cell 0, h1.cell 1, h1.cell 2, blk_new _ _ _ _ (by simp), ((((Below.refl _ _).alloc (Nat.le_refl _) _).alloc (by simp) _).alloc (by simp; omega) _)⟩
set_option maxRecDepth 100000 in
set_option maxHeartbeats 4000000 in
theorem put_ok (p1 p2 : Int) (salt pg cm : Nat) (d : ByteArray) (w : World) (hp : Fit (p1, p2)) (hsalt : salt < 18446744073709551616) (hpg : pg ≤ 256) (hcm : cm ≤ 256) (hd : d.size = 512) (h : okF pg cm d.size = true) :
    Calls Try.prog 66 #[.agg #[.int .u32 p1, .int .u32 p2], .int .u64 salt, .agg #[.int .i64 pg, .int .i64 cm, .string d]] w fun e w' => e = .returned (.tuple #[.string (bstr (frameL (p1, p2) pg cm salt (bts d))), .agg #[.int .u32 (frameQ (p1, p2) pg cm salt (bts d)).1, .int .u32 (frameQ (p1, p2) pg cm salt (bts d)).2], .int .i64 0]) ∧ Below w.heap.size w w' := by
  have hs0 := pk_new w (.int .u32 p1) (.int .u32 p2) (.int .i64 pg) (.int .i64 cm) (.string d)
  have hL1 : (([bstr (fourL pg), bstr (fourL cm), bstr (eightL salt)] : List ByteArray).map bts).flatten = frameA pg cm salt := by
    simp only [List.map_cons, List.map_nil, bts_four, bts_eight, List.flatten_cons, List.flatten_nil, List.append_nil, frameA, List.append_assoc]
  have hz1 : (([bstr (fourL pg), bstr (fourL cm), bstr (eightL salt)] : List ByteArray).map ByteArray.size).sum ≤ 140737488355328 := by
    simp only [List.map_cons, List.map_nil, List.sum_cons, List.sum_nil, four_size, eight_size]
    omega
  have hFm : IntKind.u32.wrap (pg : Int) = pg := by simp [IntKind.wrap, IntKind.bits, IntKind.signed]; omega
  have hPm : IntKind.u32.wrap (cm : Int) = cm := by simp [IntKind.wrap, IntKind.bits, IntKind.signed]; omega
  have HD := Lib.hid hd
  go_enter Try.func66, Try.ntmps66
  go_wp2_with fail
  refine (mayBe_any pg cm d _ _ h).mono ?_
  rintro e w1 ⟨rfl, hb1⟩
  have hs := pk_below hb1 hs0
  have hsd := pk_drew hs
  clear hs0 hb1 hd h
  generalize hw1 : w1.heap.size = n1
  have HW1 := Lib.hid hw1
  clear hw1
  have HS := Lib.hid hs
  clear hs
  go_wp2_with fail
  go_region_held3 (fun w' => w'.cell? ⟨w.heap.size, 0, none⟩ = some (.int .u32 p1) ∧ w'.cell? ⟨w.heap.size, 1, none⟩ = some (.int .u32 p2) ∧ w'.cell? ⟨w.heap.size + 1, 0, none⟩ = some (.int .i64 pg) ∧ w'.cell? ⟨w.heap.size + 1, 1, none⟩ = some (.int .i64 cm) ∧ w'.cell? ⟨w.heap.size + 1, 2, none⟩ = some (.string d) ∧ Blk w' (w.heap.size + 1 + 1) 73 #[.int .u32 0, .int .u32 0] ∧ Below w.heap.size w w')
    (first | exact hsd | (go_split_ands; exact pk_below (by assumption) ⟨by assumption, by assumption, by assumption, by assumption, by assumption, by assumption, by assumption⟩) | (go_split_ands; exact pk_alloc _ ⟨by assumption, by assumption, by assumption, by assumption, by assumption, by assumption, by assumption⟩))
    (first
      | (go_at_call 69; (with_reducible refine (eight_any salt _ hsalt).mono ?_); rintro e w3 ⟨rfl, hb3⟩)
      | (go_at_call 70; (with_reducible refine (four_any pg _ (by omega) (by omega)).mono ?_); rintro e w4 ⟨rfl, hb4⟩)
      | (go_at_call 70; (with_reducible refine (four_any cm _ (by omega) (by omega)).mono ?_); rintro e w5 ⟨rfl, hb5⟩)
      | (go_at_call 68; refine (joined_blk [bstr (fourL pg), bstr (fourL cm), bstr (eightL salt)] (frameA pg cm salt) 3 3 hL1 (blk_new _ _ _ _ (by simp)) rfl (by omega) (by omega) hz1).mono ?_; rintro e w6 ⟨rfl, hb6⟩))
  rename_i hH
  have hk := pk_drew hH
  clear hsd HS HW1 hb3 hb4 hb5 hb6 n1
  have hfA := fit_addL (L := frameA pg cm salt) hp
  have hadd1 := fun w => add_any p1 p2 (bstr (frameA pg cm salt)) w hp (by rw [frameA_size]; omega)
  have hadd2 := fun w => add_any (addL (frameA pg cm salt) (p1, p2)).1 (addL (frameA pg cm salt) (p1, p2)).2 d w hfA (by rw [HD.out]; omega)
  rw [bts_frameA] at hadd1
  have hfQ : Fit (frameQ (p1, p2) pg cm salt (bts d)) := fit_addL hfA
  rw [show addL (bts d) ((addL (frameA pg cm salt) (p1, p2)).1, (addL (frameA pg cm salt) (p1, p2)).2) = frameQ (p1, p2) pg cm salt (bts d) from rfl] at hadd2
  generalize addL (frameA pg cm salt) (p1, p2) = A at hadd1 hadd2
  have hL2 : (([bstr (frameA pg cm salt), bstr (textL (frameQ (p1, p2) pg cm salt (bts d)).1 (frameQ (p1, p2) pg cm salt (bts d)).2), bstr (List.replicate 40 0), d] : List ByteArray).map bts).flatten = frameL (p1, p2) pg cm salt (bts d) := by
    simp only [List.map_cons, List.map_nil, bts_frameA, bts_text, bts_zeros, List.flatten_cons, List.flatten_nil, List.append_nil, frameL, List.append_assoc]
  have hz2 : (([bstr (frameA pg cm salt), bstr (textL (frameQ (p1, p2) pg cm salt (bts d)).1 (frameQ (p1, p2) pg cm salt (bts d)).2), bstr (List.replicate 40 0), d] : List ByteArray).map ByteArray.size).sum ≤ 140737488355328 := by
    simp only [List.map_cons, List.map_nil, List.sum_cons, List.sum_nil, frameA_size, text_size, zeros_size, HD.out]
    omega
  have htx := fun w => text_any (frameQ (p1, p2) pg cm salt (bts d)).1 (frameQ (p1, p2) pg cm salt (bts d)).2 w hfQ
  generalize hFL : frameL (p1, p2) pg cm salt (bts d) = FL at *
  generalize hQ : frameQ (p1, p2) pg cm salt (bts d) = Q at *
  have HFL := Lib.hid hFL
  have HQ := Lib.hid hQ
  clear hFL hQ
  obtain ⟨A1, A2⟩ := A
  obtain ⟨Q1, Q2⟩ := Q
  simp only at hadd1 hadd2 hL2 hz2 htx
  have HADD1 := Lib.hid hadd1
  have HADD2 := Lib.hid hadd2
  have hno : ∀ w, Calls Try.prog 73 #[.int .i64 40] w fun e w' => e = .returned (.string (bstr (List.replicate 40 0))) ∧ Below w.heap.size w w' := fun w => noughts_any 40 w (by omega)
  have HNO := Lib.hid hno
  clear hno
  have HTX := Lib.hid htx
  have HL2 := Lib.hid hL2
  have HZ2 := Lib.hid hz2
  clear hadd1 hadd2 htx hL2 hz2 hL1 hz1 hFm hPm
  go_upto_region 4 with fail
  go_cut [10] (fun s10 wx => Pq w (.int .u32 p1) (.int .u32 p2) (.int .i64 pg) (.int .i64 cm) (.string d) Q1 Q2 s10 wx)
  case first =>
    go_region_held3 (fun w' => w'.cell? ⟨w.heap.size, 0, none⟩ = some (.int .u32 p1) ∧ w'.cell? ⟨w.heap.size, 1, none⟩ = some (.int .u32 p2) ∧ w'.cell? ⟨w.heap.size + 1, 0, none⟩ = some (.int .i64 pg) ∧ w'.cell? ⟨w.heap.size + 1, 1, none⟩ = some (.int .i64 cm) ∧ w'.cell? ⟨w.heap.size + 1, 2, none⟩ = some (.string d) ∧ Blk w' (w.heap.size + 1 + 1) 73 #[.int .u32 0, .int .u32 0] ∧ Below w.heap.size w w')
      (first | exact hk | exact hk3 | exact hk4 | exact pk_alloc _ hk | exact pk_alloc _ hk3 | exact pk_alloc _ hk4 | exact pk_set hk4 _ _ (by first | (have h := pk_lt hk; exact h) | (have h := pk_lt hk3; exact h)) | exact pk_set (pk_set hk4 _ _ (by first | (have h := pk_lt hk; exact h) | (have h := pk_lt hk3; exact h))) _ _ (by first | (have h := pk_lt hk; exact h) | (have h := pk_lt hk3; exact h)))
      (first
        | (go_at_call 83; (with_reducible refine (HADD1.out _).mono ?_); rintro e w3 ⟨rfl, hb3⟩; (have hk3 := pk_below hb3 (by first | exact hk | exact pk_alloc _ hk)); (try (have hq := blk_at' hb3)))
        | (go_at_call 83; (with_reducible refine (HADD2.out _).mono ?_); rintro e w4 ⟨rfl, hb4⟩; (have hk4 := pk_below hb4 (by first | exact hk3 | exact pk_alloc _ hk3)); (try (have hq := blk_at hb4)); (try (replace hq := blk_step hq hb4)); (try (have r0 := hq.cell 0; have r1 := hq.cell 1; have f0 := hq.frozen 0; have f1 := hq.frozen 1))))
    all_goals (go_wp2_with fail; go_meet; rename_i hP; exact ⟨_, rfl, (by first | (have h := pk_lt hk; exact h) | (have h := pk_lt hk3; exact h) | (have h := pk_lt hk4; exact h)), hP, by first | exact blk_new _ _ _ _ rfl | exact blk2 hq⟩)
  case rest =>
    obtain ⟨g, rfl, hg, hP, hQ⟩ := hcut
    have hr : Pr w g d Q1 Q2 wc := ⟨hP.2.2.2.2.1, hQ.cell 0, hQ.cell 1, pk_lt hP, hQ.lt, hP.2.2.2.2.2.2⟩
    have hrd := pr_drew hr
    have hB : Blk wc.drew (w.heap.size + 1 + 1) 73 #[.int .u32 0, .int .u32 0] := hP.2.2.2.2.2.1
    have hgne : w.heap.size + 1 + 1 ≠ g := by omega
    clear hQ hP hr hH hk hg
    go_wp2_with fail
    go_region_held3 (fun w' => w'.cell? ⟨w.heap.size + 1, 2, none⟩ = some (.string d) ∧ w'.cell? ⟨g, 0, none⟩ = some (.int .u32 Q1) ∧ w'.cell? ⟨g, 1, none⟩ = some (.int .u32 Q2) ∧ w.heap.size + 1 + 1 < w'.heap.size ∧ g < w'.heap.size ∧ Below w.heap.size w w')
      (first | exact hrd | exact h5 | exact h6 | exact h7 | exact pr_alloc _ h6 | exact pr_set h7 hgne _ _ | exact pr_set (pr_set h7 hgne _ _) hgne _ _)
      (first
        | (go_at_call 71; (with_reducible refine (HTX.out _).mono ?_); rintro e w5 ⟨rfl, hb5⟩; (have h5 := pr_below hb5 hrd))
        | (go_at_call 73; (with_reducible refine (HNO.out _).mono ?_); rintro e w6 ⟨rfl, hb6⟩; (have h6 := pr_below hb6 h5))
        | (go_at_call 68; refine (joined_blk [bstr (frameA pg cm salt), bstr (textL Q1 Q2), bstr (List.replicate 40 0), d] FL 4 4 HL2.out (blk_new _ _ _ _ rfl) rfl (by omega) (by omega) HZ2.out).mono ?_; rintro e w7 ⟨rfl, hb7⟩; (have h7 := pr_below hb7 (pr_alloc _ h6)); (have hB7 := blk_step ((blk_step (blk_step hB hb5) hb6).alloc _) hb7); (have r0 : w7.cell? ⟨w.heap.size + 1 + 1, 0, none⟩ = some (.int .u32 0) := hB7.cell 0); (have r1 : w7.cell? ⟨w.heap.size + 1 + 1, 1, none⟩ = some (.int .u32 0) := hB7.cell 1); (have f0 := hB7.frozen 0); (have f1 := hB7.frozen 1)))
    go_wp2
    rename_i hE
    refine bodyPost_ret (v := .tuple #[.string (bstr FL), .agg #[.int .u32 Q1, .int .u32 Q2], .int .i64 0]) (by simp [results, Try.results66, go_sem, r0, r1]) rfl ⟨by rw [HFL.out, HQ.out], hE.2.2.2.2.2⟩
end Go.Proofs.Ythipaabjmlgjmaa
