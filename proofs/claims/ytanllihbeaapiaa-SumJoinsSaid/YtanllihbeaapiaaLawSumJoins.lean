/- The walk of SumJoins. Conditions: the numbers fit their kind, the texts are no longer than a machine has addresses. -/
import Derived.Test.YtanllihbeaapiaaProg
import Derived.Test.YtanllihbeaapiaaSum
import Derived.Deep.RegionHeld3
namespace Go.Proofs.Ytanllihbeaapiaa
open Go.RowKit
theorem getD_left (A B : List Nat) (i : Nat) (h : i < A.length) : (A ++ B).getD i 0 = A.getD i 0 := by
  simp only [List.getD_eq_getElem?_getD]; rw [List.getElem?_append_left h]
theorem getD_right (A B : List Nat) (i : Nat) (h : A.length ≤ i) : (A ++ B).getD i 0 = B.getD (i - A.length) 0 := by
  simp only [List.getD_eq_getElem?_getD]; rw [List.getElem?_append_right h]
theorem wd_left (A B : List Nat) (i : Nat) (h : i + 4 ≤ A.length) : wd (A ++ B) i = wd A i := by
  unfold wd; rw [getD_left _ _ _ (by omega), getD_left _ _ _ (by omega), getD_left _ _ _ (by omega), getD_left _ _ _ (by omega)]
theorem wd_right (A B : List Nat) (i : Nat) (h : A.length ≤ i) : wd (A ++ B) i = wd B (i - A.length) := by
  unfold wd; rw [getD_right _ _ _ (by omega), getD_right _ _ _ (by omega), getD_right _ _ _ (by omega), getD_right _ _ _ (by omega)]
  rw [show i + 1 - A.length = i - A.length + 1 from by omega, show i + 2 - A.length = i - A.length + 2 from by omega, show i + 3 - A.length = i - A.length + 3 from by omega]
theorem stepA_congr {p : Int × Int} {L M : List Nat} {k j : Nat} (h1 : wd L (8 * k) = wd M (8 * j)) (h2 : wd L (8 * k + 4) = wd M (8 * j + 4)) : stepA p L k = stepA p M j := by
  unfold stepA; rw [h1, h2]
theorem addN_left (A B : List Nat) (n : Nat) (hA : A.length = 8 * n) (p : Int × Int) : ∀ k, k ≤ n → addN (A ++ B) k p = addN A k p
  | 0, _ => rfl
  | k + 1, hk => by
    show stepA (addN (A ++ B) k p) (A ++ B) k = stepA (addN A k p) A k
    rw [addN_left A B n hA p k (by omega), stepA_congr (wd_left A B (8 * k) (by omega)) (wd_left A B (8 * k + 4) (by omega))]
theorem addN_right (A B : List Nat) (n : Nat) (hA : A.length = 8 * n) (p : Int × Int) : ∀ k, addN (A ++ B) (n + k) p = addN B k (addN A n p)
  | 0 => addN_left A B n hA p n (Nat.le_refl _)
  | k + 1 => by
    show stepA (addN (A ++ B) (n + k) p) (A ++ B) (n + k) = stepA (addN B k (addN A n p)) B k
    rw [addN_right A B n hA p k]
    refine stepA_congr ?_ ?_
    · rw [wd_right A B _ (by omega), hA, show 8 * (n + k) - 8 * n = 8 * k from by omega]
    · rw [wd_right A B _ (by omega), hA, show 8 * (n + k) + 4 - 8 * n = 8 * k + 4 from by omega]
theorem addL_join (A B : List Nat) (n : Nat) (hA : A.length = 8 * n) (p : Int × Int) : addL (A ++ B) p = addL B (addL A p) := by
  unfold addL
  rw [List.length_append, hA, show nb (8 * n + B.length) = n + nb B.length from by unfold nb; omega, show nb (8 * n) = n from by unfold nb; omega]
  exact addN_right A B n hA p _
theorem getD_zeros (B : List Nat) (m i : Nat) : (B ++ List.replicate m 0).getD i 0 = B.getD i 0 := by
  rcases Nat.lt_or_ge i B.length with h | h
  · exact getD_left _ _ _ h
  · rw [getD_right _ _ _ h]
    simp only [List.getD_eq_getElem?_getD, List.getElem?_replicate, List.getElem?_eq_none h]
    split <;> rfl
theorem wd_zeros (B : List Nat) (m i : Nat) : wd (B ++ List.replicate m 0) i = wd B i := by
  unfold wd; rw [getD_zeros, getD_zeros, getD_zeros, getD_zeros]
theorem addN_zeros (B : List Nat) (m : Nat) (p : Int × Int) : ∀ k, addN (B ++ List.replicate m 0) k p = addN B k p
  | 0 => rfl
  | k + 1 => by
    show stepA (addN (B ++ List.replicate m 0) k p) (B ++ List.replicate m 0) k = stepA (addN B k p) B k
    rw [addN_zeros B m p k, stepA_congr (wd_zeros B m (8 * k)) (wd_zeros B m (8 * k + 4))]
theorem addL_zeros (B : List Nat) (m : Nat) (hm : nb (B.length + m) = nb B.length) (p : Int × Int) : addL (B ++ List.replicate m 0) p = addL B p := by
  unfold addL
  rw [List.length_append, List.length_replicate, hm, addN_zeros]
theorem bts_app (a b : ByteArray) : bts (a ++ b) = bts a ++ bts b := by simp [bts]
theorem bts_cut0 (s : ByteArray) (k : Nat) : bts (s.extract 0 k) = (bts s).take k := by
  unfold bts
  rw [← List.map_take]
  simp [ByteArray.data_extract]
theorem zeros_cut (m : Nat) (h : m ≤ 7) : bts ((⟨#[0, 0, 0, 0, 0, 0, 0]⟩ : ByteArray).extract 0 m) = List.replicate m 0 := by
  obtain rfl | rfl | rfl | rfl | rfl | rfl | rfl | rfl : m = 0 ∨ m = 1 ∨ m = 2 ∨ m = 3 ∨ m = 4 ∨ m = 5 ∨ m = 6 ∨ m = 7 := by omega
  all_goals decide
theorem heldg_below {w0 W w' : World} {a b c d : Int} {g h : Nat} (hb : Below W.heap.size W w') (h0 : W.cell? ⟨g, 0, none⟩ = some (.int .u32 a)) (h1 : W.cell? ⟨g, 1, none⟩ = some (.int .u32 b)) (h2 : W.cell? ⟨h, 0, none⟩ = some (.int .u32 c)) (h3 : W.cell? ⟨h, 1, none⟩ = some (.int .u32 d)) (hl1 : g < W.heap.size) (hl2 : h < W.heap.size) (hw : Below w0.heap.size w0 W) :
    w'.cell? ⟨g, 0, none⟩ = some (.int .u32 a) ∧ w'.cell? ⟨g, 1, none⟩ = some (.int .u32 b) ∧ w'.cell? ⟨h, 0, none⟩ = some (.int .u32 c) ∧ w'.cell? ⟨h, 1, none⟩ = some (.int .u32 d) ∧ g < w'.heap.size ∧ h < w'.heap.size ∧ Below w0.heap.size w0 w' :=
  ⟨(hb.cell (p := ⟨g, 0, none⟩) hl1).trans h0, (hb.cell (p := ⟨g, 1, none⟩) hl1).trans h1, (hb.cell (p := ⟨h, 0, none⟩) hl2).trans h2, (hb.cell (p := ⟨h, 1, none⟩) hl2).trans h3, Nat.lt_of_lt_of_le hl1 hb.size, Nat.lt_of_lt_of_le hl2 hb.size, hw.trans (hb.mono hw.size)⟩
set_option maxRecDepth 100000 in
set_option maxHeartbeats 4000000 in
theorem sumJoins_nat (a b : Int) (s t : ByteArray) (w : World) (hp : Fit (a, b)) (hs : s.size ≤ 140737488351232) (ht : t.size ≤ 140737488351232) :
    Calls Try.prog 8 #[.agg #[.int .u32 a, .int .u32 b], .string s, .string t] w fun e w' => e = .returned (.bool true) ∧ Below w.heap.size w w' := by
  by_cases hbs : (65536 : Int) < s.size
  · go_enter Try.func8, Try.ntmps8
    go_wp2_with fail
    refine (sworks_any _).mono ?_
    rintro e w1 ⟨rfl, hb1⟩
    go_wp2
    go_ret
    exact ⟨rfl, ((Below.refl _ _).alloc (Nat.le_refl _) _).trans (hb1.mono (by simp))⟩
  · by_cases hbt : (65536 : Int) < t.size
    · go_enter Try.func8, Try.ntmps8
      go_wp2_with fail
      refine (sworks_any _).mono ?_
      rintro e w1 ⟨rfl, hb1⟩
      go_wp2
      go_ret
      exact ⟨rfl, ((Below.refl _ _).alloc (Nat.le_refl _) _).trans (hb1.mono (by simp))⟩
    · have hm7 : 7 - (t.size + 7) % 8 ≤ 7 := by omega
      have hz := zeros_cut (7 - (t.size + 7) % 8) hm7
      have hS : bts (s.extract 0 (s.size / 8 * 8)) = (bts s).take (s.size / 8 * 8) := bts_cut0 s _
      have hSl : (bts (s.extract 0 (s.size / 8 * 8))).length = 8 * (s.size / 8) := by rw [hS, List.length_take, bts_length]; omega
      have e1 : addL (bts (s.extract 0 (s.size / 8 * 8) ++ t)) (a, b) = addL (bts t) (addL (bts (s.extract 0 (s.size / 8 * 8))) (a, b)) := by rw [bts_app]; exact addL_join _ _ _ hSl _
      have hFl : (bts (t ++ (⟨#[0, 0, 0, 0, 0, 0, 0]⟩ : ByteArray).extract 0 (7 - (t.size + 7) % 8))).length = t.size + (7 - (t.size + 7) % 8) := by rw [bts_app, hz, List.length_append, bts_length, List.length_replicate]
      have e2 : addL (bts (s.extract 0 (s.size / 8 * 8) ++ (t ++ (⟨#[0, 0, 0, 0, 0, 0, 0]⟩ : ByteArray).extract 0 (7 - (t.size + 7) % 8)))) (a, b) = addL (bts t) (addL (bts (s.extract 0 (s.size / 8 * 8))) (a, b)) := by
        rw [bts_app, addL_join _ _ _ hSl, bts_app t, hz, addL_zeros]
        rw [bts_length]; unfold nb; omega
      have hsz : (s.extract 0 (s.size / 8 * 8)).size ≤ 65536 := by rw [← bts_length, hSl]; omega
      have hfz : (t ++ (⟨#[0, 0, 0, 0, 0, 0, 0]⟩ : ByteArray).extract 0 (7 - (t.size + 7) % 8)).size = t.size + (7 - (t.size + 7) % 8) := by rw [← bts_length, hFl]
      have a0 := fun w => add_any a b (s.extract 0 (s.size / 8 * 8) ++ t) w hp (by rw [ByteArray.size_append]; omega)
      have a1 := fun w => add_any a b (s.extract 0 (s.size / 8 * 8)) w hp (by omega)
      have hM : Fit (addL (bts (s.extract 0 (s.size / 8 * 8))) (a, b)) := fit_addL hp
      have a3 := fun w => add_any a b (s.extract 0 (s.size / 8 * 8) ++ (t ++ (⟨#[0, 0, 0, 0, 0, 0, 0]⟩ : ByteArray).extract 0 (7 - (t.size + 7) % 8))) w hp (by rw [ByteArray.size_append, hfz]; omega)
      rw [e1] at a0
      rw [e2] at a3
      generalize addL (bts (s.extract 0 (s.size / 8 * 8))) (a, b) = M at *
      obtain ⟨M1, M2⟩ := M
      have a2 := fun w => add_any M1 M2 t w hM ht
      generalize addL (bts t) (M1, M2) = R at *
      obtain ⟨R1, R2⟩ := R
      have A0 := Lib.hid a0
      have A1 := Lib.hid a1
      have A2 := Lib.hid a2
      have A3 := Lib.hid a3
      have HFZ := Lib.hid hfz
      have HSZ := Lib.hid hsz
      clear a0 a1 a2 a3 e1 e2 hM hp hz hS hSl hFl hsz hfz hs ht
      go_enter Try.func8, Try.ntmps8
      go_wp2_with fail
      refine (sworks_any _).mono ?_
      rintro e w1 ⟨rfl, hb1⟩
      have hk1 := (Blk.new w 24 #[.int .u32 a, .int .u32 b]).below hb1 (by simp)
      have hbw1 : Below w.heap.size w w1 := ((Below.refl _ _).alloc (Nat.le_refl _) _).trans (hb1.mono (by simp))
      have c0 : w1.cell? ⟨w.heap.size, 0, none⟩ = some (.int .u32 a) := hk1.cell 0
      have c1 : w1.cell? ⟨w.heap.size, 1, none⟩ = some (.int .u32 b) := hk1.cell 1
      clear hb1
      go_wp2_with fail
      generalize t ++ (⟨#[0, 0, 0, 0, 0, 0, 0]⟩ : ByteArray).extract 0 (7 - (t.size + 7) % 8) = F at *
      generalize s.extract 0 (s.size / 8 * 8) = S at *
      (with_reducible refine (A0.out _).mono ?_)
      rintro e w2 ⟨rfl, hb2⟩
      have hk2 := hk1.below hb2 hk1.lt
      have hbw2 : Below w.heap.size w w2 := hbw1.trans (hb2.mono hbw1.size)
      have d0 : w2.cell? ⟨w.heap.size, 0, none⟩ = some (.int .u32 a) := hk2.cell 0
      have d1 : w2.cell? ⟨w.heap.size, 1, none⟩ = some (.int .u32 b) := hk2.cell 1
      clear hb2 hk1 c0 c1 hbw1
      go_wp2_with fail
      have hl1 : w.heap.size < (w2.alloc (.cells #[.int .u32 R1, .int .u32 R2] 24)).drew.heap.size := by have := hk2.lt; simp [World.drew]; omega
      have hl2 : w2.heap.size < (w2.alloc (.cells #[.int .u32 R1, .int .u32 R2] 24)).drew.heap.size := by simp [World.drew]
      have hl3 : Below w.heap.size w (w2.alloc (.cells #[.int .u32 R1, .int .u32 R2] 24)).drew := (hbw2.alloc hbw2.size _).drew
      have hll : w.heap.size < w2.heap.size := hk2.lt
      have hlm : w.heap.size < w2.heap.size + 1 := by omega
      have hln : w.heap.size ≤ w2.heap.size := by omega
      have x0 : (w2.alloc (.cells #[.int .u32 R1, .int .u32 R2] 24)).cell? ⟨w.heap.size, 0, none⟩ = some (.int .u32 a) := (hk2.alloc _).cell 0
      have x1 : (w2.alloc (.cells #[.int .u32 R1, .int .u32 R2] 24)).cell? ⟨w.heap.size, 1, none⟩ = some (.int .u32 b) := (hk2.alloc _).cell 1
      have HF8 : ((F.size : Int) % 8 == 0) = true := by rw [HFZ.out]; simp; omega
      have HF9 : (F.size : Int).tmod 8 = 0 := by rw [Int.tmod_eq_emod_of_nonneg (by omega), HFZ.out]; omega
      have HSF1 : F.size ≤ 70000 := by rw [HFZ.out]; omega
      have HSF2 : S.size ≤ 65536 := HSZ.out
      have HSF3 : ¬ (9223372036854775807 < S.size + F.size) := by omega
      have HSF4 : S.size + F.size ≤ 9223372036854775807 := by omega
      have HSF5 : (S.size : Int) + F.size ≤ 9223372036854775807 := by omega
      clear hk2 hbw2 hm7
      go_region_held3 (fun w' => w'.cell? ⟨w.heap.size, 0, none⟩ = some (.int .u32 a) ∧ w'.cell? ⟨w.heap.size, 1, none⟩ = some (.int .u32 b) ∧ w'.cell? ⟨w2.heap.size, 0, none⟩ = some (.int .u32 R1) ∧ w'.cell? ⟨w2.heap.size, 1, none⟩ = some (.int .u32 R2) ∧ w.heap.size < w'.heap.size ∧ w2.heap.size < w'.heap.size ∧ Below w.heap.size w w')
        (first | go_keep | (go_split_ands; exact heldg_below (by assumption) (by assumption) (by assumption) (by assumption) (by assumption) (by assumption) (by assumption) (by assumption)) | exact heldg_below (by assumption) (by assumption) (by assumption) (by assumption) (by assumption) (by assumption) (by assumption) (by assumption))
        (first | (go_at_call 14; (with_reducible refine (A1.out _).mono ?_); rintro e w3 ⟨rfl, hb3⟩) | (go_at_call 14; (with_reducible refine (A2.out _).mono ?_); rintro e w4 ⟨rfl, hb4⟩) | (go_at_call 14; (with_reducible refine (A3.out _).mono ?_); rintro e w5 ⟨rfl, hb5⟩))
      go_wp2
      go_ret
      have hz : w5.cell? ⟨w.heap.size, 0, none⟩ = some (.int .u32 a) ∧ w5.cell? ⟨w.heap.size, 1, none⟩ = some (.int .u32 b) ∧ w5.cell? ⟨w2.heap.size, 0, none⟩ = some (.int .u32 R1) ∧ w5.cell? ⟨w2.heap.size, 1, none⟩ = some (.int .u32 R2) ∧ w.heap.size < w5.heap.size ∧ w2.heap.size < w5.heap.size ∧ Below w.heap.size w w5 := by assumption
      exact ⟨rfl, hz.2.2.2.2.2.2⟩
theorem sumJoins_walk (a0 b0 : Int) (a1 a2 : ByteArray) (w0 : (Lit.int .u32 a0).wf = true) (u0 : (Lit.int .u32 b0).wf = true) (w1 : a1.size ≤ 140737488351232) (w2 : a2.size ≤ 140737488351232) (w : World) :
    Calls Try.prog 8 #[.agg #[.int .u32 a0, .int .u32 b0], .string a1, .string a2] w fun e w' => e = .returned (.bool true) ∧ Below w.heap.size w w' :=
  sumJoins_nat a0 b0 a1 a2 w (fit_wf w0 u0) w1 w2
end Go.Proofs.Ytanllihbeaapiaa
