/- The walk of FrameHeadBack. Conditions: the numbers fit their kinds, a text is no longer than a machine has addresses. -/
import Derived.Test.YtpgjlpljjbgplaaFrameWorks
namespace Go.Proofs.Ytpgjlpljjbgplaa
open Go.RowKit
def Hb (w : World) (v0 v1 v2 u0 u1 u2 : Value) (W : World) : Prop :=
  Blk W w.heap.size 27 #[v0, v1, v2] ∧ Blk W (w.heap.size + 1) 27 #[u0, u1, u2] ∧ Below w.heap.size w W
theorem hb_step {w W w' : World} {v0 v1 v2 u0 u1 u2 : Value} (hb : Below W.heap.size W w') (h : Hb w v0 v1 v2 u0 u1 u2 W) : Hb w v0 v1 v2 u0 u1 u2 w' := ⟨blk_step h.1 hb, blk_step h.2.1 hb, bj h.2.2 hb⟩
theorem hb_alloc {w W : World} {v0 v1 v2 u0 u1 u2 : Value} (o : Obj) (h : Hb w v0 v1 v2 u0 u1 u2 W) : Hb w v0 v1 v2 u0 u1 u2 (W.alloc o) := hb_step ((Below.refl _ _).alloc (Nat.le_refl _) _) h
theorem hb_drew {w W : World} {v0 v1 v2 u0 u1 u2 : Value} (h : Hb w v0 v1 v2 u0 u1 u2 W) : Hb w v0 v1 v2 u0 u1 u2 W.drew := hb_step (Below.refl _ _).drew h
theorem hb_new (w : World) (v0 v1 v2 u0 u1 u2 : Value) : Hb w v0 v1 v2 u0 u1 u2 ((w.alloc (.cells #[v0, v1, v2] 27)).alloc (.cells #[u0, u1, u2] 27)) :=
  ⟨(Blk.new w _ _).alloc _, blk_new _ _ _ _ (by simp), (((Below.refl _ _).alloc (Nat.le_refl _) _).alloc (by simp) _)⟩
theorem hbS {w W : World} {v0 v1 v2 u0 u1 u2 : Value} (h : Hb w v0 v1 v2 u0 u1 u2 W) : W.cell? ⟨w.heap.size, 0, none⟩ = some v0 ∧ W.cell? ⟨w.heap.size, 1, none⟩ = some v1 ∧ W.cell? ⟨w.heap.size, 2, none⟩ = some v2 ∧ W.cell? ⟨w.heap.size + 1, 0, none⟩ = some u0 ∧ Hb w v0 v1 v2 u0 u1 u2 W := ⟨h.1.cell 0, h.1.cell 1, h.1.cell 2, h.2.1.cell 0, h⟩
theorem ne_pair {x y x' y' : Int} (h : ¬ (x = x' ∧ y = y')) {P : Prop} (h1 : (x == x') = false → P) (h2 : (x == x') = true → (y == y') = false → P) : P := by
  by_cases e : x = x'
  · exact h2 (by simp [e]) (by simp; exact fun e2 => h ⟨e, e2⟩)
  · exact h1 (by simp [e])
theorem startP_inj {N M : Nat} (hN : N < 18446744073709551616) (hM : M < 18446744073709551616) : startP N = startP M ↔ N = M := by
  refine ⟨fun h => ?_, fun h => by rw [h]⟩
  have hn : Near (startL N) (startL M) 1 := by
    intro i hi
    unfold startL
    by_cases h8 : i < 8
    · rw [getD_left _ _ _ h8, getD_left _ _ _ h8]
    · rw [List.getD_eq_getElem?_getD, List.getD_eq_getElem?_getD, List.getElem?_eq_none (by show 16 ≤ i; omega), List.getElem?_eq_none (by show 16 ≤ i; omega)]
  have e := (addL_near hn rfl (by show 8 * 1 < 16; decide) (getD_of_lt (startL_lt N)) (getD_of_lt (startL_lt M)) (0, 0) fit0).1 h
  have e2 := List.append_cancel_left e
  rw [← val_eightL hN, e2, val_eightL hM]
structure HbIn (N M : Nat) (A1 A2 B1 B2 : Int) : Prop where
  h1 : ∀ w, Calls Try.prog 19 #[.int .u64 N] w fun e w' => e = .returned (.agg #[.int .u32 A1, .int .u32 A2]) ∧ Below w.heap.size w w'
  h2 : ∀ w, Calls Try.prog 19 #[.int .u64 M] w fun e w' => e = .returned (.agg #[.int .u32 B1, .int .u32 B2]) ∧ Below w.heap.size w w'
theorem hbin {N M : Nat} {A1 A2 B1 B2 : Int} (h : Hid (HbIn N M A1 A2 B1 B2)) : HbIn N M A1 A2 B1 B2 := h
theorem hb_cases (N M : Nat) (hN : N < 18446744073709551616) (hM : M < 18446744073709551616) {P : Prop}
    (h1 : ∀ A1 A2, N = M → HbIn N N A1 A2 A1 A2 → P) (h2 : ∀ A1 A2 B1 B2, ((N : Int) == (M : Int)) = false → (A1 == B1) = false → HbIn N M A1 A2 B1 B2 → P) (h3 : ∀ A1 A2 B1 B2, ((N : Int) == (M : Int)) = false → (A1 == B1) = true → (A2 == B2) = false → HbIn N M A1 A2 B1 B2 → P) : P := by
  by_cases e : N = M
  · subst e
    exact h1 (startP N).1 (startP N).2 rfl ⟨fun w => start_any N w hN, fun w => start_any N w hN⟩
  · have hne : ((N : Int) == (M : Int)) = false := by rw [beq_eq_false_iff_ne]; omega
    have hi : HbIn N M (startP N).1 (startP N).2 (startP M).1 (startP M).2 := ⟨fun w => start_any N w hN, fun w => start_any M w hM⟩
    refine ne_pair (x := (startP N).1) (x' := (startP M).1) (y := (startP N).2) (y' := (startP M).2) (fun h => e ((startP_inj hN hM).1 (Prod.ext h.1 h.2))) (fun g => h2 _ _ _ _ hne g hi) (fun g1 g2 => h3 _ _ _ _ hne g1 g2 hi)
set_option maxRecDepth 100000 in
set_option maxHeartbeats 8000000 in
theorem frameHeadBack_bad (N M : Nat) (F P G Q : Int) (m : ByteArray) (w : World) (hN : N < 18446744073709551616) (hM : M < 18446744073709551616) (hm : m.size ≤ 8192) (h : (okIn 256 F && okIn 256 P) = false) :
    Calls Try.prog 9 #[.agg #[.int .u64 N, .int .i64 F, .int .i64 P], .agg #[.int .u64 M, .int .i64 G, .int .i64 Q], .string m] w fun e w' => e = .returned (.bool true) ∧ Below w.heap.size w w' := by
  have hput := fun w => putHead_any N F P w (by omega) (by omega)
  unfold putHeadRet at hput
  rw [h] at hput
  have HPUT := Lib.hid hput
  clear hput h
  refine hb_cases N M hN hM (fun A1 A2 e hi => ?_) (fun A1 A2 B1 B2 e1 e2 hi => ?_) (fun A1 A2 B1 B2 e1 e2 e3 hi => ?_)
  · subst e
    have HI := Lib.hid hi
    clear hi hN hM
    have hs0 := hb_new w (.int .u64 N) (.int .i64 F) (.int .i64 P) (.int .u64 N) (.int .i64 G) (.int .i64 Q)
    go_enter Try.func9, Try.ntmps9
    go_wp2_with fail
    refine (works_any _).mono ?_
    rintro e w1 ⟨rfl, hb1⟩
    have hs1 := hb_step hb1 hs0
    obtain ⟨c0, c1, c2, c3, _⟩ := hbS hs1
    clear hb1 hs0
    go_wp2_with fail
    refine (HPUT.out _).mono ?_
    rintro e w2 ⟨rfl, hb2⟩
    have hs2 := hb_step hb2 hs1
    clear c0 c1 c2 c3 hb2 hs1
    have hs2d := hb_drew hs2
    go_wp2_with fail
    go_region_held3 (fun W => W.cell? ⟨w.heap.size, 0, none⟩ = some (.int .u64 N) ∧ W.cell? ⟨w.heap.size, 1, none⟩ = some (.int .i64 F) ∧ W.cell? ⟨w.heap.size, 2, none⟩ = some (.int .i64 P) ∧ W.cell? ⟨w.heap.size + 1, 0, none⟩ = some (.int .u64 N) ∧ Hb w (.int .u64 N) (.int .i64 F) (.int .i64 P) (.int .u64 N) (.int .i64 G) (.int .i64 Q) W)
      (first | exact hbS hs2d | exact hbS hs3 | exact hbS hs4)
      (first | (go_at_call 19; (with_reducible refine ((hbin HI).h1 _).mono ?_); rintro e w3 ⟨rfl, hb3⟩; (first | (have hs4 := hb_step hb3 hs3) | (have hs3 := hb_step hb3 hs2d))) | (go_at_call 19; (with_reducible refine ((hbin HI).h2 _).mono ?_); rintro e w3 ⟨rfl, hb3⟩; (first | (have hs4 := hb_step hb3 hs3) | (have hs3 := hb_step hb3 hs2d))))
    go_wp2
    go_ret
    exact ⟨rfl, hs4.2.2⟩
  · have HI := Lib.hid hi
    clear hi hN hM
    have hs0 := hb_new w (.int .u64 N) (.int .i64 F) (.int .i64 P) (.int .u64 M) (.int .i64 G) (.int .i64 Q)
    go_enter Try.func9, Try.ntmps9
    go_wp2_with fail
    refine (works_any _).mono ?_
    rintro e w1 ⟨rfl, hb1⟩
    have hs1 := hb_step hb1 hs0
    obtain ⟨c0, c1, c2, c3, _⟩ := hbS hs1
    clear hb1 hs0
    go_wp2_with fail
    refine (HPUT.out _).mono ?_
    rintro e w2 ⟨rfl, hb2⟩
    have hs2 := hb_step hb2 hs1
    clear c0 c1 c2 c3 hb2 hs1
    have hs2d := hb_drew hs2
    go_wp2_with fail
    go_region_held3 (fun W => W.cell? ⟨w.heap.size, 0, none⟩ = some (.int .u64 N) ∧ W.cell? ⟨w.heap.size, 1, none⟩ = some (.int .i64 F) ∧ W.cell? ⟨w.heap.size, 2, none⟩ = some (.int .i64 P) ∧ W.cell? ⟨w.heap.size + 1, 0, none⟩ = some (.int .u64 M) ∧ Hb w (.int .u64 N) (.int .i64 F) (.int .i64 P) (.int .u64 M) (.int .i64 G) (.int .i64 Q) W)
      (first | exact hbS hs2d | exact hbS hs3 | exact hbS hs4)
      (first | (go_at_call 19; (with_reducible refine ((hbin HI).h1 _).mono ?_); rintro e w3 ⟨rfl, hb3⟩; (first | (have hs4 := hb_step hb3 hs3) | (have hs3 := hb_step hb3 hs2d))) | (go_at_call 19; (with_reducible refine ((hbin HI).h2 _).mono ?_); rintro e w3 ⟨rfl, hb3⟩; (first | (have hs4 := hb_step hb3 hs3) | (have hs3 := hb_step hb3 hs2d))))
    go_wp2
    go_ret
    exact ⟨rfl, hs4.2.2⟩
  · have HI := Lib.hid hi
    clear hi hN hM
    have hs0 := hb_new w (.int .u64 N) (.int .i64 F) (.int .i64 P) (.int .u64 M) (.int .i64 G) (.int .i64 Q)
    go_enter Try.func9, Try.ntmps9
    go_wp2_with fail
    refine (works_any _).mono ?_
    rintro e w1 ⟨rfl, hb1⟩
    have hs1 := hb_step hb1 hs0
    obtain ⟨c0, c1, c2, c3, _⟩ := hbS hs1
    clear hb1 hs0
    go_wp2_with fail
    refine (HPUT.out _).mono ?_
    rintro e w2 ⟨rfl, hb2⟩
    have hs2 := hb_step hb2 hs1
    clear c0 c1 c2 c3 hb2 hs1
    have hs2d := hb_drew hs2
    go_wp2_with fail
    go_region_held3 (fun W => W.cell? ⟨w.heap.size, 0, none⟩ = some (.int .u64 N) ∧ W.cell? ⟨w.heap.size, 1, none⟩ = some (.int .i64 F) ∧ W.cell? ⟨w.heap.size, 2, none⟩ = some (.int .i64 P) ∧ W.cell? ⟨w.heap.size + 1, 0, none⟩ = some (.int .u64 M) ∧ Hb w (.int .u64 N) (.int .i64 F) (.int .i64 P) (.int .u64 M) (.int .i64 G) (.int .i64 Q) W)
      (first | exact hbS hs2d | exact hbS hs3 | exact hbS hs4)
      (first | (go_at_call 19; (with_reducible refine ((hbin HI).h1 _).mono ?_); rintro e w3 ⟨rfl, hb3⟩; (first | (have hs4 := hb_step hb3 hs3) | (have hs3 := hb_step hb3 hs2d))) | (go_at_call 19; (with_reducible refine ((hbin HI).h2 _).mono ?_); rintro e w3 ⟨rfl, hb3⟩; (first | (have hs4 := hb_step hb3 hs3) | (have hs3 := hb_step hb3 hs2d))))
    go_wp2
    go_ret
    exact ⟨rfl, hs4.2.2⟩
set_option maxRecDepth 100000 in
set_option maxHeartbeats 8000000 in
theorem frameHeadBack_ok (N M : Nat) (F P G Q : Int) (m : ByteArray) (w : World) (hN : N < 18446744073709551616) (hM : M < 18446744073709551616) (hm : m.size ≤ 8192) (S : ByteArray) (hS : ((S.size : Int) != 64) = false) (hSm : S.size + m.size ≤ 10000) (HPUT : Hid (∀ w, Calls Try.prog 10 #[.agg #[.int .u64 N, .int .i64 F, .int .i64 P]] w fun e w' => e = .returned (.tuple #[.string S, .int .i64 0]) ∧ Below w.heap.size w w'))
    (HT : Hid (∀ w, Calls Try.prog 11 #[.string (S ++ m)] w fun e w' => e = .returned (.tuple #[.agg #[.int .u64 N, .int .i64 F, .int .i64 P], .int .i64 0]) ∧ Below w.heap.size w w')) :
    Calls Try.prog 9 #[.agg #[.int .u64 N, .int .i64 F, .int .i64 P], .agg #[.int .u64 M, .int .i64 G, .int .i64 Q], .string m] w fun e w' => e = .returned (.bool true) ∧ Below w.heap.size w w' := by
  refine hb_cases N M hN hM (fun A1 A2 e hi => ?_) (fun A1 A2 B1 B2 e1 e2 hi => ?_) (fun A1 A2 B1 B2 e1 e2 e3 hi => ?_)
  · subst e
    have HI := Lib.hid hi
    clear hi hN hM
    have hs0 := hb_new w (.int .u64 N) (.int .i64 F) (.int .i64 P) (.int .u64 N) (.int .i64 G) (.int .i64 Q)
    go_enter Try.func9, Try.ntmps9
    go_wp2_with fail
    refine (works_any _).mono ?_
    rintro e w1 ⟨rfl, hb1⟩
    have hs1 := hb_step hb1 hs0
    obtain ⟨c0, c1, c2, c3, _⟩ := hbS hs1
    clear hb1 hs0
    go_wp2_with fail
    refine (HPUT.out _).mono ?_
    rintro e w2 ⟨rfl, hb2⟩
    have hs2 := hb_step hb2 hs1
    clear c0 c1 c2 c3 hb2 hs1
    have HSF3 : ¬ (9223372036854775807 < S.size + m.size) := by omega
    have HSF4 : S.size + m.size ≤ 9223372036854775807 := by omega
    go_wp2_with fail
    refine (HT.out _).mono ?_
    rintro e w2' ⟨rfl, hb2⟩
    replace hs2 := hb_alloc (.cells #[.int .u64 N, .int .i64 F, .int .i64 P] 27) (hb_step hb2 hs2)
    obtain ⟨c0, c1, c2, c3, _⟩ := hbS hs2
    have hs2d := hb_drew hs2
    clear hb2 hs2 HSF3 HSF4
    go_wp2_with fail
    go_region_held3 (fun W => W.cell? ⟨w.heap.size, 0, none⟩ = some (.int .u64 N) ∧ W.cell? ⟨w.heap.size, 1, none⟩ = some (.int .i64 F) ∧ W.cell? ⟨w.heap.size, 2, none⟩ = some (.int .i64 P) ∧ W.cell? ⟨w.heap.size + 1, 0, none⟩ = some (.int .u64 N) ∧ Hb w (.int .u64 N) (.int .i64 F) (.int .i64 P) (.int .u64 N) (.int .i64 G) (.int .i64 Q) W)
      (first | exact hbS hs2d | exact hbS hs3 | exact hbS hs4)
      (first | (go_at_call 19; (with_reducible refine ((hbin HI).h1 _).mono ?_); rintro e w3 ⟨rfl, hb3⟩; (first | (have hs4 := hb_step hb3 hs3) | (have hs3 := hb_step hb3 hs2d))) | (go_at_call 19; (with_reducible refine ((hbin HI).h2 _).mono ?_); rintro e w3 ⟨rfl, hb3⟩; (first | (have hs4 := hb_step hb3 hs3) | (have hs3 := hb_step hb3 hs2d))))
    go_wp2
    go_ret
    exact ⟨rfl, hs4.2.2⟩
  · have HI := Lib.hid hi
    clear hi hN hM
    have hs0 := hb_new w (.int .u64 N) (.int .i64 F) (.int .i64 P) (.int .u64 M) (.int .i64 G) (.int .i64 Q)
    go_enter Try.func9, Try.ntmps9
    go_wp2_with fail
    refine (works_any _).mono ?_
    rintro e w1 ⟨rfl, hb1⟩
    have hs1 := hb_step hb1 hs0
    obtain ⟨c0, c1, c2, c3, _⟩ := hbS hs1
    clear hb1 hs0
    go_wp2_with fail
    refine (HPUT.out _).mono ?_
    rintro e w2 ⟨rfl, hb2⟩
    have hs2 := hb_step hb2 hs1
    clear c0 c1 c2 c3 hb2 hs1
    have HSF3 : ¬ (9223372036854775807 < S.size + m.size) := by omega
    have HSF4 : S.size + m.size ≤ 9223372036854775807 := by omega
    go_wp2_with fail
    refine (HT.out _).mono ?_
    rintro e w2' ⟨rfl, hb2⟩
    replace hs2 := hb_alloc (.cells #[.int .u64 N, .int .i64 F, .int .i64 P] 27) (hb_step hb2 hs2)
    obtain ⟨c0, c1, c2, c3, _⟩ := hbS hs2
    have hs2d := hb_drew hs2
    clear hb2 hs2 HSF3 HSF4
    go_wp2_with fail
    go_region_held3 (fun W => W.cell? ⟨w.heap.size, 0, none⟩ = some (.int .u64 N) ∧ W.cell? ⟨w.heap.size, 1, none⟩ = some (.int .i64 F) ∧ W.cell? ⟨w.heap.size, 2, none⟩ = some (.int .i64 P) ∧ W.cell? ⟨w.heap.size + 1, 0, none⟩ = some (.int .u64 M) ∧ Hb w (.int .u64 N) (.int .i64 F) (.int .i64 P) (.int .u64 M) (.int .i64 G) (.int .i64 Q) W)
      (first | exact hbS hs2d | exact hbS hs3 | exact hbS hs4)
      (first | (go_at_call 19; (with_reducible refine ((hbin HI).h1 _).mono ?_); rintro e w3 ⟨rfl, hb3⟩; (first | (have hs4 := hb_step hb3 hs3) | (have hs3 := hb_step hb3 hs2d))) | (go_at_call 19; (with_reducible refine ((hbin HI).h2 _).mono ?_); rintro e w3 ⟨rfl, hb3⟩; (first | (have hs4 := hb_step hb3 hs3) | (have hs3 := hb_step hb3 hs2d))))
    go_wp2
    go_ret
    exact ⟨rfl, hs4.2.2⟩
  · have HI := Lib.hid hi
    clear hi hN hM
    have hs0 := hb_new w (.int .u64 N) (.int .i64 F) (.int .i64 P) (.int .u64 M) (.int .i64 G) (.int .i64 Q)
    go_enter Try.func9, Try.ntmps9
    go_wp2_with fail
    refine (works_any _).mono ?_
    rintro e w1 ⟨rfl, hb1⟩
    have hs1 := hb_step hb1 hs0
    obtain ⟨c0, c1, c2, c3, _⟩ := hbS hs1
    clear hb1 hs0
    go_wp2_with fail
    refine (HPUT.out _).mono ?_
    rintro e w2 ⟨rfl, hb2⟩
    have hs2 := hb_step hb2 hs1
    clear c0 c1 c2 c3 hb2 hs1
    have HSF3 : ¬ (9223372036854775807 < S.size + m.size) := by omega
    have HSF4 : S.size + m.size ≤ 9223372036854775807 := by omega
    go_wp2_with fail
    refine (HT.out _).mono ?_
    rintro e w2' ⟨rfl, hb2⟩
    replace hs2 := hb_alloc (.cells #[.int .u64 N, .int .i64 F, .int .i64 P] 27) (hb_step hb2 hs2)
    obtain ⟨c0, c1, c2, c3, _⟩ := hbS hs2
    have hs2d := hb_drew hs2
    clear hb2 hs2 HSF3 HSF4
    go_wp2_with fail
    go_region_held3 (fun W => W.cell? ⟨w.heap.size, 0, none⟩ = some (.int .u64 N) ∧ W.cell? ⟨w.heap.size, 1, none⟩ = some (.int .i64 F) ∧ W.cell? ⟨w.heap.size, 2, none⟩ = some (.int .i64 P) ∧ W.cell? ⟨w.heap.size + 1, 0, none⟩ = some (.int .u64 M) ∧ Hb w (.int .u64 N) (.int .i64 F) (.int .i64 P) (.int .u64 M) (.int .i64 G) (.int .i64 Q) W)
      (first | exact hbS hs2d | exact hbS hs3 | exact hbS hs4)
      (first | (go_at_call 19; (with_reducible refine ((hbin HI).h1 _).mono ?_); rintro e w3 ⟨rfl, hb3⟩; (first | (have hs4 := hb_step hb3 hs3) | (have hs3 := hb_step hb3 hs2d))) | (go_at_call 19; (with_reducible refine ((hbin HI).h2 _).mono ?_); rintro e w3 ⟨rfl, hb3⟩; (first | (have hs4 := hb_step hb3 hs3) | (have hs3 := hb_step hb3 hs2d))))
    go_wp2
    go_ret
    exact ⟨rfl, hs4.2.2⟩
set_option maxRecDepth 100000 in
set_option maxHeartbeats 2000000 in
theorem frameHeadBack_long (N M F P G Q : Int) (m : ByteArray) (w : World) (hm : 8192 < m.size) :
    Calls Try.prog 9 #[.agg #[.int .u64 N, .int .i64 F, .int .i64 P], .agg #[.int .u64 M, .int .i64 G, .int .i64 Q], .string m] w fun e w' => e = .returned (.bool true) ∧ Below w.heap.size w w' := by
  have hs0 := hb_new w (.int .u64 N) (.int .i64 F) (.int .i64 P) (.int .u64 M) (.int .i64 G) (.int .i64 Q)
  go_enter Try.func9, Try.ntmps9
  go_wp2_with fail
  refine (works_any _).mono ?_
  rintro e w1 ⟨rfl, hb1⟩
  have hs1 := hb_step hb1 hs0
  go_wp2
  go_ret
  exact ⟨rfl, hs1.2.2⟩
theorem app_take {A B : ByteArray} : bts (A ++ B) = bts A ++ bts B := bts_app A B
theorem frameHeadBack_walk (a0 b0 c0 a1 b1 c1 : Int) (m : ByteArray) (w0 : (Lit.int .u64 a0).wf = true) (_u0 : (Lit.int .i64 b0).wf = true) (_x0 : (Lit.int .i64 c0).wf = true) (w1 : (Lit.int .u64 a1).wf = true) (_u1 : (Lit.int .i64 b1).wf = true) (_x1 : (Lit.int .i64 c1).wf = true) (_hm : m.size ≤ 140737488351232) (w : World) :
    Calls Try.prog 9 #[.agg #[.int .u64 a0, .int .i64 b0, .int .i64 c0], .agg #[.int .u64 a1, .int .i64 b1, .int .i64 c1], .string m] w fun e w' => e = .returned (.bool true) ∧ Below w.heap.size w w' := by
  have h0 := bounds_u64 w0
  have h1 := bounds_u64 w1
  clear w0 w1
  by_cases hm : 8192 < m.size
  · exact frameHeadBack_long a0 a1 b0 c0 b1 c1 m w hm
  · obtain ⟨N, rfl⟩ := Int.eq_ofNat_of_zero_le h0.1
    obtain ⟨M, rfl⟩ := Int.eq_ofNat_of_zero_le h1.1
    have hN : N < 18446744073709551616 := by omega
    have hM : M < 18446744073709551616 := by omega
    cases h : okIn 256 b0 && okIn 256 c0 with
    | false => exact frameHeadBack_bad N M b0 c0 b1 c1 m w hN hM (by omega) h
    | true =>
      rw [Bool.and_eq_true, okIn_iff, okIn_iff] at h
      obtain ⟨⟨f0, f1⟩, p0, p1⟩ := h
      obtain ⟨F, rfl⟩ := Int.eq_ofNat_of_zero_le f0
      obtain ⟨P, rfl⟩ := Int.eq_ofNat_of_zero_le p0
      refine frameHeadBack_ok N M F P b1 c1 m w hN hM (by omega) (bstr (headL N F P)) (by rw [headL_size]; rfl) (by rw [headL_size]; omega) (Lib.hid fun w => putHead_ok N F P w hN (by omega) (by omega)) (Lib.hid fun w => ?_)
      have ht := takeHead_any (bstr (headL N F P) ++ m) w (by rw [ByteArray.size_append, headL_size]; omega)
      obtain ⟨t1, t2, t3, t4⟩ := th_back (N := N) (F := F) (P := P) (bts m) hN (by omega) (by omega)
      have e : thRet (bts (bstr (headL N F P) ++ m)) = headV N F P 0 := by
        unfold thRet
        rw [bts_app, bts_headL, if_pos t1, t2, t3, t4]
      rw [e] at ht
      exact ht
end Go.Proofs.Ytpgjlpljjbgplaa
