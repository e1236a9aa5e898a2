/- The walk of SumOne. Conditions: the numbers fit their kind. -/
import Derived.Test.YtanllihbeaapiaaProg
import Derived.Test.YtanllihbeaapiaaSum
import Derived.Deep.RegionHeld3
import Derived.Deep.QuietTactic
import Derived.BigQuiet
namespace Go.Proofs.Ytanllihbeaapiaa
open Go.RowKit
def two8 (x y : Nat) : List Nat := fourL x ++ fourL y
theorem wd_four (x : Nat) (L M : List Nat) (hx : x < 4294967296) (i : Nat) (hi : L.length = i) : wd (L ++ fourL x ++ M) i = x := by
  subst hi
  unfold wd fourL
  simp only [List.getD_eq_getElem?_getD, List.append_assoc, List.getElem?_append_right (Nat.le_refl _), List.getElem?_append_right (Nat.le_add_right _ _), Nat.sub_self, Nat.add_sub_cancel_left, List.cons_append, List.nil_append]
  simp
  omega
theorem addL_two (x y : Nat) (p : Int × Int) (hx : x < 4294967296) (hy : y < 4294967296) : addL (two8 x y) p = (addA p.1 p.2 x, addB p.1 p.2 x y) := by
  have h1 := wd_four x [] (fourL y) hx 0 rfl
  have h2 := wd_four y (fourL x) [] hy 4 rfl
  simp only [List.nil_append, List.append_nil] at h1 h2
  have e0 : addL (two8 x y) p = stepA p (two8 x y) 0 := by unfold addL; rw [show (two8 x y).length = 8 from rfl]; rfl
  rw [e0]
  unfold stepA two8
  rw [show 8 * 0 + 4 = 4 from rfl, show 8 * 0 = 0 from rfl, h1, h2]
theorem two8_lt (x y : Nat) : ∀ v ∈ two8 x y, v < 256 := by
  intro v hv
  simp [two8, fourL] at hv
  omega
theorem held2_below {w0 W w' : World} {a b : Int} {g : Nat} {o : Array Value} (hb : Below W.heap.size W w') (h0 : W.cell? ⟨g, 0, none⟩ = some (.int .u32 a)) (h1 : W.cell? ⟨g, 1, none⟩ = some (.int .u32 b)) (hB : Blk W (g + 1) 33 o) (hw : Below w0.heap.size w0 W) :
    w'.cell? ⟨g, 0, none⟩ = some (.int .u32 a) ∧ w'.cell? ⟨g, 1, none⟩ = some (.int .u32 b) ∧ Blk w' (g + 1) 33 o ∧ Below w0.heap.size w0 w' := by
  have hl := hB.lt
  exact ⟨(hb.cell (p := ⟨g, 0, none⟩) (by simp; omega)).trans h0, (hb.cell (p := ⟨g, 1, none⟩) (by simp; omega)).trans h1, hB.below hb hl, hw.trans (hb.mono hw.size)⟩
def Sp (w : World) (a b : Int) (O : Array Value) (w' : World) : Prop :=
  w'.cell? ⟨w.heap.size, 0, none⟩ = some (.int .u32 a) ∧ w'.cell? ⟨w.heap.size, 1, none⟩ = some (.int .u32 b) ∧ Blk w' (w.heap.size + 1) 33 O ∧ Below w.heap.size w w'
theorem sp_alloc {w W : World} {a b : Int} {O : Array Value} (h : Sp w a b O W) (o : Obj) : Sp w a b O (W.alloc o) := by
  have hl := h.2.2.1.lt
  exact ⟨(World.cell?_alloc_lt W o _ (by simp; omega)).trans h.1, (World.cell?_alloc_lt W o _ (by simp; omega)).trans h.2.1, h.2.2.1.alloc o, h.2.2.2.alloc h.2.2.2.size o⟩
theorem sp_set {w W : World} {a b : Int} {O : Array Value} (h : Sp w a b O W) (p : Addr) (v : Value) (hp : w.heap.size + 1 < p.block) : Sp w a b O (W.setCell p v) :=
  ⟨(World.cell?_setCell_other W p _ v (fun e => by subst e; simp at hp; omega)).trans h.1, (World.cell?_setCell_other W p _ v (fun e => by subst e; simp at hp; omega)).trans h.2.1, h.2.2.1.far (by omega) v, h.2.2.2.setCell (by omega) v⟩
theorem sp_below {w W w' : World} {a b : Int} {O : Array Value} (h : Sp w a b O W) (hb : Below W.heap.size W w') : Sp w a b O w' :=
  held2_below hb h.1 h.2.1 h.2.2.1 h.2.2.2
set_option maxRecDepth 100000 in
set_option maxHeartbeats 4000000 in
theorem sumOne_nat (a b : Int) (x y : Nat) (w : World) (hp : Fit (a, b)) (hx : x < 4294967296) (hy : y < 4294967296) :
    Calls Try.prog 9 #[.agg #[.int .u32 a, .int .u32 b], .int .u32 x, .int .u32 y] w fun e w' => e = .returned (.bool true) ∧ Below w.heap.size w w' := by
  go_enter Try.func9, Try.ntmps9
  go_wp2_with fail
  have hal : Try.prog.arrayLen 33 = 8 := by kernel_rfl
  generalize hO : #[Value.int IntKind.u8 (↑x / 16777216), Value.int IntKind.u8 (↑x / 65536 % 256), Value.int IntKind.u8 (↑x / 256 % 256), Value.int IntKind.u8 (↑x % 256), Value.int IntKind.u8 (↑y / 16777216),
          Value.int IntKind.u8 (↑y / 65536 % 256), Value.int IntKind.u8 (↑y / 256 % 256), Value.int IntKind.u8 (↑y % 256)] = O
  have hcv : ∀ w', Blk w' (w.heap.size + 1) 33 O → (convert 34 9 (.slice (some ⟨w.heap.size + 1, 0, none⟩) 8 8)).run Try.prog w' = .ok (.string (bstr (two8 x y))) w' := fun w' hB => by
    have h := run_convert_bytes_arg (P := Try.prog) w' 34 5 Try.underlying34 Try.underlying5 (w.heap.size + 1) 0 8 8 ((two8 x y).map Int.ofNat) rfl (fun i hi => by
        have hc := hB.cell (0 + i)
        rw [hc, ← hO]
        obtain rfl | rfl | rfl | rfl | rfl | rfl | rfl | rfl : i = 0 ∨ i = 1 ∨ i = 2 ∨ i = 3 ∨ i = 4 ∨ i = 5 ∨ i = 6 ∨ i = 7 := by omega
        all_goals (simp [two8, fourL]; try omega)) 9 Try.underlying9
    rw [bstr_nums] at h
    exact h
  have hadd := fun w => add_any a b (bstr (two8 x y)) w hp (by rw [bstr_size]; simp [two8, fourL])
  rw [bts_bstr _ (two8_lt x y), addL_two x y _ hx hy] at hadd
  have HADD := Lib.hid hadd
  clear hadd hO
  have hl0 : w.heap.size < (w.alloc (Obj.cells #[Value.int IntKind.u32 a, Value.int IntKind.u32 b] 24)).heap.size := by simp
  have hB0 := Blk.new (w.alloc (Obj.cells #[Value.int IntKind.u32 a, Value.int IntKind.u32 b] 24)) 33 O
  have hw0 : Below w.heap.size w ((w.alloc (Obj.cells #[Value.int IntKind.u32 a, Value.int IntKind.u32 b] 24)).alloc (.cells O 33)) := ((Below.refl _ _).alloc (Nat.le_refl _) _).alloc (by simp) _
  have hgs : (w.alloc (Obj.cells #[Value.int IntKind.u32 a, Value.int IntKind.u32 b] 24)).heap.size = w.heap.size + 1 := by simp
  rw [hgs] at hB0
  have hB1 := hB0.drew
  have hw1 := hw0.drew
  have hB2 := hB1.alloc (.cells #[.int .u32 0, .int .u32 0] 24)
  have hw2 := hw1.alloc hw1.size (.cells #[.int .u32 0, .int .u32 0] 24)
  go_region_held3 (fun w' => w'.cell? ⟨w.heap.size, 0, none⟩ = some (.int .u32 a) ∧ w'.cell? ⟨w.heap.size, 1, none⟩ = some (.int .u32 b) ∧ Blk w' (w.heap.size + 1) 33 O ∧ Below w.heap.size w w')
    (first | (exact ⟨by go_simp, by go_simp, hB1, hw1⟩) | (exact ⟨by go_simp, by go_simp, hB2, hw2⟩) | exact hS2 | exact sp_alloc hS2 _ | (go_split_ands; exact sp_alloc ⟨by assumption, by assumption, by assumption, by assumption⟩ _) | exact sp_set hS2 _ _ (by first | (simp; done) | (have := hS2.2.2.1.lt; simp; omega)) | exact sp_set (sp_set hS2 _ _ (by first | (simp; done) | (have := hS2.2.2.1.lt; simp; omega))) _ _ (by first | (simp; done) | (have := hS2.2.2.1.lt; simp; omega)))
    (first | (go_at_call 14; (with_reducible refine (HADD.out _).mono ?_); rintro e w2 ⟨rfl, hb2⟩; (have hS2 := sp_below (w := w) (a := a) (b := b) (O := O) (by go_split_ands; exact ⟨by assumption, by assumption, by assumption, by assumption⟩) hb2); (try (have hq0 := (Blk.new _ 24 #[.int .u32 0, .int .u32 0]).drew.below hb2 (by simp); simp at hq0; have r0 := hq0.cell 0; have r1 := hq0.cell 1; have f0 := hq0.frozen 0; have f1 := hq0.frozen 1))))
  all_goals refine ‹∀ (a : Act) (w : World), Code.wp Try.prog _ _ a w → _› _ _ ?_
  · have hq := Blk.new w2 24 #[.int .u32 (addA a b x), .int .u32 (addB a b x y)]
    have hs := sp_alloc hS2 (.cells #[.int .u32 (addA a b x), .int .u32 (addB a b x y)] 24)
    go_split_ands
    clear hb2 hS2
    generalize w2.heap.size = G at *
    generalize (w2.alloc (Obj.cells #[Value.int IntKind.u32 (addA a b ↑x), Value.int IntKind.u32 (addB a b ↑x ↑y)] 24)) = W at *
    clear hw0 hB0 hB1 hB2 hw1 hw2 hcv HADD hl0 hgs
    have hlt : G < W.heap.size := hq.lt
    have c0 : W.cell? ⟨w.heap.size, 0, none⟩ = some (.int .u32 a) := hs.1
    have c1 : W.cell? ⟨w.heap.size, 1, none⟩ = some (.int .u32 b) := hs.2.1
    have q0 : W.cell? ⟨G, 0, none⟩ = some (.int .u32 (addA a b x)) := hq.cell 0
    have q1 : W.cell? ⟨G, 1, none⟩ = some (.int .u32 (addB a b x y)) := hq.cell 1
    have hlw : w.heap.size < W.heap.size := by have := hs.2.2.1.lt; omega
    have hbw : Below w.heap.size w W := hs.2.2.2
    have hbd : Below w.heap.size w W.drew := hbw.drew
    clear hq hs
    have e1 : addA a b x = (a + ↑x + b) % 4294967296 := by unfold addA; omega
    have e2 : addB a b x y = (b + ↑y + (a + ↑x + b)) % 4294967296 := by unfold addB; omega
    rw [e1] at q0
    rw [e2] at q1
    have e3 : (b + ↑y + (a + ↑x + b) % 4294967296) % 4294967296 = (b + ↑y + (a + ↑x + b)) % 4294967296 := by omega
    have e4 : ((b + ↑y + (a + ↑x + b)) % 4294967296 == (b + ↑y + (a + ↑x + b) % 4294967296) % 4294967296) = true := by rw [e3]; simp
    rw [e1, e2]
    clear e1 e2
    go_wp2_with (go_at_call 12; refine (sworks_any _).mono ?_; rintro e w3 ⟨rfl, hb3⟩)
    go_ret
    exact ⟨rfl, hbw.trans (hb3.mono hbw.size)⟩
  · have hq := (hq0.set_ 0 (.int .u32 (addA a b x))).set_ 1 (.int .u32 (addB a b x y))
    have hs := sp_set (sp_set hS2 ⟨w.heap.size + 1 + 1, 0, none⟩ (.int .u32 (addA a b x)) (by simp)) ⟨w.heap.size + 1 + 1, 1, none⟩ (.int .u32 (addB a b x y)) (by simp)
    go_split_ands
    clear hb2 hS2 hq0 r0 r1 f0 f1
    generalize (((w2.setCell { block := w.heap.size + 1 + 1, off := 0 } (Value.int IntKind.u32 (addA a b ↑x))).setCell { block := w.heap.size + 1 + 1, off := 1 } (Value.int IntKind.u32 (addB a b ↑x ↑y)))) = W at *
    generalize w.heap.size + 1 + 1 = G at *
    clear hw0 hB0 hB1 hB2 hw1 hw2 hcv HADD hl0 hgs
    have hlt : G < W.heap.size := hq.lt
    have c0 : W.cell? ⟨w.heap.size, 0, none⟩ = some (.int .u32 a) := hs.1
    have c1 : W.cell? ⟨w.heap.size, 1, none⟩ = some (.int .u32 b) := hs.2.1
    have q0 : W.cell? ⟨G, 0, none⟩ = some (.int .u32 (addA a b x)) := hq.cell 0
    have q1 : W.cell? ⟨G, 1, none⟩ = some (.int .u32 (addB a b x y)) := hq.cell 1
    have hlw : w.heap.size < W.heap.size := by have := hs.2.2.1.lt; omega
    have hbw : Below w.heap.size w W := hs.2.2.2
    have hbd : Below w.heap.size w W.drew := hbw.drew
    clear hq hs
    have e1 : addA a b x = (a + ↑x + b) % 4294967296 := by unfold addA; omega
    have e2 : addB a b x y = (b + ↑y + (a + ↑x + b)) % 4294967296 := by unfold addB; omega
    rw [e1] at q0
    rw [e2] at q1
    have e3 : (b + ↑y + (a + ↑x + b) % 4294967296) % 4294967296 = (b + ↑y + (a + ↑x + b)) % 4294967296 := by omega
    have e4 : ((b + ↑y + (a + ↑x + b)) % 4294967296 == (b + ↑y + (a + ↑x + b) % 4294967296) % 4294967296) = true := by rw [e3]; simp
    rw [e1, e2]
    clear e1 e2
    go_wp2_with (go_at_call 12; refine (sworks_any _).mono ?_; rintro e w3 ⟨rfl, hb3⟩)
    go_ret
    exact ⟨rfl, hbw.trans (hb3.mono hbw.size)⟩
theorem sumOne_walk (a0 b0 a1 a2 : Int) (w0 : (Lit.int .u32 a0).wf = true) (u0 : (Lit.int .u32 b0).wf = true) (w1 : (Lit.int .u32 a1).wf = true) (w2 : (Lit.int .u32 a2).wf = true) (w : World) :
    Calls Try.prog 9 #[.agg #[.int .u32 a0, .int .u32 b0], .int .u32 a1, .int .u32 a2] w fun e w' => e = .returned (.bool true) ∧ Below w.heap.size w w' := by
  have h1 := bounds_u32 w1
  have h2 := bounds_u32 w2
  obtain ⟨x, rfl⟩ := Int.eq_ofNat_of_zero_le h1.1
  obtain ⟨y, rfl⟩ := Int.eq_ofNat_of_zero_le h2.1
  exact sumOne_nat a0 b0 x y w (fit_wf w0 u0) (by omega) (by omega)
end Go.Proofs.Ytanllihbeaapiaa
