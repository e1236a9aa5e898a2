/- The walk of EvalLogic. Conditions: both values are null or integers. -/
import Derived.Test.YtkgpcodccpckeaaEv14
import Derived.Test.YtkgpcodccpckeaaBs
import Derived.Test.YtkgpcodccpckeaaFacts
import Derived.Deep.CutBlock
import Derived.OrdersHeld
import Derived.Deep.RegionHeld3
namespace Go.Proofs.Ytkgpcodccpckeaa
open Go.RowKit Go
set_option linter.unusedVariables false
set_option linter.unusedSimpArgs false
/-- what stands at the start of the first region: both boxes -/
abbrev lb2 (g : Nat) (a b : Val) : BL := [(g, 23, valC a), (g + 1, 23, valC b)]
/-- what stands ahead of the great test: the answer, both expressions -/
abbrev lb3 (gv gx gy : Nat) (v a b : Val) : BL := [(gv, 23, valC v), (gx, 29, exC (leafX a)), (gy, 29, exC (leafX b))]
abbrev lbxy (gx gy : Nat) (a b : Val) : BL := [(gx, 29, exC (leafX a)), (gy, 29, exC (leafX b))]
def Sab (g : Nat) (p q p' q' : Int) (s s' : ByteArray) (W : World) : Prop := W.cell? ⟨g, 0, none⟩ = some (.int .u8 p) ∧ W.cell? ⟨g, 1, none⟩ = some (.int .i64 q) ∧ W.cell? ⟨g, 2, none⟩ = some (.string s) ∧ W.cell? ⟨g + 1, 0, none⟩ = some (.int .u8 p') ∧ W.cell? ⟨g + 1, 1, none⟩ = some (.int .i64 q') ∧ W.cell? ⟨g + 1, 2, none⟩ = some (.string s')
theorem ab_S {w W : World} {g : Nat} {p q p' q' : Int} {s s' : ByteArray} {L : BL} (h : Bs w (lb2 g (p, q, s) (p', q', s')) L W) : W.cell? ⟨g, 0, none⟩ = some (.int .u8 p) ∧ W.cell? ⟨g, 1, none⟩ = some (.int .i64 q) ∧ W.cell? ⟨g, 2, none⟩ = some (.string s) ∧ W.cell? ⟨g + 1, 0, none⟩ = some (.int .u8 p') ∧ W.cell? ⟨g + 1, 1, none⟩ = some (.int .i64 q') ∧ W.cell? ⟨g + 1, 2, none⟩ = some (.string s') := by
  have h1 := bs_base h (.head _)
  have h2 := bs_base h (.tail _ (.head _))
  exact ⟨h1.cell 0, h1.cell 1, h1.cell 2, h2.cell 0, h2.cell 1, h2.cell 2⟩
theorem ab_far {w W : World} {B L : BL} {g : Nat} (h : Bs w B L W) (hB : ∀ x ∈ B, x.1 < g) (hw : w.heap.size ≤ g) (x0 x1 x2 x3 x4 x5 x6 x7 : Value) : Bs w B [] ((((((((W.setCell ⟨g, 0, none⟩ x0).setCell ⟨g, 1, none⟩ x1).setCell ⟨g, 2, none⟩ x2).setCell ⟨g, 3, none⟩ x3).setCell ⟨g, 4, none⟩ x4).setCell ⟨g, 5, none⟩ x5).setCell ⟨g, 6, none⟩ x6).setCell ⟨g, 7, none⟩ x7) :=
  ⟨fun x hx => far8 (h.1 x hx) (by have := hB x hx; omega) _ _ _ _ _ _ _ _, (fun x hx => by cases hx), below8 h.2.2 hw _ _ _ _ _ _ _ _⟩
theorem lg_S {w W : World} {gv gx gy : Nat} {v1 v2 p q p' q' : Int} {v3 s s' : ByteArray} {L : BL} (h : Bs w (lb3 gv gx gy (v1, v2, v3) (p, q, s) (p', q', s')) L W) :
    W.cell? ⟨gv, 0, none⟩ = some (.int .u8 v1) ∧ W.cell? ⟨gv, 1, none⟩ = some (.int .i64 v2) ∧ W.cell? ⟨gv, 2, none⟩ = some (.string v3) ∧ W.cell? ⟨gx, 0, none⟩ = some (.int .u8 1) ∧ W.cell? ⟨gx, 1, none⟩ = some (.int .u8 p) ∧ W.cell? ⟨gx, 2, none⟩ = some (.int .i64 q) ∧ W.cell? ⟨gx, 3, none⟩ = some (.string s) ∧ W.cell? ⟨gx, 4, none⟩ = some (.string ⟨#[]⟩) ∧ W.cell? ⟨gx, 5, none⟩ = some (.string ⟨#[]⟩) ∧ W.cell? ⟨gx, 6, none⟩ = some (.int .i64 0) ∧ W.cell? ⟨gx, 7, none⟩ = some (.slice none 0 0) ∧ W.cell? ⟨gy, 0, none⟩ = some (.int .u8 1) ∧ W.cell? ⟨gy, 1, none⟩ = some (.int .u8 p') ∧ W.cell? ⟨gy, 2, none⟩ = some (.int .i64 q') ∧ W.cell? ⟨gy, 3, none⟩ = some (.string s') ∧ W.cell? ⟨gy, 4, none⟩ = some (.string ⟨#[]⟩) ∧ W.cell? ⟨gy, 5, none⟩ = some (.string ⟨#[]⟩) ∧ W.cell? ⟨gy, 6, none⟩ = some (.int .i64 0) ∧ W.cell? ⟨gy, 7, none⟩ = some (.slice none 0 0) := by
  have h1 := bs_base h (.head _)
  have h2 := bs_base h (.tail _ (.head _))
  have h3 := bs_base h (.tail _ (.tail _ (.head _)))
  exact ⟨h1.cell 0, h1.cell 1, h1.cell 2, h2.cell 0, h2.cell 1, h2.cell 2, h2.cell 3, h2.cell 4, h2.cell 5, h2.cell 6, h2.cell 7, h3.cell 0, h3.cell 1, h3.cell 2, h3.cell 3, h3.cell 4, h3.cell 5, h3.cell 6, h3.cell 7⟩
theorem froz8 {W : World} {g : Nat} {t : TypeId} {a b c d e f k l : Value} (h : Blk W g t #[a, b, c, d, e, f, k, l]) : W.frozen? ⟨g, 0, none⟩ = false ∧ W.frozen? ⟨g, 1, none⟩ = false ∧ W.frozen? ⟨g, 2, none⟩ = false ∧ W.frozen? ⟨g, 3, none⟩ = false ∧ W.frozen? ⟨g, 4, none⟩ = false ∧ W.frozen? ⟨g, 5, none⟩ = false ∧ W.frozen? ⟨g, 6, none⟩ = false ∧ W.frozen? ⟨g, 7, none⟩ = false :=
  ⟨h.frozen 0, h.frozen 1, h.frozen 2, h.frozen 3, h.frozen 4, h.frozen 5, h.frozen 6, h.frozen 7⟩
def D5 : Nat → List Nat
  | 1 => [0]
  | 3 => [2]
  | _ => []
def F5 (w : World) (p q p' q' : Int) : Nat → Value → World → Prop
  | 0, v, _ => v = .agg #[.int .u8 p, .int .i64 q, .string ⟨#[]⟩]
  | 1, v, _ => v = .agg #[.int .u8 1, .int .u8 p, .int .i64 q, .string ⟨#[]⟩, .string ⟨#[]⟩, .string ⟨#[]⟩, .int .i64 0, .slice none 0 0]
  | 2, v, _ => v = .agg #[.int .u8 p', .int .i64 q', .string ⟨#[]⟩]
  | 3, v, _ => v = .agg #[.int .u8 1, .int .u8 p', .int .i64 q', .string ⟨#[]⟩, .string ⟨#[]⟩, .string ⟨#[]⟩, .int .i64 0, .slice none 0 0]
  | 4, v, W => ∃ g, v = .pointer (some ⟨g, 0, none⟩) ∧ Blk W g 29 #[.int .u8 0, .int .u8 0, .int .i64 0, .string ⟨#[]⟩, .string ⟨#[]⟩, .string ⟨#[]⟩, .int .i64 0, .slice none 0 0] ∧ w.heap.size ≤ g
  | 5, v, W => ∃ g, v = .pointer (some ⟨g, 0, none⟩) ∧ Blk W g 29 #[.int .u8 0, .int .u8 0, .int .i64 0, .string ⟨#[]⟩, .string ⟨#[]⟩, .string ⟨#[]⟩, .int .i64 0, .slice none 0 0] ∧ w.heap.size ≤ g
  | _, _, _ => True
theorem f5_step (w : World) (p q p' q' : Int) : ∀ i v W W', F5 w p q p' q' i v W → Below W.heap.size W W' → F5 w p q p' q' i v W' := by
  intro i v W W' h hb
  rcases i with _ | _ | _ | _ | _ | _ | i
  · exact h
  · exact h
  · exact h
  · exact h
  · obtain ⟨g, h1, h2, h3⟩ := h
    exact ⟨g, h1, blk_step h2 hb, h3⟩
  · obtain ⟨g, h1, h2, h3⟩ := h
    exact ⟨g, h1, blk_step h2 hb, h3⟩
  · exact h
theorem f5_new (w : World) (p q p' q' : Int) : ∀ i ∈ [4, 5], ∀ v W, F5 w p q p' q' i v W → blkOf v < W.heap.size := by
  intro i hi v W h
  simp only [List.mem_cons, List.not_mem_nil, or_false] at hi
  rcases hi with rfl | rfl
  · obtain ⟨g, rfl, h2, _⟩ := h
    exact h2.lt
  · obtain ⟨g, rfl, h2, _⟩ := h
    exact h2.lt
def D11 : Nat → List Nat
  | 1 => [0]
  | 2 => [1]
  | 3 => [2]
  | 4 => [2]
  | 5 => [2, 3, 4]
  | 6 => [2]
  | 7 => [2]
  | 8 => [2, 7]
  | 9 => [2, 8]
  | 10 => [2]
  | 11 => [2, 10]
  | 12 => [2, 11]
  | 13 => [2, 9, 12]
  | 14 => [2, 6, 13]
  | 15 => [2, 14]
  | 16 => [2, 15]
  | 17 => [2, 15]
  | 18 => [2, 5, 16, 17]
  | 19 => [2, 18]
  | 20 => [2, 19]
  | 21 => [20]
  | 22 => [21]
  | 23 => [21]
  | 24 => [21, 22, 23]
  | 25 => [21]
  | 26 => [21]
  | 27 => [21]
  | 28 => [21, 26, 27]
  | 29 => [21, 25, 28]
  | 30 => [21, 29]
  | 31 => [21, 30]
  | 32 => [21, 31]
  | 33 => [21, 32]
  | 34 => [21, 32]
  | 35 => [21, 24, 33, 34]
  | 36 => [21, 35]
  | 37 => [21, 36]
  | _ => []
def mk11 (op v1 v2 p q p' q' : Int) (v3 : ByteArray) : Nat → Nat → Nat → Nat → Value
  | 0, k, k1, k2 => .int .i64 0
  | 1, k, k1, k2 => .bool false
  | 2, k, k1, k2 => .bool false
  | 3, k, k1, k2 => .agg #[.int .u8 v1, .int .i64 v2, .string v3]
  | 4, k, k1, k2 => .int .i64 0
  | 5, k, k1, k2 => .func (.func 32) #[] #[.pointer (some ⟨k, 0, none⟩), .pointer (some ⟨k1, 0, none⟩)]
  | 6, k, k1, k2 => .int .u8 (37 - op)
  | 7, k, k1, k2 => .agg #[.int .u8 1, .int .u8 p, .int .i64 q, .string ⟨#[]⟩, .string ⟨#[]⟩, .string ⟨#[]⟩, .int .i64 0, .slice none 0 0]
  | 8, k, k1, k2 => .slice (some ⟨k, 0, none⟩) 1 1
  | 9, k, k1, k2 => .agg #[.int .u8 4, .int .u8 0, .int .i64 0, .string ⟨#[]⟩, .string ⟨#[]⟩, .string ⟨#[]⟩, .int .i64 0, .slice (some ⟨k, 0, none⟩) 1 1]
  | 10, k, k1, k2 => .agg #[.int .u8 1, .int .u8 p', .int .i64 q', .string ⟨#[]⟩, .string ⟨#[]⟩, .string ⟨#[]⟩, .int .i64 0, .slice none 0 0]
  | 11, k, k1, k2 => .slice (some ⟨k, 0, none⟩) 1 1
  | 12, k, k1, k2 => .agg #[.int .u8 4, .int .u8 0, .int .i64 0, .string ⟨#[]⟩, .string ⟨#[]⟩, .string ⟨#[]⟩, .int .i64 0, .slice (some ⟨k, 0, none⟩) 1 1]
  | 13, k, k1, k2 => .slice (some ⟨k, 0, none⟩) 2 2
  | 14, k, k1, k2 => .agg #[.int .u8 (37 - op), .int .u8 0, .int .i64 0, .string ⟨#[]⟩, .string ⟨#[]⟩, .string ⟨#[]⟩, .int .i64 0, .slice (some ⟨k, 0, none⟩) 2 2]
  | 15, k, k1, k2 => .tuple #[.agg #[.int .u8 v1, .int .i64 v2, .string v3], .int .i64 0]
  | 16, k, k1, k2 => .agg #[.int .u8 v1, .int .i64 v2, .string v3]
  | 17, k, k1, k2 => .int .i64 0
  | 18, k, k1, k2 => .bool true
  | 19, k, k1, k2 => .bool false
  | 20, k, k1, k2 => .bool false
  | 21, k, k1, k2 => .bool false
  | 22, k, k1, k2 => .agg #[.int .u8 v1, .int .i64 v2, .string v3]
  | 23, k, k1, k2 => .int .i64 0
  | 24, k, k1, k2 => .func (.func 32) #[] #[.pointer (some ⟨k, 0, none⟩), .pointer (some ⟨k1, 0, none⟩)]
  | 25, k, k1, k2 => .int .u8 op
  | 26, k, k1, k2 => .agg #[.int .u8 1, .int .u8 p', .int .i64 q', .string ⟨#[]⟩, .string ⟨#[]⟩, .string ⟨#[]⟩, .int .i64 0, .slice none 0 0]
  | 27, k, k1, k2 => .agg #[.int .u8 1, .int .u8 p, .int .i64 q, .string ⟨#[]⟩, .string ⟨#[]⟩, .string ⟨#[]⟩, .int .i64 0, .slice none 0 0]
  | 28, k, k1, k2 => .slice (some ⟨k, 0, none⟩) 2 2
  | 29, k, k1, k2 => .agg #[.int .u8 op, .int .u8 0, .int .i64 0, .string ⟨#[]⟩, .string ⟨#[]⟩, .string ⟨#[]⟩, .int .i64 0, .slice (some ⟨k, 0, none⟩) 2 2]
  | 30, k, k1, k2 => .slice (some ⟨k, 0, none⟩) 1 1
  | 31, k, k1, k2 => .agg #[.int .u8 4, .int .u8 0, .int .i64 0, .string ⟨#[]⟩, .string ⟨#[]⟩, .string ⟨#[]⟩, .int .i64 0, .slice (some ⟨k, 0, none⟩) 1 1]
  | 32, k, k1, k2 => .tuple #[.agg #[.int .u8 v1, .int .i64 v2, .string v3], .int .i64 0]
  | 33, k, k1, k2 => .agg #[.int .u8 v1, .int .i64 v2, .string v3]
  | 34, k, k1, k2 => .int .i64 0
  | 35, k, k1, k2 => .bool true
  | 36, k, k1, k2 => .bool false
  | 37, k, k1, k2 => .bool false
  | _, _, _, _ => .bool false
def bl11 (op v1 v2 p q p' q' : Int) (v3 : ByteArray) : Nat → Nat → Nat → Nat → BL
  | 5, k, k1, k2 => [(k, 23, valC (v1, v2, v3)), (k1, 24, #[.int .i64 0])]
  | 8, k, k1, k2 => [(k, 29, exC (leafX (p, q, ⟨#[]⟩)))]
  | 9, k, k1, k2 => [(k, 29, exC (leafX (p, q, ⟨#[]⟩)))]
  | 11, k, k1, k2 => [(k, 29, exC (leafX (p', q', ⟨#[]⟩)))]
  | 12, k, k1, k2 => [(k, 29, exC (leafX (p', q', ⟨#[]⟩)))]
  | 13, k, k1, k2 => [(k, 29, exC2 (nodeX 4 (some ⟨k1, 0, none⟩) 1 1) (nodeX 4 (some ⟨k2, 0, none⟩) 1 1)), (k1, 29, exC (leafX (p, q, ⟨#[]⟩))), (k2, 29, exC (leafX (p', q', ⟨#[]⟩)))]
  | 14, k, k1, k2 => [(k, 29, exC2 (nodeX 4 (some ⟨k1, 0, none⟩) 1 1) (nodeX 4 (some ⟨k2, 0, none⟩) 1 1)), (k1, 29, exC (leafX (p, q, ⟨#[]⟩))), (k2, 29, exC (leafX (p', q', ⟨#[]⟩)))]
  | 24, k, k1, k2 => [(k, 23, valC (v1, v2, v3)), (k1, 24, #[.int .i64 0])]
  | 28, k, k1, k2 => [(k, 29, exC2 (leafX (p', q', ⟨#[]⟩)) (leafX (p, q, ⟨#[]⟩)))]
  | 29, k, k1, k2 => [(k, 29, exC2 (leafX (p', q', ⟨#[]⟩)) (leafX (p, q, ⟨#[]⟩)))]
  | 30, k, k1, k2 => [(k, 29, exC (nodeX op (some ⟨k1, 0, none⟩) 2 2)), (k1, 29, exC2 (leafX (p', q', ⟨#[]⟩)) (leafX (p, q, ⟨#[]⟩)))]
  | 31, k, k1, k2 => [(k, 29, exC (nodeX op (some ⟨k1, 0, none⟩) 2 2)), (k1, 29, exC2 (leafX (p', q', ⟨#[]⟩)) (leafX (p, q, ⟨#[]⟩)))]
  | _, _, _, _ => []
set_option maxRecDepth 100000 in
set_option maxHeartbeats 8000000 in
theorem log_main (p q p' q' : Int) (w : World) (ha : Bz (p, q, ⟨#[]⟩)) (hb : Bz (p', q', ⟨#[]⟩)) (fa : Fits (p, q, ⟨#[]⟩)) (fb : Fits (p', q', ⟨#[]⟩)) (ca : chk (p, q, ⟨#[]⟩) = 0) (cb : chk (p', q', ⟨#[]⟩) = 0) :
    Calls Try.prog 8 #[.agg #[.int .u8 p, .int .i64 q, .string ⟨#[]⟩], .agg #[.int .u8 p', .int .i64 q', .string ⟨#[]⟩]] w fun e w' => e = .returned (.bool true) ∧ Below w.heap.size w w' := by
  have HA := Lib.hid ha
  have HB := Lib.hid hb
  have HLA := Lib.hid (fun W => okx_leaf (p, q, ⟨#[]⟩) W fa ca)
  have HLB := Lib.hid (fun W => okx_leaf (p', q', ⟨#[]⟩) W fb cb)
  have hs0 : Bs w (lb2 w.heap.size (p, q, ⟨#[]⟩) (p', q', ⟨#[]⟩)) [] ((w.alloc (.cells (valC (p, q, ⟨#[]⟩)) 23)).alloc (.cells (valC (p', q', ⟨#[]⟩)) 23)) :=
    bs_two ((Blk.new _ _ _).alloc _) (blk_new _ _ _ _ (by simp)) (bj bs_one bs_one)
  have HS0 := Lib.hid hs0
  clear ha hb fa fb ca cb hs0
  go_enter Try.func8, Try.ntmps8
  go_wp2_with fail
  refine (works15 _).mono ?_
  rintro e w2 ⟨rfl, hb2⟩
  have hs2 := bs_below HS0.out hb2
  obtain ⟨ca0, ca1, ca2, cb0, cb1, cb2⟩ := ab_S hs2
  have HS2 := Lib.hid hs2
  clear hs2 HS0 hb2
  go_upto_region 3 with fail
  go_cut [51] (fun s51 wx => s51 = .bool false ∧ wx = w2)
  case first =>
    rcases HA.out with h1 | ⟨q1, h1⟩
    · obtain ⟨rfl, rfl⟩ : p = 0 ∧ q = 0 := by simp only [Prod.mk.injEq, and_true] at h1; exact h1
      rcases HB.out with h2 | ⟨q2, h2⟩
      · obtain ⟨rfl, rfl⟩ : p' = 0 ∧ q' = 0 := by simp only [Prod.mk.injEq, and_true] at h2; exact h2
        clear h1 h2
        go_wp2_with fail
        go_meet
        exact ⟨rfl, rfl⟩
      · obtain rfl : p' = 1 := by simp only [Prod.mk.injEq] at h2; exact h2.1
        clear h1 h2
        go_wp2_with fail
        go_meet
        exact ⟨rfl, rfl⟩
    · obtain rfl : p = 1 := by simp only [Prod.mk.injEq] at h1; exact h1.1
      rcases HB.out with h2 | ⟨q2, h2⟩
      · obtain ⟨rfl, rfl⟩ : p' = 0 ∧ q' = 0 := by simp only [Prod.mk.injEq, and_true] at h2; exact h2
        clear h1 h2
        go_wp2_with fail
        go_meet
        exact ⟨rfl, rfl⟩
      · obtain rfl : p' = 1 := by simp only [Prod.mk.injEq] at h2; exact h2.1
        clear h1 h2
        go_wp2_with fail
        go_meet
        exact ⟨rfl, rfl⟩
  case rest =>
    obtain ⟨rfl, rfl⟩ := hcut
    clear ca0 ca1 ca2 cb0 cb1 cb2
    go_upto_region 5 with fail
    have HS2 := Lib.hid (bs_drew HS2.out)
    refine wp_region_noPanic ?_
    refine wp_region_any (by kernel_rfl) ?_
    refine facts_start [0, 1, 2, 3, 4, 5] [4, 5] D5 (F5 w p q p' q') _ _ _ 2 _ #[true, true, true, true, true, true, false, false] (by kernel_rfl) (by rfl) (f5_step w p q p' q') (f5_new w p q p' q') ?hstep ?hend
    case hstep =>
      intro i hi x W hd hb K hK
      have hs := bs_below HS2.out hb
      obtain ⟨ca0, ca1, ca2, cb0, cb1, cb2⟩ := ab_S hs
      simp only [List.mem_cons, List.not_mem_nil, or_false] at hi
      rcases hi with rfl | rfl | rfl | rfl | rfl | rfl
      all_goals generalize hA : putsA _ _ x [0, 1, 2, 3, 4, 5] = A at *
      · have e2 : A.tmps[2]? = some (.pointer (some ⟨w.heap.size, 0, none⟩)) := by rw [← hA]; exact putsA_at 2 _ (by decide +kernel)
        clear hA
        refine wpOp_step rfl (fun K' hK' => ?_)
        go_simp
        exact hK' _ _ (hK _ _ rfl (Below.refl _ _) (fun h => by simp at h))
      · have e52 : A.tmps[52]? = some (x 0) := by rw [← hA]; exact putsA_in (i := 0) 52 (by rfl) (by show (52 : Nat) < 112; decide) _ (by decide +kernel) (by decide)
        have f0 : x 0 = _ := hd 0 (by decide)
        rw [f0] at e52
        clear hA f0
        refine wpOp_step rfl (fun K' hK' => ?_)
        go_simp
        refine (with_any (p, q, ⟨#[]⟩) _).mono ?_
        rintro e w4 ⟨rfl, hb4⟩
        exact hK' _ _ (hK _ _ rfl hb4 (fun h => by simp at h))
      · have e2 : A.tmps[3]? = some (.pointer (some ⟨w.heap.size + 1, 0, none⟩)) := by rw [← hA]; exact putsA_at 3 _ (by decide +kernel)
        clear hA
        refine wpOp_step rfl (fun K' hK' => ?_)
        go_simp
        exact hK' _ _ (hK _ _ rfl (Below.refl _ _) (fun h => by simp at h))
      · have e52 : A.tmps[54]? = some (x 2) := by rw [← hA]; exact putsA_in (i := 2) 54 (by rfl) (by show (54 : Nat) < 112; decide) _ (by decide +kernel) (by decide)
        have f0 : x 2 = _ := hd 2 (by decide)
        rw [f0] at e52
        clear hA f0
        refine wpOp_step rfl (fun K' hK' => ?_)
        go_simp
        refine (with_any (p', q', ⟨#[]⟩) _).mono ?_
        rintro e w4 ⟨rfl, hb4⟩
        exact hK' _ _ (hK _ _ rfl hb4 (fun h => by simp at h))
      · refine wpOp_step rfl (fun K' hK' => ?_)
        go_simp
        exact hK' _ _ (hK _ _ ⟨_, rfl, Blk.new _ _ _, hs.2.2.size⟩ (by exact bs_one) (fun h => Nat.le_refl _))
      · refine wpOp_step rfl (fun K' hK' => ?_)
        go_simp
        exact hK' _ _ (hK _ _ ⟨_, rfl, Blk.new _ _ _, hs.2.2.size⟩ (by exact bs_one) (fun h => Nat.le_refl _))
    case hend =>
      intro x W hf hg hb
      have hs := bs_below HS2.out hb
      have h1 : x 1 = _ := hf 1 (by decide)
      have h3 : x 3 = _ := hf 3 (by decide)
      obtain ⟨g4, h4, k4, b4⟩ : ∃ g, x 4 = .pointer (some ⟨g, 0, none⟩) ∧ Blk W g 29 #[.int .u8 0, .int .u8 0, .int .i64 0, .string ⟨#[]⟩, .string ⟨#[]⟩, .string ⟨#[]⟩, .int .i64 0, .slice none 0 0] ∧ w.heap.size ≤ g := hf 4 (by decide)
      obtain ⟨g5, h5, k5, b5⟩ : ∃ g, x 5 = .pointer (some ⟨g, 0, none⟩) ∧ Blk W g 29 #[.int .u8 0, .int .u8 0, .int .i64 0, .string ⟨#[]⟩, .string ⟨#[]⟩, .string ⟨#[]⟩, .int .i64 0, .slice none 0 0] ∧ w.heap.size ≤ g := hf 5 (by decide)
      have hne : g4 ≠ g5 := by
        have h := hg 4 (by decide) (by decide) 5 (by decide) (by decide) (by decide)
        rw [h4, h5] at h
        exact h
      simp only [putsA]
      change wpAny _ _ _ _ _ _ ((((((Act.put _ (some 6) (x 5)).put (some 5) (x 4)).put (some 55) (x 3)).put (some 54) (x 2)).put (some 53) (x 1)).put (some 52) (x 0)) _
      rw [h1, h3, h4, h5]
      simp only [Act.put, List.setIfInBounds_toArray, List.set_cons_zero, List.set_cons_succ]
      generalize x 0 = y0
      generalize x 2 = y2
      have HNE := Lib.hid hne
      have HS := Lib.hid hs
      have HK5 := Lib.hid (And.intro b4 (And.intro b5 k5))
      clear hf hg h1 h3 h4 h5 hne hs hb b4 b5 k5 HS2 x
      obtain ⟨z0, z1, z2, z3, z4, z5, z6, z7⟩ := cell8_all k4
      obtain ⟨f0, f1, f2, f3, f4, f5, f6, f7⟩ := froz8 k4
      have HK4 := Lib.hid k4
      clear k4
      refine wpAny_ready (rs := [6]) (by kernel_rfl) (by simp) ?_
      refine AllReady.cons rfl (fun K hK => ?_) AllReady.nil
      go_simp
      refine hK _ _ ?_
      clear hK K z0 z1 z2 z3 z4 z5 z6 z7 f0 f1 f2 f3 f4 f5 f6 f7
      have HB4 := Lib.hid (set8 HK4.out (.int .u8 1) (.int .u8 p) (.int .i64 q) (.string ⟨#[]⟩) (.string ⟨#[]⟩) (.string ⟨#[]⟩) (.int .i64 0) (.slice none 0 0))
      have k5 := far8 HK5.out.2.2 (fun e => HNE.out e.symm) (.int .u8 1) (.int .u8 p) (.int .i64 q) (.string ⟨#[]⟩) (.string ⟨#[]⟩) (.string ⟨#[]⟩) (.int .i64 0) (.slice none 0 0)
      have HBL := Lib.hid (below8 HS.out.2.2 HK5.out.1 (.int .u8 1) (.int .u8 p) (.int .i64 q) (.string ⟨#[]⟩) (.string ⟨#[]⟩) (.string ⟨#[]⟩) (.int .i64 0) (.slice none 0 0))
      generalize hW2 : ((((((((W.setCell ⟨g4, 0, none⟩ (.int .u8 1)).setCell ⟨g4, 1, none⟩ (.int .u8 p)).setCell ⟨g4, 2, none⟩ (.int .i64 q)).setCell ⟨g4, 3, none⟩ (.string ⟨#[]⟩)).setCell ⟨g4, 4, none⟩ (.string ⟨#[]⟩)).setCell ⟨g4, 5, none⟩ (.string ⟨#[]⟩)).setCell ⟨g4, 6, none⟩ (.int .i64 0)).setCell ⟨g4, 7, none⟩ (.slice none 0 0)) = W2 at *
      clear hW2 HS HK4
      obtain ⟨z0, z1, z2, z3, z4, z5, z6, z7⟩ := cell8_all k5
      obtain ⟨f0, f1, f2, f3, f4, f5, f6, f7⟩ := froz8 k5
      have HK5' := Lib.hid k5
      clear k5
      refine wpAny_ready (rs := [7]) (by kernel_rfl) (by simp) ?_
      refine AllReady.cons rfl (fun K hK => ?_) AllReady.nil
      go_simp
      refine hK _ _ ?_
      clear hK K z0 z1 z2 z3 z4 z5 z6 z7 f0 f1 f2 f3 f4 f5 f6 f7
      have hs : Bs w (lbxy g4 g5 (p, q, ⟨#[]⟩) (p', q', ⟨#[]⟩)) [] _ := bs_two (far8 HB4.out HNE.out (.int .u8 1) (.int .u8 p') (.int .i64 q') (.string ⟨#[]⟩) (.string ⟨#[]⟩) (.string ⟨#[]⟩) (.int .i64 0) (.slice none 0 0)) (set8 HK5'.out (.int .u8 1) (.int .u8 p') (.int .i64 q') (.string ⟨#[]⟩) (.string ⟨#[]⟩) (.string ⟨#[]⟩) (.int .i64 0) (.slice none 0 0)) (below8 HBL.out HK5.out.2.1 _ _ _ _ _ _ _ _)
      have HS := Lib.hid hs
      generalize hW3 : ((((((((W2.setCell ⟨g5, 0, none⟩ (.int .u8 1)).setCell ⟨g5, 1, none⟩ (.int .u8 p')).setCell ⟨g5, 2, none⟩ (.int .i64 q')).setCell ⟨g5, 3, none⟩ (.string ⟨#[]⟩)).setCell ⟨g5, 4, none⟩ (.string ⟨#[]⟩)).setCell ⟨g5, 5, none⟩ (.string ⟨#[]⟩)).setCell ⟨g5, 6, none⟩ (.int .i64 0)).setCell ⟨g5, 7, none⟩ (.slice none 0 0)) = W3 at *
      clear hW3 hs HB4 HK5 HK5' HBL HNE
      refine wpAny_done (by kernel_rfl) ?_ _
      refine NoPanic.normal ?_
      go_wp2_with fail
      clear HS2
      go_loopw [57] (fun i wr => ∃ k : Nat, k ≤ 2 ∧ i = .int .i64 k ∧ Bs w (lbxy g4 g5 (p, q, ⟨#[]⟩) (p', q', ⟨#[]⟩)) [] wr) (fun i _ => 2 - (intOf i).toNat)
      case atStart => exact ⟨0, by omega, rfl, HS.out⟩
      case round =>
        obtain ⟨k, hk, rfl, hs⟩ := hrel
        have HSR := Lib.hid hs
        clear hs HS
        by_cases hk2 : k = 2
        · subst hk2
          go_wp2
          go_ret
          exact ⟨rfl, HSR.out.2.2⟩
        · have hk01 : k = 0 ∨ k = 1 := by omega
          have hkI : (k : Int) < 2 := by omega
          go_upto_region 8 with fail
          go_cut [8] (fun s8 wx => ∃ op : Int, (op = 18 ∨ op = 19) ∧ s8 = .int .u8 op ∧ wx = wr)
          case first =>
            clear hk hkI hk2
            have i0 : ∀ w, (Instr.index 53 (.agg #[.int .u8 18, .int .u8 19]) (.int .i64 0)).run Try.prog w = .ok (.int .u8 18) w := fun _ => by kernel_rfl
            have i1 : ∀ w, (Instr.index 53 (.agg #[.int .u8 18, .int .u8 19]) (.int .i64 1)).run Try.prog w = .ok (.int .u8 19) w := fun _ => by kernel_rfl
            rcases hk01 with rfl | rfl
            · go_wp2_with fail
              go_meet
              exact ⟨18, .inl rfl, rfl, rfl⟩
            · go_wp2_with fail
              go_meet
              exact ⟨19, .inr rfl, rfl, rfl⟩
          case rest =>
            obtain ⟨op, ho, rfl, rfl⟩ := hcut
            have HO := Lib.hid ho
            have HK := Lib.hid (And.intro hk hk2)
            obtain ⟨c0, c1, c2, c3, c4, c5, c6, c7⟩ := cell8_all (bs_base HSR.out (.head _))
            obtain ⟨d0, d1, d2, d3, d4, d5, d6, d7⟩ := cell8_all (bs_base HSR.out (.tail _ (.head _)))
            clear hk01 ho hk hk2 hkI
            go_wp2_with fail
            refine (mkof_any op _ 2 2 _).mono ?_
            rintro e w1 ⟨rfl, hb1⟩
            have HS1 := Lib.hid (bs_below (bs_alloc HSR.out (exC2 (leafX (p, q, ⟨#[]⟩)) (leafX (p', q', ⟨#[]⟩))) 29) hb1)
            clear hb1 c0 c1 c2 c3 c4 c5 c6 c7 d0 d1 d2 d3 d4 d5 d6 d7
            go_wp2_with fail
            refine (mkof_any 4 _ 1 1 _).mono ?_
            rintro e w3 ⟨rfl, hb3⟩
            have hs3 := bs_below (bs_alloc HS1.out (exC (nodeX op (some ⟨wc.heap.size, 0, none⟩) 2 2)) 29) hb3
            clear hb3
            obtain ⟨v, hv⟩ : ∃ v, notZ (logicZ op (p, q, ⟨#[]⟩) (p', q', ⟨#[]⟩)) = v := ⟨_, rfl⟩
            have hev := okx_eval 4 (some ⟨w1.heap.size, 0, none⟩) 1 1 _ w3 (okx_not _ _ _ w3 (kids_1 (bs_get hs3 (.head _))) (okx_two op (p, q, ⟨#[]⟩) (p', q', ⟨#[]⟩) _ _ wc.heap.size w3 HO.out (kids_2 (bs_get hs3 (.tail _ (.head _)))) (HLA.out w3) (HLB.out w3) HA.out HB.out) (bz_logic _ _ _))
            rw [hv] at hev
            obtain ⟨v1, v2, v3⟩ := v
            have HV := Lib.hid hv
            have HEV := Lib.hid hev
            have HS3 := Lib.hid hs3
            clear hev hv hs3 HS1 HSR
            go_wp2_with fail
            refine (HEV.out).mono ?_
            rintro e w4 ⟨rfl, hb4⟩
            have HS4 := Lib.hid (bs_rebase (B' := lbxy g4 g5 (p, q, ⟨#[]⟩) (p', q', ⟨#[]⟩)) (bs_below HS3.out hb4) (fun x hx => .inl hx))
            clear hb4 HS3 HEV
            go_upto_region 11 with fail
            rw [show (37 - op) % 256 = 37 - op by have := HO.out; omega]
            have hs5 : Bs w (lb3 w4.heap.size g4 g5 (v1, v2, v3) (p, q, ⟨#[]⟩) (p', q', ⟨#[]⟩)) [] ((w4.alloc (.cells #[.int .u8 v1, .int .i64 v2, .string v3] 23)).drew) := bs_drew (bs_rebase (bs_alloc HS4.out (valC (v1, v2, v3)) 23) (fun x hx => by
              rcases List.mem_cons.1 hx with rfl | hx
              · exact .inr (.head _)
              · exact .inl hx))
            have HS5 := Lib.hid hs5
            clear hs5 HS4
            refine wp_region_noPanic ?_
            refine wp_region_any (by kernel_rfl) ?_
            refine facts_start (0 :: 1 :: 2 :: 3 :: 4 :: 5 :: 6 :: 7 :: 8 :: 9 :: 10 :: 11 :: 12 :: 13 :: 14 :: 15 :: 16 :: 17 :: 18 :: 19 :: 20 :: 21 :: 22 :: 23 :: 24 :: 25 :: 26 :: 27 :: 28 :: 29 :: 30 :: 31 :: 32 :: 33 :: 34 :: 35 :: 36 :: 37 :: []) [] D11 (Ft (mk11 op v1 v2 p q p' q' v3) (bl11 op v1 v2 p q p' q' v3)) _ _ _ 0 _ #[true, true, true, true, true, true, true, true, true, true, true, true, true, true, true, true, true, true, true, true, true, true, true, true, true, true, true, true, true, true, true, true, true, true, true, true, true, true] (by kernel_rfl) (by rfl) ft_step no_al' ?hstep ?hend
            case hstep =>
              intro i hi x W hd hb K hK
              have hs := bs_below HS5.out hb
              have hS := lg_S hs
              obtain ⟨y0, y1, y2, y3, y4, y5, y6, y7, y8, y9, y10, y11, y12, y13, y14, y15, y16, y17, y18⟩ := hS
              clear hs
              simp only [List.mem_cons, List.not_mem_nil, or_false] at hi
              rcases hi with rfl | rfl | rfl | rfl | rfl | rfl | rfl | rfl | rfl | rfl | rfl | rfl | rfl | rfl | rfl | rfl | rfl | rfl | rfl | rfl | rfl | rfl | rfl | rfl | rfl | rfl | rfl | rfl | rfl | rfl | rfl | rfl | rfl | rfl | rfl | rfl | rfl | rfl
              · generalize hA : putsA _ _ x (0 :: 1 :: 2 :: 3 :: 4 :: 5 :: 6 :: 7 :: 8 :: 9 :: 10 :: 11 :: 12 :: 13 :: 14 :: 15 :: 16 :: 17 :: 18 :: 19 :: 20 :: 21 :: 22 :: 23 :: 24 :: 25 :: 26 :: 27 :: 28 :: 29 :: 30 :: 31 :: 32 :: 33 :: 34 :: 35 :: 36 :: 37 :: []) = A at *
                have e10 : A.tmps[10]? = some (.int .i64 0) := by rw [← hA]; exact putsA_at 10 _ (by decide +kernel)
                clear hA hd
                refine wpOp_step rfl (fun K' hK' => ?_)
                go_simp
                exact hK' _ _ (hK _ _ ⟨0, 0, 0, rfl, al0⟩ (Below.refl _ _) no_al)
              · generalize hA : putsA _ _ x (0 :: 1 :: 2 :: 3 :: 4 :: 5 :: 6 :: 7 :: 8 :: 9 :: 10 :: 11 :: 12 :: 13 :: 14 :: 15 :: 16 :: 17 :: 18 :: 19 :: 20 :: 21 :: 22 :: 23 :: 24 :: 25 :: 26 :: 27 :: 28 :: 29 :: 30 :: 31 :: 32 :: 33 :: 34 :: 35 :: 36 :: 37 :: []) = A at *
                have e73 : A.tmps[73]? = some (x 0) := by rw [← hA]; exact putsA_in (i := 0) 73 (by rfl) (by show (73 : Nat) < 112; decide) _ (by decide +kernel) (by decide)
                obtain ⟨_, _, _, f0, _⟩ := hd 0 (by decide)
                replace f0 : x 0 = .int .i64 0 := f0
                rw [f0] at e73
                clear hA hd
                refine wpOp_step rfl (fun K' hK' => ?_)
                go_simp
                exact hK' _ _ (hK _ _ ⟨0, 0, 0, rfl, al0⟩ (Below.refl _ _) no_al)
              · generalize hA : putsA _ _ x (0 :: 1 :: 2 :: 3 :: 4 :: 5 :: 6 :: 7 :: 8 :: 9 :: 10 :: 11 :: 12 :: 13 :: 14 :: 15 :: 16 :: 17 :: 18 :: 19 :: 20 :: 21 :: 22 :: 23 :: 24 :: 25 :: 26 :: 27 :: 28 :: 29 :: 30 :: 31 :: 32 :: 33 :: 34 :: 35 :: 36 :: 37 :: []) = A at *
                have e74 : A.tmps[74]? = some (x 1) := by rw [← hA]; exact putsA_in (i := 1) 74 (by rfl) (by show (74 : Nat) < 112; decide) _ (by decide +kernel) (by decide)
                obtain ⟨_, _, _, f1, _⟩ := hd 1 (by decide)
                replace f1 : x 1 = .bool false := f1
                rw [f1] at e74
                clear hA hd
                refine wpOp_step rfl (fun K' hK' => ?_)
                go_simp
                exact hK' _ _ (hK _ _ ⟨0, 0, 0, rfl, al0⟩ (Below.refl _ _) no_al)
              · generalize hA : putsA _ _ x (0 :: 1 :: 2 :: 3 :: 4 :: 5 :: 6 :: 7 :: 8 :: 9 :: 10 :: 11 :: 12 :: 13 :: 14 :: 15 :: 16 :: 17 :: 18 :: 19 :: 20 :: 21 :: 22 :: 23 :: 24 :: 25 :: 26 :: 27 :: 28 :: 29 :: 30 :: 31 :: 32 :: 33 :: 34 :: 35 :: 36 :: 37 :: []) = A at *
                have e9 : A.tmps[9]? = some (.pointer (some ⟨w4.heap.size, 0, none⟩)) := by rw [← hA]; exact putsA_at 9 _ (by decide +kernel)
                have e75 : A.tmps[75]? = some (x 2) := by rw [← hA]; exact putsA_in (i := 2) 75 (by rfl) (by show (75 : Nat) < 112; decide) _ (by decide +kernel) (by decide)
                obtain ⟨_, _, _, f2, _⟩ := hd 2 (by decide)
                replace f2 : x 2 = .bool false := f2
                rw [f2] at e75
                clear hA hd
                refine wpOp_step rfl (fun K' hK' => ?_)
                go_simp
                exact hK' _ _ (hK _ _ ⟨0, 0, 0, rfl, al0⟩ (Below.refl _ _) no_al)
              · generalize hA : putsA _ _ x (0 :: 1 :: 2 :: 3 :: 4 :: 5 :: 6 :: 7 :: 8 :: 9 :: 10 :: 11 :: 12 :: 13 :: 14 :: 15 :: 16 :: 17 :: 18 :: 19 :: 20 :: 21 :: 22 :: 23 :: 24 :: 25 :: 26 :: 27 :: 28 :: 29 :: 30 :: 31 :: 32 :: 33 :: 34 :: 35 :: 36 :: 37 :: []) = A at *
                have e10 : A.tmps[10]? = some (.int .i64 0) := by rw [← hA]; exact putsA_at 10 _ (by decide +kernel)
                have e75 : A.tmps[75]? = some (x 2) := by rw [← hA]; exact putsA_in (i := 2) 75 (by rfl) (by show (75 : Nat) < 112; decide) _ (by decide +kernel) (by decide)
                obtain ⟨_, _, _, f2, _⟩ := hd 2 (by decide)
                replace f2 : x 2 = .bool false := f2
                rw [f2] at e75
                clear hA hd
                refine wpOp_step rfl (fun K' hK' => ?_)
                go_simp
                exact hK' _ _ (hK _ _ ⟨0, 0, 0, rfl, al0⟩ (Below.refl _ _) no_al)
              · generalize hA : putsA _ _ x (0 :: 1 :: 2 :: 3 :: 4 :: 5 :: 6 :: 7 :: 8 :: 9 :: 10 :: 11 :: 12 :: 13 :: 14 :: 15 :: 16 :: 17 :: 18 :: 19 :: 20 :: 21 :: 22 :: 23 :: 24 :: 25 :: 26 :: 27 :: 28 :: 29 :: 30 :: 31 :: 32 :: 33 :: 34 :: 35 :: 36 :: 37 :: []) = A at *
                have e75 : A.tmps[75]? = some (x 2) := by rw [← hA]; exact putsA_in (i := 2) 75 (by rfl) (by show (75 : Nat) < 112; decide) _ (by decide +kernel) (by decide)
                obtain ⟨_, _, _, f2, _⟩ := hd 2 (by decide)
                replace f2 : x 2 = .bool false := f2
                rw [f2] at e75
                have e76 : A.tmps[76]? = some (x 3) := by rw [← hA]; exact putsA_in (i := 3) 76 (by rfl) (by show (76 : Nat) < 112; decide) _ (by decide +kernel) (by decide)
                obtain ⟨_, _, _, f3, _⟩ := hd 3 (by decide)
                replace f3 : x 3 = .agg #[.int .u8 v1, .int .i64 v2, .string v3] := f3
                rw [f3] at e76
                have e77 : A.tmps[77]? = some (x 4) := by rw [← hA]; exact putsA_in (i := 4) 77 (by rfl) (by show (77 : Nat) < 112; decide) _ (by decide +kernel) (by decide)
                obtain ⟨_, _, _, f4, _⟩ := hd 4 (by decide)
                replace f4 : x 4 = .int .i64 0 := f4
                rw [f4] at e77
                clear hA hd
                refine wpOp_step rfl (fun K' hK' => ?_)
                go_simp
                refine (mkis_any (v1, v2, v3) 0 _).mono ?_
                rintro e w6 ⟨g6, h6, rfl, hi6, hb6⟩
                exact hK' _ _ (hK _ _ ⟨g6, h6, 0, rfl, alc hi6.1 (al1 hi6.2)⟩ hb6 no_al)
              · generalize hA : putsA _ _ x (0 :: 1 :: 2 :: 3 :: 4 :: 5 :: 6 :: 7 :: 8 :: 9 :: 10 :: 11 :: 12 :: 13 :: 14 :: 15 :: 16 :: 17 :: 18 :: 19 :: 20 :: 21 :: 22 :: 23 :: 24 :: 25 :: 26 :: 27 :: 28 :: 29 :: 30 :: 31 :: 32 :: 33 :: 34 :: 35 :: 36 :: 37 :: []) = A at *
                have e11 : A.tmps[11]? = some (.int .u8 (37 - op)) := by rw [← hA]; exact putsA_at 11 _ (by decide +kernel)
                have e75 : A.tmps[75]? = some (x 2) := by rw [← hA]; exact putsA_in (i := 2) 75 (by rfl) (by show (75 : Nat) < 112; decide) _ (by decide +kernel) (by decide)
                obtain ⟨_, _, _, f2, _⟩ := hd 2 (by decide)
                replace f2 : x 2 = .bool false := f2
                rw [f2] at e75
                clear hA hd
                refine wpOp_step rfl (fun K' hK' => ?_)
                go_simp
                exact hK' _ _ (hK _ _ ⟨0, 0, 0, rfl, al0⟩ (Below.refl _ _) no_al)
              · generalize hA : putsA _ _ x (0 :: 1 :: 2 :: 3 :: 4 :: 5 :: 6 :: 7 :: 8 :: 9 :: 10 :: 11 :: 12 :: 13 :: 14 :: 15 :: 16 :: 17 :: 18 :: 19 :: 20 :: 21 :: 22 :: 23 :: 24 :: 25 :: 26 :: 27 :: 28 :: 29 :: 30 :: 31 :: 32 :: 33 :: 34 :: 35 :: 36 :: 37 :: []) = A at *
                have e5 : A.tmps[5]? = some (.pointer (some ⟨g4, 0, none⟩)) := by rw [← hA]; exact putsA_at 5 _ (by decide +kernel)
                have e75 : A.tmps[75]? = some (x 2) := by rw [← hA]; exact putsA_in (i := 2) 75 (by rfl) (by show (75 : Nat) < 112; decide) _ (by decide +kernel) (by decide)
                obtain ⟨_, _, _, f2, _⟩ := hd 2 (by decide)
                replace f2 : x 2 = .bool false := f2
                rw [f2] at e75
                clear hA hd
                refine wpOp_step rfl (fun K' hK' => ?_)
                go_simp
                exact hK' _ _ (hK _ _ ⟨0, 0, 0, rfl, al0⟩ (Below.refl _ _) no_al)
              · generalize hA : putsA _ _ x (0 :: 1 :: 2 :: 3 :: 4 :: 5 :: 6 :: 7 :: 8 :: 9 :: 10 :: 11 :: 12 :: 13 :: 14 :: 15 :: 16 :: 17 :: 18 :: 19 :: 20 :: 21 :: 22 :: 23 :: 24 :: 25 :: 26 :: 27 :: 28 :: 29 :: 30 :: 31 :: 32 :: 33 :: 34 :: 35 :: 36 :: 37 :: []) = A at *
                have e75 : A.tmps[75]? = some (x 2) := by rw [← hA]; exact putsA_in (i := 2) 75 (by rfl) (by show (75 : Nat) < 112; decide) _ (by decide +kernel) (by decide)
                obtain ⟨_, _, _, f2, _⟩ := hd 2 (by decide)
                replace f2 : x 2 = .bool false := f2
                rw [f2] at e75
                have e80 : A.tmps[80]? = some (x 7) := by rw [← hA]; exact putsA_in (i := 7) 80 (by rfl) (by show (80 : Nat) < 112; decide) _ (by decide +kernel) (by decide)
                obtain ⟨_, _, _, f7, _⟩ := hd 7 (by decide)
                replace f7 : x 7 = .agg #[.int .u8 1, .int .u8 p, .int .i64 q, .string ⟨#[]⟩, .string ⟨#[]⟩, .string ⟨#[]⟩, .int .i64 0, .slice none 0 0] := f7
                rw [f7] at e80
                clear hA hd
                refine wpOp_step rfl (fun K' hK' => ?_)
                go_simp
                exact hK' _ _ (hK _ _ ⟨W.heap.size, 0, 0, rfl, al1 (Blk.new _ _ _)⟩ bs_one no_al)
              · generalize hA : putsA _ _ x (0 :: 1 :: 2 :: 3 :: 4 :: 5 :: 6 :: 7 :: 8 :: 9 :: 10 :: 11 :: 12 :: 13 :: 14 :: 15 :: 16 :: 17 :: 18 :: 19 :: 20 :: 21 :: 22 :: 23 :: 24 :: 25 :: 26 :: 27 :: 28 :: 29 :: 30 :: 31 :: 32 :: 33 :: 34 :: 35 :: 36 :: 37 :: []) = A at *
                have e75 : A.tmps[75]? = some (x 2) := by rw [← hA]; exact putsA_in (i := 2) 75 (by rfl) (by show (75 : Nat) < 112; decide) _ (by decide +kernel) (by decide)
                obtain ⟨_, _, _, f2, _⟩ := hd 2 (by decide)
                replace f2 : x 2 = .bool false := f2
                rw [f2] at e75
                have e81 : A.tmps[81]? = some (x 8) := by rw [← hA]; exact putsA_in (i := 8) 81 (by rfl) (by show (81 : Nat) < 112; decide) _ (by decide +kernel) (by decide)
                obtain ⟨k8, ka8, kb8, f8, hb8⟩ := hd 8 (by decide)
                replace f8 : x 8 = .slice (some ⟨k8, 0, none⟩) 1 1 := f8
                rw [f8] at e81
                clear hA hd
                refine wpOp_step rfl (fun K' hK' => ?_)
                go_simp
                refine (mkof_any 4 (some ⟨k8, 0, none⟩) 1 1 _).mono ?_
                rintro e w6 ⟨rfl, hb6⟩
                exact hK' _ _ (hK _ _ ⟨k8, 0, 0, rfl, al1 (blk_step (hb8 _ (.head _)) hb6)⟩ hb6 no_al)
              · generalize hA : putsA _ _ x (0 :: 1 :: 2 :: 3 :: 4 :: 5 :: 6 :: 7 :: 8 :: 9 :: 10 :: 11 :: 12 :: 13 :: 14 :: 15 :: 16 :: 17 :: 18 :: 19 :: 20 :: 21 :: 22 :: 23 :: 24 :: 25 :: 26 :: 27 :: 28 :: 29 :: 30 :: 31 :: 32 :: 33 :: 34 :: 35 :: 36 :: 37 :: []) = A at *
                have e6 : A.tmps[6]? = some (.pointer (some ⟨g5, 0, none⟩)) := by rw [← hA]; exact putsA_at 6 _ (by decide +kernel)
                have e75 : A.tmps[75]? = some (x 2) := by rw [← hA]; exact putsA_in (i := 2) 75 (by rfl) (by show (75 : Nat) < 112; decide) _ (by decide +kernel) (by decide)
                obtain ⟨_, _, _, f2, _⟩ := hd 2 (by decide)
                replace f2 : x 2 = .bool false := f2
                rw [f2] at e75
                clear hA hd
                refine wpOp_step rfl (fun K' hK' => ?_)
                go_simp
                exact hK' _ _ (hK _ _ ⟨0, 0, 0, rfl, al0⟩ (Below.refl _ _) no_al)
              · generalize hA : putsA _ _ x (0 :: 1 :: 2 :: 3 :: 4 :: 5 :: 6 :: 7 :: 8 :: 9 :: 10 :: 11 :: 12 :: 13 :: 14 :: 15 :: 16 :: 17 :: 18 :: 19 :: 20 :: 21 :: 22 :: 23 :: 24 :: 25 :: 26 :: 27 :: 28 :: 29 :: 30 :: 31 :: 32 :: 33 :: 34 :: 35 :: 36 :: 37 :: []) = A at *
                have e75 : A.tmps[75]? = some (x 2) := by rw [← hA]; exact putsA_in (i := 2) 75 (by rfl) (by show (75 : Nat) < 112; decide) _ (by decide +kernel) (by decide)
                obtain ⟨_, _, _, f2, _⟩ := hd 2 (by decide)
                replace f2 : x 2 = .bool false := f2
                rw [f2] at e75
                have e83 : A.tmps[83]? = some (x 10) := by rw [← hA]; exact putsA_in (i := 10) 83 (by rfl) (by show (83 : Nat) < 112; decide) _ (by decide +kernel) (by decide)
                obtain ⟨_, _, _, f10, _⟩ := hd 10 (by decide)
                replace f10 : x 10 = .agg #[.int .u8 1, .int .u8 p', .int .i64 q', .string ⟨#[]⟩, .string ⟨#[]⟩, .string ⟨#[]⟩, .int .i64 0, .slice none 0 0] := f10
                rw [f10] at e83
                clear hA hd
                refine wpOp_step rfl (fun K' hK' => ?_)
                go_simp
                exact hK' _ _ (hK _ _ ⟨W.heap.size, 0, 0, rfl, al1 (Blk.new _ _ _)⟩ bs_one no_al)
              · generalize hA : putsA _ _ x (0 :: 1 :: 2 :: 3 :: 4 :: 5 :: 6 :: 7 :: 8 :: 9 :: 10 :: 11 :: 12 :: 13 :: 14 :: 15 :: 16 :: 17 :: 18 :: 19 :: 20 :: 21 :: 22 :: 23 :: 24 :: 25 :: 26 :: 27 :: 28 :: 29 :: 30 :: 31 :: 32 :: 33 :: 34 :: 35 :: 36 :: 37 :: []) = A at *
                have e75 : A.tmps[75]? = some (x 2) := by rw [← hA]; exact putsA_in (i := 2) 75 (by rfl) (by show (75 : Nat) < 112; decide) _ (by decide +kernel) (by decide)
                obtain ⟨_, _, _, f2, _⟩ := hd 2 (by decide)
                replace f2 : x 2 = .bool false := f2
                rw [f2] at e75
                have e84 : A.tmps[84]? = some (x 11) := by rw [← hA]; exact putsA_in (i := 11) 84 (by rfl) (by show (84 : Nat) < 112; decide) _ (by decide +kernel) (by decide)
                obtain ⟨k11, ka11, kb11, f11, hb11⟩ := hd 11 (by decide)
                replace f11 : x 11 = .slice (some ⟨k11, 0, none⟩) 1 1 := f11
                rw [f11] at e84
                clear hA hd
                refine wpOp_step rfl (fun K' hK' => ?_)
                go_simp
                refine (mkof_any 4 (some ⟨k11, 0, none⟩) 1 1 _).mono ?_
                rintro e w6 ⟨rfl, hb6⟩
                exact hK' _ _ (hK _ _ ⟨k11, 0, 0, rfl, al1 (blk_step (hb11 _ (.head _)) hb6)⟩ hb6 no_al)
              · generalize hA : putsA _ _ x (0 :: 1 :: 2 :: 3 :: 4 :: 5 :: 6 :: 7 :: 8 :: 9 :: 10 :: 11 :: 12 :: 13 :: 14 :: 15 :: 16 :: 17 :: 18 :: 19 :: 20 :: 21 :: 22 :: 23 :: 24 :: 25 :: 26 :: 27 :: 28 :: 29 :: 30 :: 31 :: 32 :: 33 :: 34 :: 35 :: 36 :: 37 :: []) = A at *
                have e75 : A.tmps[75]? = some (x 2) := by rw [← hA]; exact putsA_in (i := 2) 75 (by rfl) (by show (75 : Nat) < 112; decide) _ (by decide +kernel) (by decide)
                obtain ⟨_, _, _, f2, _⟩ := hd 2 (by decide)
                replace f2 : x 2 = .bool false := f2
                rw [f2] at e75
                have e82 : A.tmps[82]? = some (x 9) := by rw [← hA]; exact putsA_in (i := 9) 82 (by rfl) (by show (82 : Nat) < 112; decide) _ (by decide +kernel) (by decide)
                obtain ⟨k9, ka9, kb9, f9, hb9⟩ := hd 9 (by decide)
                replace f9 : x 9 = .agg #[.int .u8 4, .int .u8 0, .int .i64 0, .string ⟨#[]⟩, .string ⟨#[]⟩, .string ⟨#[]⟩, .int .i64 0, .slice (some ⟨k9, 0, none⟩) 1 1] := f9
                rw [f9] at e82
                have e85 : A.tmps[85]? = some (x 12) := by rw [← hA]; exact putsA_in (i := 12) 85 (by rfl) (by show (85 : Nat) < 112; decide) _ (by decide +kernel) (by decide)
                obtain ⟨k12, ka12, kb12, f12, hb12⟩ := hd 12 (by decide)
                replace f12 : x 12 = .agg #[.int .u8 4, .int .u8 0, .int .i64 0, .string ⟨#[]⟩, .string ⟨#[]⟩, .string ⟨#[]⟩, .int .i64 0, .slice (some ⟨k12, 0, none⟩) 1 1] := f12
                rw [f12] at e85
                clear hA hd
                refine wpOp_step rfl (fun K' hK' => ?_)
                go_simp
                exact hK' _ _ (hK _ _ ⟨W.heap.size, k9, k12, rfl, alc (Blk.new _ _ _) (alc ((hb9 _ (.head _)).alloc _) (al1 ((hb12 _ (.head _)).alloc _)))⟩ bs_one no_al)
              · generalize hA : putsA _ _ x (0 :: 1 :: 2 :: 3 :: 4 :: 5 :: 6 :: 7 :: 8 :: 9 :: 10 :: 11 :: 12 :: 13 :: 14 :: 15 :: 16 :: 17 :: 18 :: 19 :: 20 :: 21 :: 22 :: 23 :: 24 :: 25 :: 26 :: 27 :: 28 :: 29 :: 30 :: 31 :: 32 :: 33 :: 34 :: 35 :: 36 :: 37 :: []) = A at *
                have e75 : A.tmps[75]? = some (x 2) := by rw [← hA]; exact putsA_in (i := 2) 75 (by rfl) (by show (75 : Nat) < 112; decide) _ (by decide +kernel) (by decide)
                obtain ⟨_, _, _, f2, _⟩ := hd 2 (by decide)
                replace f2 : x 2 = .bool false := f2
                rw [f2] at e75
                have e79 : A.tmps[79]? = some (x 6) := by rw [← hA]; exact putsA_in (i := 6) 79 (by rfl) (by show (79 : Nat) < 112; decide) _ (by decide +kernel) (by decide)
                obtain ⟨_, _, _, f6, _⟩ := hd 6 (by decide)
                replace f6 : x 6 = .int .u8 (37 - op) := f6
                rw [f6] at e79
                have e86 : A.tmps[86]? = some (x 13) := by rw [← hA]; exact putsA_in (i := 13) 86 (by rfl) (by show (86 : Nat) < 112; decide) _ (by decide +kernel) (by decide)
                obtain ⟨k13, ka13, kb13, f13, hb13⟩ := hd 13 (by decide)
                replace f13 : x 13 = .slice (some ⟨k13, 0, none⟩) 2 2 := f13
                rw [f13] at e86
                clear hA hd
                refine wpOp_step rfl (fun K' hK' => ?_)
                go_simp
                refine (mkof_any (37 - op) (some ⟨k13, 0, none⟩) 2 2 _).mono ?_
                rintro e w6 ⟨rfl, hb6⟩
                exact hK' _ _ (hK _ _ ⟨k13, ka13, kb13, rfl, fun z hz => blk_step (hb13 z hz) hb6⟩ hb6 no_al)
              · generalize hA : putsA _ _ x (0 :: 1 :: 2 :: 3 :: 4 :: 5 :: 6 :: 7 :: 8 :: 9 :: 10 :: 11 :: 12 :: 13 :: 14 :: 15 :: 16 :: 17 :: 18 :: 19 :: 20 :: 21 :: 22 :: 23 :: 24 :: 25 :: 26 :: 27 :: 28 :: 29 :: 30 :: 31 :: 32 :: 33 :: 34 :: 35 :: 36 :: 37 :: []) = A at *
                have e75 : A.tmps[75]? = some (x 2) := by rw [← hA]; exact putsA_in (i := 2) 75 (by rfl) (by show (75 : Nat) < 112; decide) _ (by decide +kernel) (by decide)
                obtain ⟨_, _, _, f2, _⟩ := hd 2 (by decide)
                replace f2 : x 2 = .bool false := f2
                rw [f2] at e75
                have e87 : A.tmps[87]? = some (x 14) := by rw [← hA]; exact putsA_in (i := 14) 87 (by rfl) (by show (87 : Nat) < 112; decide) _ (by decide +kernel) (by decide)
                obtain ⟨k14, ka14, kb14, f14, hb14⟩ := hd 14 (by decide)
                replace f14 : x 14 = .agg #[.int .u8 (37 - op), .int .u8 0, .int .i64 0, .string ⟨#[]⟩, .string ⟨#[]⟩, .string ⟨#[]⟩, .int .i64 0, .slice (some ⟨k14, 0, none⟩) 2 2] := f14
                rw [f14] at e87
                clear hA hd
                have he := okx_eval (37 - op) (some ⟨k14, 0, none⟩) 2 2 _ W (okx_two (37 - op) _ _ _ _ k14 W (by have := HO.out; omega) (kids_2 (hb14 _ (.head _))) (okx_not _ _ _ W (kids_1 (hb14 _ (.tail _ (.head _)))) (HLA.out W) HA.out) (okx_not _ _ _ W (kids_1 (hb14 _ (.tail _ (.tail _ (.head _))))) (HLB.out W) HB.out) (bz_not _) (bz_not _))
                rw [← logic_turn op _ _ HO.out HA.out HB.out, HV.out] at he
                have HE := Lib.hid he
                clear he
                refine wpOp_step rfl (fun K' hK' => ?_)
                go_simp
                refine HE.out.mono ?_
                rintro e w6 ⟨rfl, hb6⟩
                exact hK' _ _ (hK _ _ ⟨0, 0, 0, rfl, al0⟩ hb6 no_al)
              · generalize hA : putsA _ _ x (0 :: 1 :: 2 :: 3 :: 4 :: 5 :: 6 :: 7 :: 8 :: 9 :: 10 :: 11 :: 12 :: 13 :: 14 :: 15 :: 16 :: 17 :: 18 :: 19 :: 20 :: 21 :: 22 :: 23 :: 24 :: 25 :: 26 :: 27 :: 28 :: 29 :: 30 :: 31 :: 32 :: 33 :: 34 :: 35 :: 36 :: 37 :: []) = A at *
                have e75 : A.tmps[75]? = some (x 2) := by rw [← hA]; exact putsA_in (i := 2) 75 (by rfl) (by show (75 : Nat) < 112; decide) _ (by decide +kernel) (by decide)
                obtain ⟨_, _, _, f2, _⟩ := hd 2 (by decide)
                replace f2 : x 2 = .bool false := f2
                rw [f2] at e75
                have e88 : A.tmps[88]? = some (x 15) := by rw [← hA]; exact putsA_in (i := 15) 88 (by rfl) (by show (88 : Nat) < 112; decide) _ (by decide +kernel) (by decide)
                obtain ⟨_, _, _, f15, _⟩ := hd 15 (by decide)
                replace f15 : x 15 = .tuple #[.agg #[.int .u8 v1, .int .i64 v2, .string v3], .int .i64 0] := f15
                rw [f15] at e88
                clear hA hd
                refine wpOp_step rfl (fun K' hK' => ?_)
                go_simp
                exact hK' _ _ (hK _ _ ⟨0, 0, 0, rfl, al0⟩ (Below.refl _ _) no_al)
              · generalize hA : putsA _ _ x (0 :: 1 :: 2 :: 3 :: 4 :: 5 :: 6 :: 7 :: 8 :: 9 :: 10 :: 11 :: 12 :: 13 :: 14 :: 15 :: 16 :: 17 :: 18 :: 19 :: 20 :: 21 :: 22 :: 23 :: 24 :: 25 :: 26 :: 27 :: 28 :: 29 :: 30 :: 31 :: 32 :: 33 :: 34 :: 35 :: 36 :: 37 :: []) = A at *
                have e75 : A.tmps[75]? = some (x 2) := by rw [← hA]; exact putsA_in (i := 2) 75 (by rfl) (by show (75 : Nat) < 112; decide) _ (by decide +kernel) (by decide)
                obtain ⟨_, _, _, f2, _⟩ := hd 2 (by decide)
                replace f2 : x 2 = .bool false := f2
                rw [f2] at e75
                have e88 : A.tmps[88]? = some (x 15) := by rw [← hA]; exact putsA_in (i := 15) 88 (by rfl) (by show (88 : Nat) < 112; decide) _ (by decide +kernel) (by decide)
                obtain ⟨_, _, _, f15, _⟩ := hd 15 (by decide)
                replace f15 : x 15 = .tuple #[.agg #[.int .u8 v1, .int .i64 v2, .string v3], .int .i64 0] := f15
                rw [f15] at e88
                clear hA hd
                refine wpOp_step rfl (fun K' hK' => ?_)
                go_simp
                exact hK' _ _ (hK _ _ ⟨0, 0, 0, rfl, al0⟩ (Below.refl _ _) no_al)
              · generalize hA : putsA _ _ x (0 :: 1 :: 2 :: 3 :: 4 :: 5 :: 6 :: 7 :: 8 :: 9 :: 10 :: 11 :: 12 :: 13 :: 14 :: 15 :: 16 :: 17 :: 18 :: 19 :: 20 :: 21 :: 22 :: 23 :: 24 :: 25 :: 26 :: 27 :: 28 :: 29 :: 30 :: 31 :: 32 :: 33 :: 34 :: 35 :: 36 :: 37 :: []) = A at *
                have e75 : A.tmps[75]? = some (x 2) := by rw [← hA]; exact putsA_in (i := 2) 75 (by rfl) (by show (75 : Nat) < 112; decide) _ (by decide +kernel) (by decide)
                obtain ⟨_, _, _, f2, _⟩ := hd 2 (by decide)
                replace f2 : x 2 = .bool false := f2
                rw [f2] at e75
                have e78 : A.tmps[78]? = some (x 5) := by rw [← hA]; exact putsA_in (i := 5) 78 (by rfl) (by show (78 : Nat) < 112; decide) _ (by decide +kernel) (by decide)
                obtain ⟨k5, ka5, kb5, f5, hb5⟩ := hd 5 (by decide)
                replace f5 : x 5 = .func (.func 32) #[] #[.pointer (some ⟨k5, 0, none⟩), .pointer (some ⟨ka5, 0, none⟩)] := f5
                rw [f5] at e78
                have e89 : A.tmps[89]? = some (x 16) := by rw [← hA]; exact putsA_in (i := 16) 89 (by rfl) (by show (89 : Nat) < 112; decide) _ (by decide +kernel) (by decide)
                obtain ⟨_, _, _, f16, _⟩ := hd 16 (by decide)
                replace f16 : x 16 = .agg #[.int .u8 v1, .int .i64 v2, .string v3] := f16
                rw [f16] at e89
                have e90 : A.tmps[90]? = some (x 17) := by rw [← hA]; exact putsA_in (i := 17) 90 (by rfl) (by show (90 : Nat) < 112; decide) _ (by decide +kernel) (by decide)
                obtain ⟨_, _, _, f17, _⟩ := hd 17 (by decide)
                replace f17 : x 17 = .int .i64 0 := f17
                rw [f17] at e90
                clear hA hd
                refine wpOp_step rfl (fun K' hK' => ?_)
                go_simp
                refine (isf_yes (v1, v2, v3) 0 k5 ka5 W ⟨hb5 _ (.head _), hb5 _ (.tail _ (.head _))⟩).mono ?_
                rintro e w6 ⟨rfl, hb6⟩
                exact hK' _ _ (hK _ _ ⟨0, 0, 0, rfl, al0⟩ hb6 no_al)
              · generalize hA : putsA _ _ x (0 :: 1 :: 2 :: 3 :: 4 :: 5 :: 6 :: 7 :: 8 :: 9 :: 10 :: 11 :: 12 :: 13 :: 14 :: 15 :: 16 :: 17 :: 18 :: 19 :: 20 :: 21 :: 22 :: 23 :: 24 :: 25 :: 26 :: 27 :: 28 :: 29 :: 30 :: 31 :: 32 :: 33 :: 34 :: 35 :: 36 :: 37 :: []) = A at *
                have e75 : A.tmps[75]? = some (x 2) := by rw [← hA]; exact putsA_in (i := 2) 75 (by rfl) (by show (75 : Nat) < 112; decide) _ (by decide +kernel) (by decide)
                obtain ⟨_, _, _, f2, _⟩ := hd 2 (by decide)
                replace f2 : x 2 = .bool false := f2
                rw [f2] at e75
                have e91 : A.tmps[91]? = some (x 18) := by rw [← hA]; exact putsA_in (i := 18) 91 (by rfl) (by show (91 : Nat) < 112; decide) _ (by decide +kernel) (by decide)
                obtain ⟨_, _, _, f18, _⟩ := hd 18 (by decide)
                replace f18 : x 18 = .bool true := f18
                rw [f18] at e91
                clear hA hd
                refine wpOp_step rfl (fun K' hK' => ?_)
                go_simp
                exact hK' _ _ (hK _ _ ⟨0, 0, 0, rfl, al0⟩ (Below.refl _ _) no_al)
              · generalize hA : putsA _ _ x (0 :: 1 :: 2 :: 3 :: 4 :: 5 :: 6 :: 7 :: 8 :: 9 :: 10 :: 11 :: 12 :: 13 :: 14 :: 15 :: 16 :: 17 :: 18 :: 19 :: 20 :: 21 :: 22 :: 23 :: 24 :: 25 :: 26 :: 27 :: 28 :: 29 :: 30 :: 31 :: 32 :: 33 :: 34 :: 35 :: 36 :: 37 :: []) = A at *
                have e75 : A.tmps[75]? = some (x 2) := by rw [← hA]; exact putsA_in (i := 2) 75 (by rfl) (by show (75 : Nat) < 112; decide) _ (by decide +kernel) (by decide)
                obtain ⟨_, _, _, f2, _⟩ := hd 2 (by decide)
                replace f2 : x 2 = .bool false := f2
                rw [f2] at e75
                have e92 : A.tmps[92]? = some (x 19) := by rw [← hA]; exact putsA_in (i := 19) 92 (by rfl) (by show (92 : Nat) < 112; decide) _ (by decide +kernel) (by decide)
                obtain ⟨_, _, _, f19, _⟩ := hd 19 (by decide)
                replace f19 : x 19 = .bool false := f19
                rw [f19] at e92
                clear hA hd
                refine wpOp_step rfl (fun K' hK' => ?_)
                go_simp
                exact hK' _ _ (hK _ _ ⟨0, 0, 0, rfl, al0⟩ (Below.refl _ _) no_al)
              · generalize hA : putsA _ _ x (0 :: 1 :: 2 :: 3 :: 4 :: 5 :: 6 :: 7 :: 8 :: 9 :: 10 :: 11 :: 12 :: 13 :: 14 :: 15 :: 16 :: 17 :: 18 :: 19 :: 20 :: 21 :: 22 :: 23 :: 24 :: 25 :: 26 :: 27 :: 28 :: 29 :: 30 :: 31 :: 32 :: 33 :: 34 :: 35 :: 36 :: 37 :: []) = A at *
                have e93 : A.tmps[93]? = some (x 20) := by rw [← hA]; exact putsA_in (i := 20) 93 (by rfl) (by show (93 : Nat) < 112; decide) _ (by decide +kernel) (by decide)
                obtain ⟨_, _, _, f20, _⟩ := hd 20 (by decide)
                replace f20 : x 20 = .bool false := f20
                rw [f20] at e93
                clear hA hd
                refine wpOp_step rfl (fun K' hK' => ?_)
                go_simp
                exact hK' _ _ (hK _ _ ⟨0, 0, 0, rfl, al0⟩ (Below.refl _ _) no_al)
              · generalize hA : putsA _ _ x (0 :: 1 :: 2 :: 3 :: 4 :: 5 :: 6 :: 7 :: 8 :: 9 :: 10 :: 11 :: 12 :: 13 :: 14 :: 15 :: 16 :: 17 :: 18 :: 19 :: 20 :: 21 :: 22 :: 23 :: 24 :: 25 :: 26 :: 27 :: 28 :: 29 :: 30 :: 31 :: 32 :: 33 :: 34 :: 35 :: 36 :: 37 :: []) = A at *
                have e9 : A.tmps[9]? = some (.pointer (some ⟨w4.heap.size, 0, none⟩)) := by rw [← hA]; exact putsA_at 9 _ (by decide +kernel)
                have e94 : A.tmps[94]? = some (x 21) := by rw [← hA]; exact putsA_in (i := 21) 94 (by rfl) (by show (94 : Nat) < 112; decide) _ (by decide +kernel) (by decide)
                obtain ⟨_, _, _, f21, _⟩ := hd 21 (by decide)
                replace f21 : x 21 = .bool false := f21
                rw [f21] at e94
                clear hA hd
                refine wpOp_step rfl (fun K' hK' => ?_)
                go_simp
                exact hK' _ _ (hK _ _ ⟨0, 0, 0, rfl, al0⟩ (Below.refl _ _) no_al)
              · generalize hA : putsA _ _ x (0 :: 1 :: 2 :: 3 :: 4 :: 5 :: 6 :: 7 :: 8 :: 9 :: 10 :: 11 :: 12 :: 13 :: 14 :: 15 :: 16 :: 17 :: 18 :: 19 :: 20 :: 21 :: 22 :: 23 :: 24 :: 25 :: 26 :: 27 :: 28 :: 29 :: 30 :: 31 :: 32 :: 33 :: 34 :: 35 :: 36 :: 37 :: []) = A at *
                have e10 : A.tmps[10]? = some (.int .i64 0) := by rw [← hA]; exact putsA_at 10 _ (by decide +kernel)
                have e94 : A.tmps[94]? = some (x 21) := by rw [← hA]; exact putsA_in (i := 21) 94 (by rfl) (by show (94 : Nat) < 112; decide) _ (by decide +kernel) (by decide)
                obtain ⟨_, _, _, f21, _⟩ := hd 21 (by decide)
                replace f21 : x 21 = .bool false := f21
                rw [f21] at e94
                clear hA hd
                refine wpOp_step rfl (fun K' hK' => ?_)
                go_simp
                exact hK' _ _ (hK _ _ ⟨0, 0, 0, rfl, al0⟩ (Below.refl _ _) no_al)
              · generalize hA : putsA _ _ x (0 :: 1 :: 2 :: 3 :: 4 :: 5 :: 6 :: 7 :: 8 :: 9 :: 10 :: 11 :: 12 :: 13 :: 14 :: 15 :: 16 :: 17 :: 18 :: 19 :: 20 :: 21 :: 22 :: 23 :: 24 :: 25 :: 26 :: 27 :: 28 :: 29 :: 30 :: 31 :: 32 :: 33 :: 34 :: 35 :: 36 :: 37 :: []) = A at *
                have e94 : A.tmps[94]? = some (x 21) := by rw [← hA]; exact putsA_in (i := 21) 94 (by rfl) (by show (94 : Nat) < 112; decide) _ (by decide +kernel) (by decide)
                obtain ⟨_, _, _, f21, _⟩ := hd 21 (by decide)
                replace f21 : x 21 = .bool false := f21
                rw [f21] at e94
                have e95 : A.tmps[95]? = some (x 22) := by rw [← hA]; exact putsA_in (i := 22) 95 (by rfl) (by show (95 : Nat) < 112; decide) _ (by decide +kernel) (by decide)
                obtain ⟨_, _, _, f22, _⟩ := hd 22 (by decide)
                replace f22 : x 22 = .agg #[.int .u8 v1, .int .i64 v2, .string v3] := f22
                rw [f22] at e95
                have e96 : A.tmps[96]? = some (x 23) := by rw [← hA]; exact putsA_in (i := 23) 96 (by rfl) (by show (96 : Nat) < 112; decide) _ (by decide +kernel) (by decide)
                obtain ⟨_, _, _, f23, _⟩ := hd 23 (by decide)
                replace f23 : x 23 = .int .i64 0 := f23
                rw [f23] at e96
                clear hA hd
                refine wpOp_step rfl (fun K' hK' => ?_)
                go_simp
                refine (mkis_any (v1, v2, v3) 0 _).mono ?_
                rintro e w6 ⟨g6, h6, rfl, hi6, hb6⟩
                exact hK' _ _ (hK _ _ ⟨g6, h6, 0, rfl, alc hi6.1 (al1 hi6.2)⟩ hb6 no_al)
              · generalize hA : putsA _ _ x (0 :: 1 :: 2 :: 3 :: 4 :: 5 :: 6 :: 7 :: 8 :: 9 :: 10 :: 11 :: 12 :: 13 :: 14 :: 15 :: 16 :: 17 :: 18 :: 19 :: 20 :: 21 :: 22 :: 23 :: 24 :: 25 :: 26 :: 27 :: 28 :: 29 :: 30 :: 31 :: 32 :: 33 :: 34 :: 35 :: 36 :: 37 :: []) = A at *
                have e8 : A.tmps[8]? = some (.int .u8 op) := by rw [← hA]; exact putsA_at 8 _ (by decide +kernel)
                have e94 : A.tmps[94]? = some (x 21) := by rw [← hA]; exact putsA_in (i := 21) 94 (by rfl) (by show (94 : Nat) < 112; decide) _ (by decide +kernel) (by decide)
                obtain ⟨_, _, _, f21, _⟩ := hd 21 (by decide)
                replace f21 : x 21 = .bool false := f21
                rw [f21] at e94
                clear hA hd
                refine wpOp_step rfl (fun K' hK' => ?_)
                go_simp
                exact hK' _ _ (hK _ _ ⟨0, 0, 0, rfl, al0⟩ (Below.refl _ _) no_al)
              · generalize hA : putsA _ _ x (0 :: 1 :: 2 :: 3 :: 4 :: 5 :: 6 :: 7 :: 8 :: 9 :: 10 :: 11 :: 12 :: 13 :: 14 :: 15 :: 16 :: 17 :: 18 :: 19 :: 20 :: 21 :: 22 :: 23 :: 24 :: 25 :: 26 :: 27 :: 28 :: 29 :: 30 :: 31 :: 32 :: 33 :: 34 :: 35 :: 36 :: 37 :: []) = A at *
                have e6 : A.tmps[6]? = some (.pointer (some ⟨g5, 0, none⟩)) := by rw [← hA]; exact putsA_at 6 _ (by decide +kernel)
                have e94 : A.tmps[94]? = some (x 21) := by rw [← hA]; exact putsA_in (i := 21) 94 (by rfl) (by show (94 : Nat) < 112; decide) _ (by decide +kernel) (by decide)
                obtain ⟨_, _, _, f21, _⟩ := hd 21 (by decide)
                replace f21 : x 21 = .bool false := f21
                rw [f21] at e94
                clear hA hd
                refine wpOp_step rfl (fun K' hK' => ?_)
                go_simp
                exact hK' _ _ (hK _ _ ⟨0, 0, 0, rfl, al0⟩ (Below.refl _ _) no_al)
              · generalize hA : putsA _ _ x (0 :: 1 :: 2 :: 3 :: 4 :: 5 :: 6 :: 7 :: 8 :: 9 :: 10 :: 11 :: 12 :: 13 :: 14 :: 15 :: 16 :: 17 :: 18 :: 19 :: 20 :: 21 :: 22 :: 23 :: 24 :: 25 :: 26 :: 27 :: 28 :: 29 :: 30 :: 31 :: 32 :: 33 :: 34 :: 35 :: 36 :: 37 :: []) = A at *
                have e5 : A.tmps[5]? = some (.pointer (some ⟨g4, 0, none⟩)) := by rw [← hA]; exact putsA_at 5 _ (by decide +kernel)
                have e94 : A.tmps[94]? = some (x 21) := by rw [← hA]; exact putsA_in (i := 21) 94 (by rfl) (by show (94 : Nat) < 112; decide) _ (by decide +kernel) (by decide)
                obtain ⟨_, _, _, f21, _⟩ := hd 21 (by decide)
                replace f21 : x 21 = .bool false := f21
                rw [f21] at e94
                clear hA hd
                refine wpOp_step rfl (fun K' hK' => ?_)
                go_simp
                exact hK' _ _ (hK _ _ ⟨0, 0, 0, rfl, al0⟩ (Below.refl _ _) no_al)
              · generalize hA : putsA _ _ x (0 :: 1 :: 2 :: 3 :: 4 :: 5 :: 6 :: 7 :: 8 :: 9 :: 10 :: 11 :: 12 :: 13 :: 14 :: 15 :: 16 :: 17 :: 18 :: 19 :: 20 :: 21 :: 22 :: 23 :: 24 :: 25 :: 26 :: 27 :: 28 :: 29 :: 30 :: 31 :: 32 :: 33 :: 34 :: 35 :: 36 :: 37 :: []) = A at *
                have e94 : A.tmps[94]? = some (x 21) := by rw [← hA]; exact putsA_in (i := 21) 94 (by rfl) (by show (94 : Nat) < 112; decide) _ (by decide +kernel) (by decide)
                obtain ⟨_, _, _, f21, _⟩ := hd 21 (by decide)
                replace f21 : x 21 = .bool false := f21
                rw [f21] at e94
                have e99 : A.tmps[99]? = some (x 26) := by rw [← hA]; exact putsA_in (i := 26) 99 (by rfl) (by show (99 : Nat) < 112; decide) _ (by decide +kernel) (by decide)
                obtain ⟨_, _, _, f26, _⟩ := hd 26 (by decide)
                replace f26 : x 26 = .agg #[.int .u8 1, .int .u8 p', .int .i64 q', .string ⟨#[]⟩, .string ⟨#[]⟩, .string ⟨#[]⟩, .int .i64 0, .slice none 0 0] := f26
                rw [f26] at e99
                have e100 : A.tmps[100]? = some (x 27) := by rw [← hA]; exact putsA_in (i := 27) 100 (by rfl) (by show (100 : Nat) < 112; decide) _ (by decide +kernel) (by decide)
                obtain ⟨_, _, _, f27, _⟩ := hd 27 (by decide)
                replace f27 : x 27 = .agg #[.int .u8 1, .int .u8 p, .int .i64 q, .string ⟨#[]⟩, .string ⟨#[]⟩, .string ⟨#[]⟩, .int .i64 0, .slice none 0 0] := f27
                rw [f27] at e100
                clear hA hd
                refine wpOp_step rfl (fun K' hK' => ?_)
                go_simp
                exact hK' _ _ (hK _ _ ⟨W.heap.size, 0, 0, rfl, al1 (Blk.new _ _ _)⟩ bs_one no_al)
              · generalize hA : putsA _ _ x (0 :: 1 :: 2 :: 3 :: 4 :: 5 :: 6 :: 7 :: 8 :: 9 :: 10 :: 11 :: 12 :: 13 :: 14 :: 15 :: 16 :: 17 :: 18 :: 19 :: 20 :: 21 :: 22 :: 23 :: 24 :: 25 :: 26 :: 27 :: 28 :: 29 :: 30 :: 31 :: 32 :: 33 :: 34 :: 35 :: 36 :: 37 :: []) = A at *
                have e94 : A.tmps[94]? = some (x 21) := by rw [← hA]; exact putsA_in (i := 21) 94 (by rfl) (by show (94 : Nat) < 112; decide) _ (by decide +kernel) (by decide)
                obtain ⟨_, _, _, f21, _⟩ := hd 21 (by decide)
                replace f21 : x 21 = .bool false := f21
                rw [f21] at e94
                have e98 : A.tmps[98]? = some (x 25) := by rw [← hA]; exact putsA_in (i := 25) 98 (by rfl) (by show (98 : Nat) < 112; decide) _ (by decide +kernel) (by decide)
                obtain ⟨_, _, _, f25, _⟩ := hd 25 (by decide)
                replace f25 : x 25 = .int .u8 op := f25
                rw [f25] at e98
                have e101 : A.tmps[101]? = some (x 28) := by rw [← hA]; exact putsA_in (i := 28) 101 (by rfl) (by show (101 : Nat) < 112; decide) _ (by decide +kernel) (by decide)
                obtain ⟨k28, ka28, kb28, f28, hb28⟩ := hd 28 (by decide)
                replace f28 : x 28 = .slice (some ⟨k28, 0, none⟩) 2 2 := f28
                rw [f28] at e101
                clear hA hd
                refine wpOp_step rfl (fun K' hK' => ?_)
                go_simp
                refine (mkof_any op (some ⟨k28, 0, none⟩) 2 2 _).mono ?_
                rintro e w6 ⟨rfl, hb6⟩
                exact hK' _ _ (hK _ _ ⟨k28, 0, 0, rfl, al1 (blk_step (hb28 _ (.head _)) hb6)⟩ hb6 no_al)
              · generalize hA : putsA _ _ x (0 :: 1 :: 2 :: 3 :: 4 :: 5 :: 6 :: 7 :: 8 :: 9 :: 10 :: 11 :: 12 :: 13 :: 14 :: 15 :: 16 :: 17 :: 18 :: 19 :: 20 :: 21 :: 22 :: 23 :: 24 :: 25 :: 26 :: 27 :: 28 :: 29 :: 30 :: 31 :: 32 :: 33 :: 34 :: 35 :: 36 :: 37 :: []) = A at *
                have e94 : A.tmps[94]? = some (x 21) := by rw [← hA]; exact putsA_in (i := 21) 94 (by rfl) (by show (94 : Nat) < 112; decide) _ (by decide +kernel) (by decide)
                obtain ⟨_, _, _, f21, _⟩ := hd 21 (by decide)
                replace f21 : x 21 = .bool false := f21
                rw [f21] at e94
                have e102 : A.tmps[102]? = some (x 29) := by rw [← hA]; exact putsA_in (i := 29) 102 (by rfl) (by show (102 : Nat) < 112; decide) _ (by decide +kernel) (by decide)
                obtain ⟨k29, ka29, kb29, f29, hb29⟩ := hd 29 (by decide)
                replace f29 : x 29 = .agg #[.int .u8 op, .int .u8 0, .int .i64 0, .string ⟨#[]⟩, .string ⟨#[]⟩, .string ⟨#[]⟩, .int .i64 0, .slice (some ⟨k29, 0, none⟩) 2 2] := f29
                rw [f29] at e102
                clear hA hd
                refine wpOp_step rfl (fun K' hK' => ?_)
                go_simp
                exact hK' _ _ (hK _ _ ⟨W.heap.size, k29, 0, rfl, alc (Blk.new _ _ _) (al1 ((hb29 _ (.head _)).alloc _))⟩ bs_one no_al)
              · generalize hA : putsA _ _ x (0 :: 1 :: 2 :: 3 :: 4 :: 5 :: 6 :: 7 :: 8 :: 9 :: 10 :: 11 :: 12 :: 13 :: 14 :: 15 :: 16 :: 17 :: 18 :: 19 :: 20 :: 21 :: 22 :: 23 :: 24 :: 25 :: 26 :: 27 :: 28 :: 29 :: 30 :: 31 :: 32 :: 33 :: 34 :: 35 :: 36 :: 37 :: []) = A at *
                have e94 : A.tmps[94]? = some (x 21) := by rw [← hA]; exact putsA_in (i := 21) 94 (by rfl) (by show (94 : Nat) < 112; decide) _ (by decide +kernel) (by decide)
                obtain ⟨_, _, _, f21, _⟩ := hd 21 (by decide)
                replace f21 : x 21 = .bool false := f21
                rw [f21] at e94
                have e103 : A.tmps[103]? = some (x 30) := by rw [← hA]; exact putsA_in (i := 30) 103 (by rfl) (by show (103 : Nat) < 112; decide) _ (by decide +kernel) (by decide)
                obtain ⟨k30, ka30, kb30, f30, hb30⟩ := hd 30 (by decide)
                replace f30 : x 30 = .slice (some ⟨k30, 0, none⟩) 1 1 := f30
                rw [f30] at e103
                clear hA hd
                refine wpOp_step rfl (fun K' hK' => ?_)
                go_simp
                refine (mkof_any 4 (some ⟨k30, 0, none⟩) 1 1 _).mono ?_
                rintro e w6 ⟨rfl, hb6⟩
                exact hK' _ _ (hK _ _ ⟨k30, ka30, 0, rfl, fun z hz => blk_step (hb30 z hz) hb6⟩ hb6 no_al)
              · generalize hA : putsA _ _ x (0 :: 1 :: 2 :: 3 :: 4 :: 5 :: 6 :: 7 :: 8 :: 9 :: 10 :: 11 :: 12 :: 13 :: 14 :: 15 :: 16 :: 17 :: 18 :: 19 :: 20 :: 21 :: 22 :: 23 :: 24 :: 25 :: 26 :: 27 :: 28 :: 29 :: 30 :: 31 :: 32 :: 33 :: 34 :: 35 :: 36 :: 37 :: []) = A at *
                have e94 : A.tmps[94]? = some (x 21) := by rw [← hA]; exact putsA_in (i := 21) 94 (by rfl) (by show (94 : Nat) < 112; decide) _ (by decide +kernel) (by decide)
                obtain ⟨_, _, _, f21, _⟩ := hd 21 (by decide)
                replace f21 : x 21 = .bool false := f21
                rw [f21] at e94
                have e104 : A.tmps[104]? = some (x 31) := by rw [← hA]; exact putsA_in (i := 31) 104 (by rfl) (by show (104 : Nat) < 112; decide) _ (by decide +kernel) (by decide)
                obtain ⟨k31, ka31, kb31, f31, hb31⟩ := hd 31 (by decide)
                replace f31 : x 31 = .agg #[.int .u8 4, .int .u8 0, .int .i64 0, .string ⟨#[]⟩, .string ⟨#[]⟩, .string ⟨#[]⟩, .int .i64 0, .slice (some ⟨k31, 0, none⟩) 1 1] := f31
                rw [f31] at e104
                clear hA hd
                have he := okx_eval 4 (some ⟨k31, 0, none⟩) 1 1 _ W (okx_not _ _ _ W (kids_1 (hb31 _ (.head _))) (okx_two op _ _ _ _ _ W HO.out (kids_2 (hb31 _ (.tail _ (.head _)))) (HLB.out W) (HLA.out W) HB.out HA.out) (bz_logic _ _ _))
                rw [logic_comm, HV.out] at he
                have HE := Lib.hid he
                clear he
                refine wpOp_step rfl (fun K' hK' => ?_)
                go_simp
                refine HE.out.mono ?_
                rintro e w6 ⟨rfl, hb6⟩
                exact hK' _ _ (hK _ _ ⟨0, 0, 0, rfl, al0⟩ hb6 no_al)
              · generalize hA : putsA _ _ x (0 :: 1 :: 2 :: 3 :: 4 :: 5 :: 6 :: 7 :: 8 :: 9 :: 10 :: 11 :: 12 :: 13 :: 14 :: 15 :: 16 :: 17 :: 18 :: 19 :: 20 :: 21 :: 22 :: 23 :: 24 :: 25 :: 26 :: 27 :: 28 :: 29 :: 30 :: 31 :: 32 :: 33 :: 34 :: 35 :: 36 :: 37 :: []) = A at *
                have e94 : A.tmps[94]? = some (x 21) := by rw [← hA]; exact putsA_in (i := 21) 94 (by rfl) (by show (94 : Nat) < 112; decide) _ (by decide +kernel) (by decide)
                obtain ⟨_, _, _, f21, _⟩ := hd 21 (by decide)
                replace f21 : x 21 = .bool false := f21
                rw [f21] at e94
                have e105 : A.tmps[105]? = some (x 32) := by rw [← hA]; exact putsA_in (i := 32) 105 (by rfl) (by show (105 : Nat) < 112; decide) _ (by decide +kernel) (by decide)
                obtain ⟨_, _, _, f32, _⟩ := hd 32 (by decide)
                replace f32 : x 32 = .tuple #[.agg #[.int .u8 v1, .int .i64 v2, .string v3], .int .i64 0] := f32
                rw [f32] at e105
                clear hA hd
                refine wpOp_step rfl (fun K' hK' => ?_)
                go_simp
                exact hK' _ _ (hK _ _ ⟨0, 0, 0, rfl, al0⟩ (Below.refl _ _) no_al)
              · generalize hA : putsA _ _ x (0 :: 1 :: 2 :: 3 :: 4 :: 5 :: 6 :: 7 :: 8 :: 9 :: 10 :: 11 :: 12 :: 13 :: 14 :: 15 :: 16 :: 17 :: 18 :: 19 :: 20 :: 21 :: 22 :: 23 :: 24 :: 25 :: 26 :: 27 :: 28 :: 29 :: 30 :: 31 :: 32 :: 33 :: 34 :: 35 :: 36 :: 37 :: []) = A at *
                have e94 : A.tmps[94]? = some (x 21) := by rw [← hA]; exact putsA_in (i := 21) 94 (by rfl) (by show (94 : Nat) < 112; decide) _ (by decide +kernel) (by decide)
                obtain ⟨_, _, _, f21, _⟩ := hd 21 (by decide)
                replace f21 : x 21 = .bool false := f21
                rw [f21] at e94
                have e105 : A.tmps[105]? = some (x 32) := by rw [← hA]; exact putsA_in (i := 32) 105 (by rfl) (by show (105 : Nat) < 112; decide) _ (by decide +kernel) (by decide)
                obtain ⟨_, _, _, f32, _⟩ := hd 32 (by decide)
                replace f32 : x 32 = .tuple #[.agg #[.int .u8 v1, .int .i64 v2, .string v3], .int .i64 0] := f32
                rw [f32] at e105
                clear hA hd
                refine wpOp_step rfl (fun K' hK' => ?_)
                go_simp
                exact hK' _ _ (hK _ _ ⟨0, 0, 0, rfl, al0⟩ (Below.refl _ _) no_al)
              · generalize hA : putsA _ _ x (0 :: 1 :: 2 :: 3 :: 4 :: 5 :: 6 :: 7 :: 8 :: 9 :: 10 :: 11 :: 12 :: 13 :: 14 :: 15 :: 16 :: 17 :: 18 :: 19 :: 20 :: 21 :: 22 :: 23 :: 24 :: 25 :: 26 :: 27 :: 28 :: 29 :: 30 :: 31 :: 32 :: 33 :: 34 :: 35 :: 36 :: 37 :: []) = A at *
                have e94 : A.tmps[94]? = some (x 21) := by rw [← hA]; exact putsA_in (i := 21) 94 (by rfl) (by show (94 : Nat) < 112; decide) _ (by decide +kernel) (by decide)
                obtain ⟨_, _, _, f21, _⟩ := hd 21 (by decide)
                replace f21 : x 21 = .bool false := f21
                rw [f21] at e94
                have e97 : A.tmps[97]? = some (x 24) := by rw [← hA]; exact putsA_in (i := 24) 97 (by rfl) (by show (97 : Nat) < 112; decide) _ (by decide +kernel) (by decide)
                obtain ⟨k24, ka24, kb24, f24, hb24⟩ := hd 24 (by decide)
                replace f24 : x 24 = .func (.func 32) #[] #[.pointer (some ⟨k24, 0, none⟩), .pointer (some ⟨ka24, 0, none⟩)] := f24
                rw [f24] at e97
                have e106 : A.tmps[106]? = some (x 33) := by rw [← hA]; exact putsA_in (i := 33) 106 (by rfl) (by show (106 : Nat) < 112; decide) _ (by decide +kernel) (by decide)
                obtain ⟨_, _, _, f33, _⟩ := hd 33 (by decide)
                replace f33 : x 33 = .agg #[.int .u8 v1, .int .i64 v2, .string v3] := f33
                rw [f33] at e106
                have e107 : A.tmps[107]? = some (x 34) := by rw [← hA]; exact putsA_in (i := 34) 107 (by rfl) (by show (107 : Nat) < 112; decide) _ (by decide +kernel) (by decide)
                obtain ⟨_, _, _, f34, _⟩ := hd 34 (by decide)
                replace f34 : x 34 = .int .i64 0 := f34
                rw [f34] at e107
                clear hA hd
                refine wpOp_step rfl (fun K' hK' => ?_)
                go_simp
                refine (isf_yes (v1, v2, v3) 0 k24 ka24 W ⟨hb24 _ (.head _), hb24 _ (.tail _ (.head _))⟩).mono ?_
                rintro e w6 ⟨rfl, hb6⟩
                exact hK' _ _ (hK _ _ ⟨0, 0, 0, rfl, al0⟩ hb6 no_al)
              · generalize hA : putsA _ _ x (0 :: 1 :: 2 :: 3 :: 4 :: 5 :: 6 :: 7 :: 8 :: 9 :: 10 :: 11 :: 12 :: 13 :: 14 :: 15 :: 16 :: 17 :: 18 :: 19 :: 20 :: 21 :: 22 :: 23 :: 24 :: 25 :: 26 :: 27 :: 28 :: 29 :: 30 :: 31 :: 32 :: 33 :: 34 :: 35 :: 36 :: 37 :: []) = A at *
                have e94 : A.tmps[94]? = some (x 21) := by rw [← hA]; exact putsA_in (i := 21) 94 (by rfl) (by show (94 : Nat) < 112; decide) _ (by decide +kernel) (by decide)
                obtain ⟨_, _, _, f21, _⟩ := hd 21 (by decide)
                replace f21 : x 21 = .bool false := f21
                rw [f21] at e94
                have e108 : A.tmps[108]? = some (x 35) := by rw [← hA]; exact putsA_in (i := 35) 108 (by rfl) (by show (108 : Nat) < 112; decide) _ (by decide +kernel) (by decide)
                obtain ⟨_, _, _, f35, _⟩ := hd 35 (by decide)
                replace f35 : x 35 = .bool true := f35
                rw [f35] at e108
                clear hA hd
                refine wpOp_step rfl (fun K' hK' => ?_)
                go_simp
                exact hK' _ _ (hK _ _ ⟨0, 0, 0, rfl, al0⟩ (Below.refl _ _) no_al)
              · generalize hA : putsA _ _ x (0 :: 1 :: 2 :: 3 :: 4 :: 5 :: 6 :: 7 :: 8 :: 9 :: 10 :: 11 :: 12 :: 13 :: 14 :: 15 :: 16 :: 17 :: 18 :: 19 :: 20 :: 21 :: 22 :: 23 :: 24 :: 25 :: 26 :: 27 :: 28 :: 29 :: 30 :: 31 :: 32 :: 33 :: 34 :: 35 :: 36 :: 37 :: []) = A at *
                have e94 : A.tmps[94]? = some (x 21) := by rw [← hA]; exact putsA_in (i := 21) 94 (by rfl) (by show (94 : Nat) < 112; decide) _ (by decide +kernel) (by decide)
                obtain ⟨_, _, _, f21, _⟩ := hd 21 (by decide)
                replace f21 : x 21 = .bool false := f21
                rw [f21] at e94
                have e109 : A.tmps[109]? = some (x 36) := by rw [← hA]; exact putsA_in (i := 36) 109 (by rfl) (by show (109 : Nat) < 112; decide) _ (by decide +kernel) (by decide)
                obtain ⟨_, _, _, f36, _⟩ := hd 36 (by decide)
                replace f36 : x 36 = .bool false := f36
                rw [f36] at e109
                clear hA hd
                refine wpOp_step rfl (fun K' hK' => ?_)
                go_simp
                exact hK' _ _ (hK _ _ ⟨0, 0, 0, rfl, al0⟩ (Below.refl _ _) no_al)
            case hend =>
              intro x W hf hg hb
              have HS6 := Lib.hid (bs_below HS5.out hb)
              clear HS5 hb hg
              have h37 : x 37 = .bool false := by
                obtain ⟨_, _, _, h, _⟩ := hf 37 (by decide)
                exact h
              rw [putsA_lit _ _ (0 :: 1 :: 2 :: 3 :: 4 :: 5 :: 6 :: 7 :: 8 :: 9 :: 10 :: 11 :: 12 :: 13 :: 14 :: 15 :: 16 :: 17 :: 18 :: 19 :: 20 :: 21 :: 22 :: 23 :: 24 :: 25 :: 26 :: 27 :: 28 :: 29 :: 30 :: 31 :: 32 :: 33 :: 34 :: 35 :: 36 :: 37 :: []) ((73, 0) :: (74, 1) :: (75, 2) :: (76, 3) :: (77, 4) :: (78, 5) :: (79, 6) :: (80, 7) :: (81, 8) :: (82, 9) :: (83, 10) :: (84, 11) :: (85, 12) :: (86, 13) :: (87, 14) :: (88, 15) :: (89, 16) :: (90, 17) :: (91, 18) :: (92, 19) :: (93, 20) :: (94, 21) :: (95, 22) :: (96, 23) :: (97, 24) :: (98, 25) :: (99, 26) :: (100, 27) :: (101, 28) :: (102, 29) :: (103, 30) :: (104, 31) :: (105, 32) :: (106, 33) :: (107, 34) :: (108, 35) :: (109, 36) :: (110, 37) :: []) (by kernel_rfl)]
              simp only [setAll, ↓reduceIte, Nat.reduceAdd, Nat.reduceEqDiff]
              rw [h37]
              clear hf h37
              refine wpAny_done (by kernel_rfl) ?_ _
              refine NoPanic.normal ?_
              have HSE := Lib.hid (bs_rebase (B' := lbxy g4 g5 (p, q, ⟨#[]⟩) (p', q', ⟨#[]⟩)) HS6.out (fun z hz => .inl (.tail _ hz)))
              clear HS6
              have hkI : (k : Int) ≤ 2 := by have := HK.out; omega
              go_wp2
              go_roundw
              case rel => exact ⟨k + 1, by have := HK.out; omega, by go_num, HSE.out⟩
              case measure =>
                have := HK.out
                simp [intOf]
                omega
end Go.Proofs.Ytkgpcodccpckeaa
