/- frame.words and frame.Take. Conditions: the numbers fit their kinds, a text is no longer than a machine has addresses. -/
import Derived.Test.YthipaabjmlgjmaaFramePut
import Derived.Test.YthipaabjmlgjmaaFrameTakeHead
namespace Go.Proofs.Ythipaabjmlgjmaa
open Go.RowKit
def wordX (s : ByteArray) (k : Nat) : Nat := (fixedS (bts (s.extract (4 * k) s.size)) 4).1
def wordArr (X : Nat → Nat) (j : Nat) : Array Value := #[.int .u32 (if 0 < j then X 0 else 0 : Nat), .int .u32 (if 1 < j then X 1 else 0 : Nat), .int .u32 (if 2 < j then X 2 else 0 : Nat), .int .u32 (if 3 < j then X 3 else 0 : Nat), .int .u32 (if 4 < j then X 4 else 0 : Nat), .int .u32 (if 5 < j then X 5 else 0 : Nat)]
theorem wordArr_at (X : Nat → Nat) (j : Nat) (h : j < 6) : (wordArr X j)[j]? = some (.int .u32 0) := by
  obtain rfl | rfl | rfl | rfl | rfl | rfl : j = 0 ∨ j = 1 ∨ j = 2 ∨ j = 3 ∨ j = 4 ∨ j = 5 := by omega
  all_goals rfl
theorem wordArr_set (X : Nat → Nat) (j : Nat) (h : j < 6) : (wordArr X j).setIfInBounds j (.int .u32 (X j)) = wordArr X (j + 1) := by
  obtain rfl | rfl | rfl | rfl | rfl | rfl : j = 0 ∨ j = 1 ∨ j = 2 ∨ j = 3 ∨ j = 4 ∨ j = 5 := by omega
  all_goals rfl
set_option maxRecDepth 100000 in
set_option maxHeartbeats 2000000 in
theorem words_any (s : ByteArray) (w : World) (h : 24 ≤ s.size) (hz : s.size ≤ 140737488351232) :
    Calls Try.prog 82 #[.string s] w fun e w' => e = .returned (.agg #[.int .u32 (wordX s 0), .int .u32 (wordX s 1), .int .u32 (wordX s 2), .int .u32 (wordX s 3), .int .u32 (wordX s 4), .int .u32 (wordX s 5)]) ∧ Below w.heap.size w w' := by
  have hcall := fun (j : Nat) (w : World) => takeFour_any (s.extract (4 * j) s.size) w (by simp; unfold maxLen; omega)
  have HC := Lib.hid hcall
  clear hcall
  go_enter Try.func82, Try.ntmps82
  go_wp2
  go_loopw [4] (fun i wr => ∃ j : Nat, j ≤ 6 ∧ i = .int .i64 j ∧ Blk wr w.heap.size 141 (wordArr (wordX s) j) ∧ Below w.heap.size w wr) (fun i _ => 6 - (intOf i).toNat)
  case atStart => exact ⟨0, by omega, rfl, Blk.new _ _ _, (Below.refl _ _).alloc (Nat.le_refl _) _⟩
  case round =>
    obtain ⟨j, hj, rfl, hB, hb⟩ := hrel
    by_cases hj6 : j < 6
    · have h4 : (4 * j : Int) ≤ s.size := by omega
      have r := hB.cell j
      rw [wordArr_at _ _ hj6] at r
      have f := hB.frozen j
      go_wp2_with fail
      refine (HC.out j _).mono ?_
      rintro e w3 ⟨rfl, rfl⟩
      have HB := Lib.hid hB
      clear hB
      go_wp2
      go_roundw
      case rel => exact ⟨j + 1, by omega, by go_num, by rw [← wordArr_set _ _ hj6]; exact HB.out.set_ j _, hb.setCell (Nat.le_refl _) _⟩
      case measure => simp [intOf]; omega
    · obtain rfl : j = 6 := by omega
      have r0 : wr.cell? ⟨w.heap.size, 0, none⟩ = some (.int .u32 (wordX s 0)) := hB.cell 0
      have r1 : wr.cell? ⟨w.heap.size, 1, none⟩ = some (.int .u32 (wordX s 1)) := hB.cell 1
      have r2 : wr.cell? ⟨w.heap.size, 2, none⟩ = some (.int .u32 (wordX s 2)) := hB.cell 2
      have r3 : wr.cell? ⟨w.heap.size, 3, none⟩ = some (.int .u32 (wordX s 3)) := hB.cell 3
      have r4 : wr.cell? ⟨w.heap.size, 4, none⟩ = some (.int .u32 (wordX s 4)) := hB.cell 4
      have r5 : wr.cell? ⟨w.heap.size, 5, none⟩ = some (.int .u32 (wordX s 5)) := hB.cell 5
      have f0 := hB.frozen 0
      have f1 := hB.frozen 1
      have f2 := hB.frozen 2
      have f3 := hB.frozen 3
      have f4 := hB.frozen 4
      have f5 := hB.frozen 5
      clear hB
      go_wp2
      refine bodyPost_ret (v := .agg #[.int .u32 (wordX s 0), .int .u32 (wordX s 1), .int .u32 (wordX s 2), .int .u32 (wordX s 3), .int .u32 (wordX s 4), .int .u32 (wordX s 5)]) (by simp [results, Try.results82, go_sem, r0, r1, r2, r3, r4, r5]) rfl ⟨rfl, ?_⟩
      exact (((((hb.setCell (Nat.le_refl _) _).setCell (Nat.le_refl _) _).setCell (Nat.le_refl _) _).setCell (Nat.le_refl _) _).setCell (Nat.le_refl _) _).setCell (Nat.le_refl _) _
set_option maxRecDepth 100000 in
set_option maxHeartbeats 2000000 in
theorem take_len (p1 p2 salt : Int) (s : ByteArray) (w : World) (hs : s.size < 576) :
    Calls Try.prog 56 #[.agg #[.int .u32 p1, .int .u32 p2], .int .u64 salt, .string s] w fun e w' => e = .returned (.tuple #[.agg #[.int .i64 0, .int .i64 0, .string ⟨#[]⟩], .agg #[.int .u32 0, .int .u32 0], .int .i64 10]) ∧ Below w.heap.size w w' := by
  go_enter Try.func56, Try.ntmps56
  go_wp2
  refine bodyPost_ret (v := .tuple #[.agg #[.int .i64 0, .int .i64 0, .string ⟨#[]⟩], .agg #[.int .u32 0, .int .u32 0], .int .i64 10]) (by simp [results, Try.results56, go_sem]) rfl ⟨rfl, ?_⟩
  exact ((((Below.refl _ _).alloc (Nat.le_refl _) _).alloc (by simp) _).alloc (by simp; omega) _)
structure TakeIn (s Z : ByteArray) (p1 p2 A1 A2 Q1 Q2 : Int) (z : Bool) : Prop where
  hW : ∀ w, Calls Try.prog 82 #[.string s] w fun e w' => e = .returned (.agg #[.int .u32 (wordX s 0), .int .u32 (wordX s 1), .int .u32 (wordX s 2), .int .u32 (wordX s 3), .int .u32 (wordX s 4), .int .u32 (wordX s 5)]) ∧ Below w.heap.size w w'
  hn : ∀ w, Calls Try.prog 73 #[.int .i64 40] w fun e w' => e = .returned (.string Z) ∧ Below w.heap.size w w'
  h1 : ∀ w, Calls Try.prog 83 #[.agg #[.int .u32 p1, .int .u32 p2], .string (s.extract 0 16)] w fun e w' => e = .returned (.agg #[.int .u32 A1, .int .u32 A2]) ∧ Below w.heap.size w w'
  h2 : ∀ w, Calls Try.prog 83 #[.agg #[.int .u32 A1, .int .u32 A2], .string (s.extract 64 576)] w fun e w' => e = .returned (.agg #[.int .u32 Q1, .int .u32 Q2]) ∧ Below w.heap.size w w'
  hz : ((s.extract 24 64).toList == Z.toList) = z
theorem tin {s Z : ByteArray} {p1 p2 A1 A2 Q1 Q2 : Int} {z : Bool} (h : Hid (TakeIn s Z p1 p2 A1 A2 Q1 Q2 z)) : TakeIn s Z p1 p2 A1 A2 Q1 Q2 z := h
def wordsA (s : ByteArray) : Array Value := #[.int .u32 (wordX s 0), .int .u32 (wordX s 1), .int .u32 (wordX s 2), .int .u32 (wordX s 3), .int .u32 (wordX s 4), .int .u32 (wordX s 5)]
def Tk (w : World) (p1 p2 : Int) (s : ByteArray) (g9 : Nat) (W : World) : Prop :=
  Blk W w.heap.size 73 #[.int .u32 p1, .int .u32 p2] ∧ Blk W (w.heap.size + 1) 61 #[.int .i64 0, .int .i64 0, .string ⟨#[]⟩] ∧ Blk W (w.heap.size + 1 + 1) 73 #[.int .u32 0, .int .u32 0] ∧ Blk W g9 141 (wordsA s) ∧ w.heap.size + 1 + 1 < g9 ∧ Below w.heap.size w W
theorem tk_below {w W w' : World} {p1 p2 : Int} {s : ByteArray} {g9 : Nat} (hb : Below W.heap.size W w') (h : Tk w p1 p2 s g9 W) : Tk w p1 p2 s g9 w' := by
  obtain ⟨h0, h1, h2, h3, h4, hw⟩ := h
  exact ⟨blk_step h0 hb, blk_step h1 hb, blk_step h2 hb, blk_step h3 hb, h4, bj hw hb⟩
theorem tk_alloc {w W : World} {p1 p2 : Int} {s : ByteArray} {g9 : Nat} (o : Obj) (h : Tk w p1 p2 s g9 W) : Tk w p1 p2 s g9 (W.alloc o) := tk_below ((Below.refl _ _).alloc (Nat.le_refl _) _) h
theorem tk_drew {w W : World} {p1 p2 : Int} {s : ByteArray} {g9 : Nat} (h : Tk w p1 p2 s g9 W) : Tk w p1 p2 s g9 W.drew := tk_below (Below.refl _ _).drew h
theorem tk_set {w W : World} {p1 p2 : Int} {s : ByteArray} {g9 : Nat} (h : Tk w p1 p2 s g9 W) (p : Addr) (v : Value) (hp : g9 < p.block) : Tk w p1 p2 s g9 (W.setCell p v) := by
  obtain ⟨h0, h1, h2, h3, h4, hw⟩ := h
  exact ⟨h0.far (by omega) v, h1.far (by omega) v, h2.far (by omega) v, h3.far (by omega) v, h4, hw.setCell (by omega) v⟩
theorem tk_new (w : World) (p1 p2 : Int) (s : ByteArray) (w1 : World) (hb : Below (((w.alloc (.cells #[.int .u32 p1, .int .u32 p2] 73)).alloc (.cells #[.int .i64 0, .int .i64 0, .string ⟨#[]⟩] 61)).alloc (.cells #[.int .u32 0, .int .u32 0] 73)).heap.size (((w.alloc (.cells #[.int .u32 p1, .int .u32 p2] 73)).alloc (.cells #[.int .i64 0, .int .i64 0, .string ⟨#[]⟩] 61)).alloc (.cells #[.int .u32 0, .int .u32 0] 73)) w1) :
    Tk w p1 p2 s w1.heap.size (w1.alloc (.cells (wordsA s) 141)) := by
  have h0 := (((blk_new w w.heap.size 73 #[.int .u32 p1, .int .u32 p2] rfl).alloc (.cells #[.int .i64 0, .int .i64 0, .string ⟨#[]⟩] 61)).alloc (.cells #[.int .u32 0, .int .u32 0] 73))
  have h1 := (blk_new (w.alloc (.cells #[.int .u32 p1, .int .u32 p2] 73)) (w.heap.size + 1) 61 #[.int .i64 0, .int .i64 0, .string ⟨#[]⟩] (by simp)).alloc (.cells #[.int .u32 0, .int .u32 0] 73)
  have h2 := blk_new (((w.alloc (.cells #[.int .u32 p1, .int .u32 p2] 73)).alloc (.cells #[.int .i64 0, .int .i64 0, .string ⟨#[]⟩] 61))) (w.heap.size + 1 + 1) 73 #[.int .u32 0, .int .u32 0] (by simp)
  have hw := ((((Below.refl w.heap.size w).alloc (Nat.le_refl _) (.cells #[.int .u32 p1, .int .u32 p2] 73)).alloc (by simp) (.cells #[.int .i64 0, .int .i64 0, .string ⟨#[]⟩] 61)).alloc (by simp; omega) (.cells #[.int .u32 0, .int .u32 0] 73))
  have k2 := blk_step h2 hb
  exact ⟨(blk_step h0 hb).alloc _, (blk_step h1 hb).alloc _, k2.alloc _, blk_new _ _ _ _ rfl, k2.lt, (bj hw hb).alloc (bj hw hb).size _⟩
def takeZero (e : Int) : Value := .tuple #[.agg #[.int .i64 0, .int .i64 0, .string ⟨#[]⟩], .agg #[.int .u32 0, .int .u32 0], .int .i64 e]
def takeRet (z b sa su : Bool) (pg cm : Int) (d : ByteArray) (Q1 Q2 : Int) : Value :=
  if z && b then if sa then if su then .tuple #[.agg #[.int .i64 pg, .int .i64 cm, .string d], .agg #[.int .u32 Q1, .int .u32 Q2], .int .i64 0] else takeZero 40 else takeZero 41 else takeZero 11
def Tl (w : World) (p1 p2 : Int) (s : ByteArray) (g9 g10 : Nat) (W : World) : Prop :=
  Tk w p1 p2 s g9 W ∧ Blk W g10 61 #[.int .i64 (wordX s 0), .int .i64 (wordX s 1), .string (s.extract 64 576)] ∧ g9 < g10
theorem tl_below {w W w' : World} {p1 p2 : Int} {s : ByteArray} {g9 g10 : Nat} (hb : Below W.heap.size W w') (h : Tl w p1 p2 s g9 g10 W) : Tl w p1 p2 s g9 g10 w' := ⟨tk_below hb h.1, blk_step h.2.1 hb, h.2.2⟩
theorem tl_alloc {w W : World} {p1 p2 : Int} {s : ByteArray} {g9 g10 : Nat} (o : Obj) (h : Tl w p1 p2 s g9 g10 W) : Tl w p1 p2 s g9 g10 (W.alloc o) := tl_below ((Below.refl _ _).alloc (Nat.le_refl _) _) h
theorem tl_drew {w W : World} {p1 p2 : Int} {s : ByteArray} {g9 g10 : Nat} (h : Tl w p1 p2 s g9 g10 W) : Tl w p1 p2 s g9 g10 W.drew := tl_below (Below.refl _ _).drew h
theorem tl_set {w W : World} {p1 p2 : Int} {s : ByteArray} {g9 g10 : Nat} (h : Tl w p1 p2 s g9 g10 W) (p : Addr) (v : Value) (hp : g10 < p.block) : Tl w p1 p2 s g9 g10 (W.setCell p v) := ⟨tk_set h.1 p v (by have := h.2.2; omega), h.2.1.far (by omega) v, h.2.2⟩
theorem tl_lt {w W : World} {p1 p2 : Int} {s : ByteArray} {g9 g10 : Nat} (h : Tl w p1 p2 s g9 g10 W) : g10 < W.heap.size := h.2.1.lt
theorem tlS {w W : World} {p1 p2 : Int} {s : ByteArray} {g9 g10 : Nat} (h : Tl w p1 p2 s g9 g10 W) :
    W.cell? ⟨w.heap.size, 0, none⟩ = some (.int .u32 p1) ∧ W.cell? ⟨w.heap.size, 1, none⟩ = some (.int .u32 p2) ∧ W.cell? ⟨g10, 2, none⟩ = some (.string (s.extract 64 576)) ∧ Tl w p1 p2 s g9 g10 W := ⟨h.1.1.cell 0, h.1.1.cell 1, h.2.1.cell 2, h⟩
theorem tlR {w W : World} {p1 p2 : Int} {s : ByteArray} {g9 g10 : Nat} (h : Tl w p1 p2 s g9 g10 W) :
    W.cell? ⟨w.heap.size + 1, 0, none⟩ = some (.int .i64 0) ∧ W.cell? ⟨w.heap.size + 1, 1, none⟩ = some (.int .i64 0) ∧ W.cell? ⟨w.heap.size + 1, 2, none⟩ = some (.string ⟨#[]⟩) ∧ W.cell? ⟨w.heap.size + 1 + 1, 0, none⟩ = some (.int .u32 0) ∧ W.cell? ⟨w.heap.size + 1 + 1, 1, none⟩ = some (.int .u32 0) ∧
    W.frozen? ⟨w.heap.size + 1, 0, none⟩ = false ∧ W.frozen? ⟨w.heap.size + 1, 1, none⟩ = false ∧ W.frozen? ⟨w.heap.size + 1, 2, none⟩ = false ∧ W.frozen? ⟨w.heap.size + 1 + 1, 0, none⟩ = false ∧ W.frozen? ⟨w.heap.size + 1 + 1, 1, none⟩ = false ∧ Below w.heap.size w W := by
  obtain ⟨⟨_, h1, h2, _, _, hw⟩, _, _⟩ := h
  exact ⟨h1.cell 0, h1.cell 1, h1.cell 2, h2.cell 0, h2.cell 1, h1.frozen 0, h1.frozen 1, h1.frozen 2, h2.frozen 0, h2.frozen 1, hw⟩
theorem tlF {w W : World} {p1 p2 : Int} {s : ByteArray} {g9 g10 : Nat} (h : Tl w p1 p2 s g9 g10 W) :
    W.cell? ⟨g10, 0, none⟩ = some (.int .i64 (wordX s 0)) ∧ W.cell? ⟨g10, 1, none⟩ = some (.int .i64 (wordX s 1)) ∧ W.cell? ⟨g10, 2, none⟩ = some (.string (s.extract 64 576)) := ⟨h.2.1.cell 0, h.2.1.cell 1, h.2.1.cell 2⟩
theorem tlW {w W : World} {p1 p2 : Int} {s : ByteArray} {g9 g10 : Nat} (h : Tl w p1 p2 s g9 g10 W) :
    W.cell? ⟨g9, 2, none⟩ = some (.int .u32 (wordX s 2)) ∧ W.cell? ⟨g9, 3, none⟩ = some (.int .u32 (wordX s 3)) ∧ W.cell? ⟨g9, 4, none⟩ = some (.int .u32 (wordX s 4)) ∧ W.cell? ⟨g9, 5, none⟩ = some (.int .u32 (wordX s 5)) := by
  obtain ⟨⟨_, _, _, h3, _⟩, _⟩ := h
  exact ⟨h3.cell 2, h3.cell 3, h3.cell 4, h3.cell 5⟩
theorem take_end {w W : World} (hw : Below w.heap.size w W) (a b c d e : Value) : Below w.heap.size w (((((W.setCell ⟨w.heap.size + 1, 0, none⟩ a).setCell ⟨w.heap.size + 1, 1, none⟩ b).setCell ⟨w.heap.size + 1, 2, none⟩ c).setCell ⟨w.heap.size + 1 + 1, 0, none⟩ d).setCell ⟨w.heap.size + 1 + 1, 1, none⟩ e) :=
  ((((hw.setCell (by simp) _).setCell (by simp) _).setCell (by simp) _).setCell (by simp; omega) _).setCell (by simp; omega) _
theorem lt_four {x : Nat} (h : x < 256 ^ 4) : (x : Int) < 4294967296 := by
  have e : (256 : Nat) ^ 4 = 4294967296 := by decide
  omega
theorem wordX_lt (s : ByteArray) (k : Nat) : (wordX s k : Int) < 4294967296 := lt_four (fixedS_lt (s.extract (4 * k) s.size) 4)
set_option maxRecDepth 100000 in
set_option maxHeartbeats 8000000 in
theorem take_core (p1 p2 salt A1 A2 Q1 Q2 : Int) (s Z : ByteArray) (z b sa su : Bool) (w : World) (hs : 576 ≤ s.size) (H : Hid (TakeIn s Z p1 p2 A1 A2 Q1 Q2 z))
    (hm : okF (wordX s 0) (wordX s 1) (s.extract 64 576).size = b) (hsa : (bits .or .u64 ((wordX s 2 : Int) * 4294967296) (wordX s 3 : Int) != salt) = !sa) (hsu : decide (Q1 = wordX s 4 ∧ Q2 = wordX s 5) = su) :
    Calls Try.prog 56 #[.agg #[.int .u32 p1, .int .u32 p2], .int .u64 salt, .string s] w fun e w' => e = .returned (takeRet z b sa su (wordX s 0) (wordX s 1) (s.extract 64 576) Q1 Q2) ∧ Below w.heap.size w w' := by
  have hsI : (576 : Int) ≤ s.size := by omega
  have hsI2 : (64 : Int) ≤ s.size := by omega
  have hsI3 : (16 : Int) ≤ s.size := by omega
  have HM := Lib.hid hm
  have HSA := Lib.hid hsa
  have HSU := Lib.hid hsu
  clear hm hsa hsu
  go_enter Try.func56, Try.ntmps56
  go_wp2_with fail
  refine ((tin H).hW _).mono ?_
  rintro e w1 ⟨rfl, hb1⟩
  have hk0 := tk_new w p1 p2 s w1 hb1
  clear hb1
  go_upto_region 4 with fail
  go_cut [10] (fun s10 wx => ∃ g10, s10 = .pointer (some ⟨g10, 0, none⟩) ∧ Tl w p1 p2 s w1.heap.size g10 wx)
  case first =>
    have hx0 := wordX_lt s 0
    have hx1 := wordX_lt s 1
    go_region
    all_goals go_wp2_with fail
    all_goals go_meet
    exact ⟨w1.heap.size + 1, rfl, tk_drew (tk_alloc _ hk0), blk_new _ _ _ _ (by simp), by omega⟩
  case rest =>
    obtain ⟨g10, rfl, hl⟩ := hcut
    clear hk0
    have hld := tl_drew hl
    generalize w1.heap.size = g9 at *
    go_upto_region 5 with fail
    go_cut [11] (fun s11 wx => ∃ g11, s11 = .pointer (some ⟨g11, 0, none⟩) ∧ g10 < g11 ∧ Tl w p1 p2 s g9 g10 wx ∧ Blk wx g11 73 #[.int .u32 Q1, .int .u32 Q2])
    case first =>
      go_region_held3 (fun w' => w'.cell? ⟨w.heap.size, 0, none⟩ = some (.int .u32 p1) ∧ w'.cell? ⟨w.heap.size, 1, none⟩ = some (.int .u32 p2) ∧ w'.cell? ⟨g10, 2, none⟩ = some (.string (s.extract 64 576)) ∧ Tl w p1 p2 s g9 g10 w')
        (first | exact tlS hld | exact tlS hk3 | exact tlS hk4 | exact tlS (tl_alloc _ hld) | exact tlS (tl_alloc _ hk3) | exact tlS (tl_alloc _ hk4) | exact tlS (tl_set hk4 _ _ (by first | (have h := tl_lt hld; exact h) | (have h := tl_lt hk3; exact h))) | exact tlS (tl_set (tl_set hk4 _ _ (by first | (have h := tl_lt hld; exact h) | (have h := tl_lt hk3; exact h))) _ _ (by first | (have h := tl_lt hld; exact h) | (have h := tl_lt hk3; exact h))))
        (first
          | (go_at_call 83; (with_reducible refine ((tin H).h1 _).mono ?_); rintro e w3 ⟨rfl, hb3⟩; (have hk3 := tl_below hb3 (by first | exact hld | exact tl_alloc _ hld)); (try (have hq := blk_at' hb3)))
          | (go_at_call 83; (with_reducible refine ((tin H).h2 _).mono ?_); rintro e w4 ⟨rfl, hb4⟩; (have hk4 := tl_below hb4 (by first | exact hk3 | exact tl_alloc _ hk3)); (try (have hq := blk_at hb4)); (try (replace hq := blk_step hq hb4)); (try (have r0 := hq.cell 0; have r1 := hq.cell 1; have f0 := hq.frozen 0; have f1 := hq.frozen 1))))
      all_goals (go_wp2_with fail; go_meet; rename_i hP; exact ⟨_, rfl, (by first | (have h := tl_lt hld; exact h) | (have h := tl_lt hk3; exact h) | (have h := tl_lt hk4; exact h)), hP.2.2.2, by first | exact blk_new _ _ _ _ rfl | exact blk2 hq⟩)
    case rest =>
      obtain ⟨g11, rfl, hg, hl2, hq⟩ := hcut
      have hz := (tin H).hz
      go_wp2_with fail
      cases z
      · have hres : takeRet false b sa su (wordX s 0) (wordX s 1) (s.extract 64 576) Q1 Q2 = takeZero 11 := rfl
        have HRES := Lib.hid hres
        clear hres
        go_region_with ((go_at_call 73; (with_reducible refine ((tin H).hn _).mono ?_); rintro e w4 ⟨rfl, hb4⟩; (obtain ⟨r0, r1, r2, r3, r4, f0, f1, f2, f3, f4, hw⟩ := tlR (tl_below hb4 (tl_drew hl2)))))
        all_goals go_wp2
        refine bodyPost_ret (v := takeZero 11) (by simp [takeZero, results, Try.results56, go_sem, r0, r1, r2, r3, r4]) rfl ⟨by rw [HRES.out], take_end hw _ _ _ _ _⟩
      · go_upto_region 6 with fail
        go_cut [35] (fun s35 wx => s35 = .bool (!b) ∧ Tl w p1 p2 s g9 g10 wx ∧ Blk wx g11 73 #[.int .u32 Q1, .int .u32 Q2])
        case first =>
          go_region_with (first | (go_at_call 73; (with_reducible refine ((tin H).hn _).mono ?_); rintro e w4 ⟨rfl, hb4⟩; (have hl4 := tl_below hb4 (tl_drew hl2)); (have hq4 := blk_step hq.drew hb4); (obtain ⟨c0, c1, c2⟩ := tlF hl4)) | (go_at_call 84; (with_reducible refine (mayBe_any _ _ _ b _ HM.out).mono ?_); rintro e w5 ⟨rfl, hb5⟩))
          all_goals (go_wp2_with fail; go_meet)
          exact ⟨rfl, tl_below hb5 hl4, blk_step hq4 hb5⟩
        case rest =>
          obtain ⟨rfl, hl5, hq5⟩ := hcut
          obtain ⟨r0, r1, r2, r3, r4, f0, f1, f2, f3, f4, hw⟩ := tlR hl5
          obtain ⟨x2, x3, x4, x5⟩ := tlW hl5
          obtain ⟨c0, c1, c2⟩ := tlF hl5
          have q0 : wc.cell? ⟨g11, 0, none⟩ = some (.int .u32 Q1) := hq5.cell 0
          have q1 : wc.cell? ⟨g11, 1, none⟩ = some (.int .u32 Q2) := hq5.cell 1
          have n0 := hl5.1.2.2.2.2.1
          have h90 := hl5.2.2
          clear hq hl hl2 hld hl5 hq5 hz H
          cases b
          · have hres : takeRet true false sa su (wordX s 0) (wordX s 1) (s.extract 64 576) Q1 Q2 = takeZero 11 := rfl
            have HRES := Lib.hid hres
            clear hres
            go_wp2
            refine bodyPost_ret (v := takeZero 11) (by simp [takeZero, results, Try.results56, go_sem, r0, r1, r2, r3, r4]) rfl ⟨by rw [HRES.out], take_end hw _ _ _ _ _⟩
          · have hy2 := wordX_lt s 2
            have hy3 := wordX_lt s 3
            have hn2 : (0 : Int) ≤ wordX s 2 := by omega
            have hn3 : (0 : Int) ≤ wordX s 3 := by omega
            generalize (wordX s 2 : Int) = y2 at *
            generalize (wordX s 3 : Int) = y3 at *
            have hres1 : ∀ X : Bool, takeRet true true false X (wordX s 0) (wordX s 1) (s.extract 64 576) Q1 Q2 = takeZero 41 := fun _ => rfl
            have hres2 : takeRet true true true false (wordX s 0) (wordX s 1) (s.extract 64 576) Q1 Q2 = takeZero 40 := rfl
            have HRES1 := Lib.hid hres1
            have HRES2 := Lib.hid hres2
            clear hres1 hres2
            go_wp2_with fail
            · have h1 : (bits BinOp.or IntKind.u64 (y2 * 4294967296) y3 != salt) = true := by assumption
              have hA := HSA.out
              rw [h1] at hA
              obtain rfl : sa = false := by cases sa with | false => rfl | true => exact absurd hA (by decide)
              refine bodyPost_ret (v := takeZero 41) (by simp [takeZero, results, Try.results56, go_sem, r0, r1, r2, r3, r4]) rfl ⟨by rw [HRES1.out], take_end hw _ _ _ _ _⟩
            · have h1 : (bits BinOp.or IntKind.u64 (y2 * 4294967296) y3 != salt) = false := by assumption
              have h2 : Q1 = ↑(wordX s 4) := by assumption
              have h3 : Q2 = ↑(wordX s 5) := by assumption
              subst h2 h3
              have hA := HSA.out
              rw [h1] at hA
              obtain rfl : sa = true := by cases sa with | true => rfl | false => exact absurd hA (by decide)
              obtain rfl : su = true := by rw [← HSU.out]; simp
              have n1 : ¬ g10 = w.heap.size + 1 := by omega
              have n2 : ¬ g10 = w.heap.size + 1 + 1 := by omega
              have n3 : ¬ g11 = w.heap.size + 1 := by omega
              have n4 : ¬ g11 = w.heap.size + 1 + 1 := by omega
              have n1' : ¬ w.heap.size + 1 = g10 := by omega
              have n2' : ¬ w.heap.size + 1 + 1 = g10 := by omega
              have n3' : ¬ w.heap.size + 1 = g11 := by omega
              have n4' : ¬ w.heap.size + 1 + 1 = g11 := by omega
              have d0 : wc.drew.frozen? ⟨w.heap.size + 1, 0, none⟩ = false := f0
              have d1 : wc.drew.frozen? ⟨w.heap.size + 1, 1, none⟩ = false := f1
              have d2 : wc.drew.frozen? ⟨w.heap.size + 1, 2, none⟩ = false := f2
              have d3 : wc.drew.frozen? ⟨w.heap.size + 1 + 1, 0, none⟩ = false := f3
              have d4 : wc.drew.frozen? ⟨w.heap.size + 1 + 1, 1, none⟩ = false := f4
              clear h1 hA hy2 hy3 hn2 hn3 x2 x3 x4 x5 HRES1 HRES2 HSA HSU HM n0 h90 hs hsI hsI2 hsI3
              go_region
              all_goals go_wp2_with fail
              refine bodyPost_ret (v := .tuple #[.agg #[.int .i64 (wordX s 0), .int .i64 (wordX s 1), .string (s.extract 64 576)], .agg #[.int .u32 (wordX s 4), .int .u32 (wordX s 5)], .int .i64 0]) (by simp [results, Try.results56, go_sem, r0, r1, r2, r3, r4]) rfl ⟨rfl, (take_end hw _ _ _ _ _).drew⟩
            all_goals
              have h1 : (bits BinOp.or IntKind.u64 (y2 * 4294967296) y3 != salt) = false := by assumption
              have hA := HSA.out
              rw [h1] at hA
              obtain rfl : sa = true := by cases sa with | true => rfl | false => exact absurd hA (by decide)
              obtain rfl : su = false := by rw [← HSU.out]; simp; omega
              refine bodyPost_ret (v := takeZero 40) (by simp [takeZero, results, Try.results56, go_sem, r0, r1, r2, r3, r4]) rfl ⟨by rw [HRES2.out], take_end hw _ _ _ _ _⟩
end Go.Proofs.Ythipaabjmlgjmaa
