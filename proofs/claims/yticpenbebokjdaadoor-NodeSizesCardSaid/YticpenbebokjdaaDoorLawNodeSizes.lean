/- The law NodeSizes: the walk. Conditions: those of each lemma. -/
import Derived.Test.YticpenbebokjdaaDoorLawNodeRoom
import Derived.Test.YticpenbebokjdaaDoorNdM
namespace Go.Proofs.YticpenbebokjdaaDoor
open Go.RowKit Go
set_option linter.unusedVariables false
set_option linter.unusedSimpArgs false
theorem cls_take {w : World} {B : Nat} {A : Option Addr} {l : List Cl} (h : Cls w B A l) (k : Nat) : Cls w B A (l.take k) := by
  rcases h with h | ⟨b, o, hA, hlt, hc⟩
  · exact .inl (by rw [h]; simp)
  · refine .inr ⟨b, o, hA, hlt, fun j c hj => hc j c ?_⟩
    rw [List.getElem?_take] at hj
    split at hj
    · exact hj
    · cases hj
/-- the law's box, the lesser page's box, the last cell -/
def Ls2 (w : World) (kind first : Int) (b o : Nat) (l : List Cl) (n k c : Nat) (data : ByteArray) (G : Nat) (x : Cl) (W : World) : Prop := LwSt w kind first (some ⟨b, o, none⟩) l n c data W ∧ Blk W G 27 #[.int .u8 kind, .int .i64 first, .slice (some ⟨b, o, none⟩) k c, .string data] ∧ Cells4 w b (o + k * 4) x ∧ b < w.heap.size
theorem ls2_step {w W W' : World} {kind first : Int} {b o : Nat} {l : List Cl} {n k c : Nat} {data : ByteArray} {G : Nat} {x : Cl} (h : Ls2 w kind first b o l n k c data G x W) (hb : Below W.heap.size W W') : Ls2 w kind first b o l n k c data G x W' := ⟨lwst_step h.1 hb, blk_step h.2.1 hb, h.2.2⟩
theorem ls2_S {w W : World} {kind first : Int} {b o : Nat} {l : List Cl} {n k c : Nat} {data : ByteArray} {G : Nat} {x : Cl} (h : Ls2 w kind first b o l n k c data G x W) : W.cell? ⟨w.heap.size, 0, none⟩ = some (.int .u8 kind) ∧ W.cell? ⟨w.heap.size, 1, none⟩ = some (.int .i64 first) ∧ W.cell? ⟨w.heap.size, 2, none⟩ = some (.slice (some ⟨b, o, none⟩) n c) ∧ W.cell? ⟨w.heap.size, 3, none⟩ = some (.string data) ∧ W.cell? ⟨G, 0, none⟩ = some (.int .u8 kind) ∧ W.cell? ⟨G, 1, none⟩ = some (.int .i64 first) ∧ W.cell? ⟨G, 2, none⟩ = some (.slice (some ⟨b, o, none⟩) k c) ∧ W.cell? ⟨G, 3, none⟩ = some (.string data) ∧ W.cell? ⟨b, o + k * 4, none⟩ = some (.string x.key) ∧ W.cell? ⟨b, o + k * 4 + 1, none⟩ = some (.int .i64 x.size) ∧ W.cell? ⟨b, o + k * 4 + 2, none⟩ = some (.string x.loc) ∧ W.cell? ⟨b, o + k * 4 + 3, none⟩ = some (.int .i64 x.page) ∧ Ls2 w kind first b o l n k c data G x W := by
  have hx := cells4_below h.2.2.1 h.1.1.2 h.2.2.2
  exact ⟨h.1.1.1.cell 0, h.1.1.1.cell 1, h.1.1.1.cell 2, h.1.1.1.cell 3, h.2.1.cell 0, h.2.1.cell 1, h.2.1.cell 2, h.2.1.cell 3, hx.1, hx.2.1, hx.2.2.1, hx.2.2.2, h⟩
theorem ls2_new {w W : World} {kind first : Int} {b o : Nat} {l : List Cl} {n k c : Nat} {data : ByteArray} {x : Cl} (h : LwSt w kind first (some ⟨b, o, none⟩) l n c data W) (hx : Cells4 w b (o + k * 4) x) (hb : b < w.heap.size) :
    Ls2 w kind first b o l n k c data W.heap.size x (W.alloc (.cells #[.int .u8 kind, .int .i64 first, .slice (some ⟨b, o, none⟩) k c, .string data] 27)) := by
  have h0 := (one_alloc (w := W) (o := .cells #[.int .u8 kind, .int .i64 first, .slice (some ⟨b, o, none⟩) k c, .string data] 27))
  exact ⟨lwst_step h h0, Blk.new W 27 _, hx, hb⟩
set_option maxRecDepth 100000 in
set_option maxHeartbeats 8000000 in
theorem sizes_great (kind first : Int) (A : Option Addr) (l : List Cl) (n c : Nat) (data : ByteArray) (w : World) (hC : Cls w w.heap.size A l) (hn : n = l.length) (hg : greatB l data = true) :
    Calls Tryd.prog 8 #[.agg #[.int .u8 kind, .int .i64 first, .slice A n c, .string data]] w fun e w' => e = .returned (.bool true) ∧ Below w.heap.size w w' := by
  have HG := Lib.hid hg
  clear hg
  have HWK := Lib.hid (fun (W : World) (h : LwSt w kind first A l n c data W) => (works_any W).mono (fun e w' he => (⟨he.1, lwst_step h he.2⟩ : e = .returned (.bool true) ∧ LwSt w kind first A l n c data w')))
  have HGR := Lib.hid (fun (W : World) (h : LwSt w kind first A l n c data W) => (great_any kind first A l n c data W h.2 hn).mono (fun e w' he => (⟨he.1, lwst_step h he.2⟩ : e = .returned (.bool (greatB l data)) ∧ LwSt w kind first A l n c data w')))
  have HST := Lib.hid (lwst_new (kind := kind) (first := first) (n := n) (c := c) (data := data) hC)
  have HN := Lib.hid hn
  clear hC hn
  go_enter Tryd.func8, Tryd.ntmps8
  obtain ⟨c0, c1, c2, c3⟩ := cell4 HST.out.1.1
  go_wp2_with fail
  refine (HWK.out _ HST.out).mono ?_
  rintro e wa ⟨rfl, ha⟩
  have HSA := Lib.hid ha
  clear ha c0 c1 c2 c3 HWK HST
  obtain ⟨c0, c1, c2, c3⟩ := cell4 HSA.out.1.1
  go_wp2_with fail
  refine (HGR.out _ HSA.out).mono ?_
  rintro e wb ⟨rfl, hb⟩
  have HSB := Lib.hid hb
  clear hb c0 c1 c2 c3 HGR HSA
  obtain ⟨c0, c1, c2, c3⟩ := cell4 HSB.out.1.1
  rw [HG.out]
  go_wp2
  go_ret
  exact ⟨rfl, HSB.out.1.2⟩
set_option maxRecDepth 100000 in
set_option maxHeartbeats 8000000 in
theorem sizes_nil (kind first : Int) (A : Option Addr) (l : List Cl) (c : Nat) (data : ByteArray) (w : World) (hC : Cls w w.heap.size A l) (hn : 0 = l.length) (hg : greatB l data = false) :
    Calls Tryd.prog 8 #[.agg #[.int .u8 kind, .int .i64 first, .slice A 0 c, .string data]] w fun e w' => e = .returned (.bool true) ∧ Below w.heap.size w w' := by
  have HG := Lib.hid hg
  clear hg
  have HWK := Lib.hid (fun (W : World) (h : LwSt w kind first A l 0 c data W) => (works_any W).mono (fun e w' he => (⟨he.1, lwst_step h he.2⟩ : e = .returned (.bool true) ∧ LwSt w kind first A l 0 c data w')))
  have HGR := Lib.hid (fun (W : World) (h : LwSt w kind first A l 0 c data W) => (great_any kind first A l 0 c data W h.2 hn).mono (fun e w' he => (⟨he.1, lwst_step h he.2⟩ : e = .returned (.bool (greatB l data)) ∧ LwSt w kind first A l 0 c data w')))
  have HST := Lib.hid (lwst_new (kind := kind) (first := first) (n := 0) (c := c) (data := data) hC)
  have HN := Lib.hid hn
  clear hC hn
  go_enter Tryd.func8, Tryd.ntmps8
  obtain ⟨c0, c1, c2, c3⟩ := cell4 HST.out.1.1
  go_wp2_with fail
  refine (HWK.out _ HST.out).mono ?_
  rintro e wa ⟨rfl, ha⟩
  have HSA := Lib.hid ha
  clear ha c0 c1 c2 c3 HWK HST
  obtain ⟨c0, c1, c2, c3⟩ := cell4 HSA.out.1.1
  go_wp2_with fail
  refine (HGR.out _ HSA.out).mono ?_
  rintro e wb ⟨rfl, hb⟩
  have HSB := Lib.hid hb
  clear hb c0 c1 c2 c3 HGR HSA
  obtain ⟨c0, c1, c2, c3⟩ := cell4 HSB.out.1.1
  rw [HG.out]
  go_wp2
  go_ret
  exact ⟨rfl, HSB.out.1.2⟩
set_option maxRecDepth 100000 in
set_option maxHeartbeats 8000000 in
theorem sizes_a0 (kind first : Int) (b o : Nat) (l : List Cl) (k : Nat) (c : Nat) (data : ByteArray) (ky : ByteArray) (z : Int) (lo : ByteArray) (pg : Int) (w : World) (hC : Cls w w.heap.size (some ⟨b, o, none⟩) l) (hn : (k + 1) = l.length) (hbw : b < w.heap.size) (hx : Cells4 w b (o + k * 4) ⟨ky, z, lo, pg⟩) (hkc : k ≤ c) (hk4 : k ≤ 400) (hg : greatB l data = false) (ea eb : Int) (ha : sizeZ kind first l data = ea) (hb : sizeZ kind first (l.take k) data = eb) (hz : ea = 0) :
    Calls Tryd.prog 8 #[.agg #[.int .u8 kind, .int .i64 first, .slice (some ⟨b, o, none⟩) (k + 1) c, .string data]] w fun e w' => e = .returned (.bool true) ∧ Below w.heap.size w w' := by
  have HG := Lib.hid hg
  subst hz
  have hm : (k + 1) ≤ 1000000 := by have := (great_no hg).1; omega
  have HS1 := Lib.hid (fun (GG : Nat) (W : World) (h : Ls2 w kind first b o l (k + 1) k c data GG ⟨ky, z, lo, pg⟩ W) => (size_any kind first (some ⟨b, o, none⟩) l (k + 1) c data W h.1.2 hn hm).mono (fun e w' he => (⟨by rw [he.1, ha], ls2_step h he.2⟩ : e = .returned (.int .i64 (0)) ∧ Ls2 w kind first b o l (k + 1) k c data GG ⟨ky, z, lo, pg⟩ w')))
  have HS2 := Lib.hid (fun (GG : Nat) (W : World) (h : Ls2 w kind first b o l (k + 1) k c data GG ⟨ky, z, lo, pg⟩ W) => (size_any kind first (some ⟨b, o, none⟩) (l.take k) k c data W (cls_take h.1.2 k) (by rw [List.length_take]; omega) (by omega)).mono (fun e w' he => (⟨by rw [he.1, hb], ls2_step h he.2⟩ : e = .returned (.int .i64 (eb)) ∧ Ls2 w kind first b o l (k + 1) k c data GG ⟨ky, z, lo, pg⟩ w')))
  have HX := Lib.hid (And.intro hx hbw)
  clear hg hm ha hb hx hbw
  have HWK := Lib.hid (fun (W : World) (h : LwSt w kind first (some ⟨b, o, none⟩) l (k + 1) c data W) => (works_any W).mono (fun e w' he => (⟨he.1, lwst_step h he.2⟩ : e = .returned (.bool true) ∧ LwSt w kind first (some ⟨b, o, none⟩) l (k + 1) c data w')))
  have HGR := Lib.hid (fun (W : World) (h : LwSt w kind first (some ⟨b, o, none⟩) l (k + 1) c data W) => (great_any kind first (some ⟨b, o, none⟩) l (k + 1) c data W h.2 hn).mono (fun e w' he => (⟨he.1, lwst_step h he.2⟩ : e = .returned (.bool (greatB l data)) ∧ LwSt w kind first (some ⟨b, o, none⟩) l (k + 1) c data w')))
  have HST := Lib.hid (lwst_new (kind := kind) (first := first) (n := (k + 1)) (c := c) (data := data) hC)
  have HN := Lib.hid hn
  clear hC hn
  go_enter Tryd.func8, Tryd.ntmps8
  obtain ⟨c0, c1, c2, c3⟩ := cell4 HST.out.1.1
  go_wp2_with fail
  refine (HWK.out _ HST.out).mono ?_
  rintro e wa ⟨rfl, ha⟩
  have HSA := Lib.hid ha
  clear ha c0 c1 c2 c3 HWK HST
  obtain ⟨c0, c1, c2, c3⟩ := cell4 HSA.out.1.1
  go_wp2_with fail
  refine (HGR.out _ HSA.out).mono ?_
  rintro e wb ⟨rfl, hb⟩
  have HSB := Lib.hid hb
  clear hb c0 c1 c2 c3 HGR HSA
  obtain ⟨c0, c1, c2, c3⟩ := cell4 HSB.out.1.1
  rw [HG.out]
  have HL2 := Lib.hid (ls2_new HSB.out HX.out.1 HX.out.2)
  obtain ⟨d0, d1, d2, d3⟩ := cell4 (lwst_step HSB.out (one_alloc (o := .cells #[.int .u8 kind, .int .i64 first, .slice (some ⟨b, o, none⟩) ((k + 1)) c, .string data] 27))).1.1
  have hki : (k : Int) ≤ 400 := by omega
  have hkc' : (k : Int) ≤ c := by omega
  have hk1 := beq_no' (show ¬ (k : Int) + 1 = 0 by omega)
  clear hk4 hkc
  go_wp2_with fail
  have hs0 := ls2_step HL2.out (Below.refl _ _).drew
  go_region_held3 (fun W => W.cell? ⟨w.heap.size, 0, none⟩ = some (.int .u8 kind) ∧ W.cell? ⟨w.heap.size, 1, none⟩ = some (.int .i64 first) ∧ W.cell? ⟨w.heap.size, 2, none⟩ = some (.slice (some ⟨b, o, none⟩) (k + 1) c) ∧ W.cell? ⟨w.heap.size, 3, none⟩ = some (.string data) ∧ W.cell? ⟨wb.heap.size, 0, none⟩ = some (.int .u8 kind) ∧ W.cell? ⟨wb.heap.size, 1, none⟩ = some (.int .i64 first) ∧ W.cell? ⟨wb.heap.size, 2, none⟩ = some (.slice (some ⟨b, o, none⟩) k c) ∧ W.cell? ⟨wb.heap.size, 3, none⟩ = some (.string data) ∧ W.cell? ⟨b, o + k * 4, none⟩ = some (.string ky) ∧ W.cell? ⟨b, o + k * 4 + 1, none⟩ = some (.int .i64 z) ∧ W.cell? ⟨b, o + k * 4 + 2, none⟩ = some (.string lo) ∧ W.cell? ⟨b, o + k * 4 + 3, none⟩ = some (.int .i64 pg) ∧ Ls2 w kind first b o l (k + 1) k c data wb.heap.size ⟨ky, z, lo, pg⟩ W)
    (exact ls2_S (by assumption))
    (first
      | (go_at_call 13; (with_reducible refine (HS1.out wb.heap.size _ (by assumption)).mono ?_); rintro e w3 ⟨rfl, hs⟩)
      | (go_at_call 13; (with_reducible refine (HS2.out wb.heap.size _ (by assumption)).mono ?_); rintro e w4 ⟨rfl, hs⟩))
  all_goals
    obtain ⟨g0, g1, g2, g3, _⟩ := ls2_S (ls2_step hs (one_alloc (o := .cells #[.string ky, .int .i64 z, .string lo, .int .i64 pg] 30)))
    go_wp2
    go_ret
    exact ⟨rfl, by first | exact hs.1.1.2 | exact (ls2_step hs one_alloc).1.1.2⟩
set_option maxRecDepth 100000 in
set_option maxHeartbeats 8000000 in
theorem sizes_b0 (kind first : Int) (b o : Nat) (l : List Cl) (c : Nat) (data : ByteArray) (ky : ByteArray) (z : Int) (lo : ByteArray) (pg : Int) (w : World) (hC : Cls w w.heap.size (some ⟨b, o, none⟩) l) (hn : 1 = l.length) (hbw : b < w.heap.size) (hx : Cells4 w b (o + 0 * 4) ⟨ky, z, lo, pg⟩) (hkc : 0 ≤ c) (hk4 : 0 ≤ 400) (hg : greatB l data = false) (ea eb : Int) (ha : sizeZ kind first l data = ea) (hb : sizeZ kind first (l.take 0) data = eb) (hk : kind = 2) (hz : eb = 0) (hna : ea ≠ 0) :
    Calls Tryd.prog 8 #[.agg #[.int .u8 kind, .int .i64 first, .slice (some ⟨b, o, none⟩) 1 c, .string data]] w fun e w' => e = .returned (.bool true) ∧ Below w.heap.size w w' := by
  have HG := Lib.hid hg
  subst hk
  subst hz
  have hm : 1 ≤ 1000000 := by have := (great_no hg).1; omega
  have HS1 := Lib.hid (fun (GG : Nat) (W : World) (h : Ls2 w 2 first b o l 1 0 c data GG ⟨ky, z, lo, pg⟩ W) => (size_any 2 first (some ⟨b, o, none⟩) l 1 c data W h.1.2 hn hm).mono (fun e w' he => (⟨by rw [he.1, ha], ls2_step h he.2⟩ : e = .returned (.int .i64 (ea)) ∧ Ls2 w 2 first b o l 1 0 c data GG ⟨ky, z, lo, pg⟩ w')))
  have HS2 := Lib.hid (fun (GG : Nat) (W : World) (h : Ls2 w 2 first b o l 1 0 c data GG ⟨ky, z, lo, pg⟩ W) => (size_any 2 first (some ⟨b, o, none⟩) (l.take 0) 0 c data W (cls_take h.1.2 0) (by rw [List.length_take]; omega) (by omega)).mono (fun e w' he => (⟨by rw [he.1, hb], ls2_step h he.2⟩ : e = .returned (.int .i64 (0)) ∧ Ls2 w 2 first b o l 1 0 c data GG ⟨ky, z, lo, pg⟩ w')))
  have HX := Lib.hid (And.intro hx hbw)
  clear hg hm ha hb hx hbw
  have HWK := Lib.hid (fun (W : World) (h : LwSt w 2 first (some ⟨b, o, none⟩) l 1 c data W) => (works_any W).mono (fun e w' he => (⟨he.1, lwst_step h he.2⟩ : e = .returned (.bool true) ∧ LwSt w 2 first (some ⟨b, o, none⟩) l 1 c data w')))
  have HGR := Lib.hid (fun (W : World) (h : LwSt w 2 first (some ⟨b, o, none⟩) l 1 c data W) => (great_any 2 first (some ⟨b, o, none⟩) l 1 c data W h.2 hn).mono (fun e w' he => (⟨he.1, lwst_step h he.2⟩ : e = .returned (.bool (greatB l data)) ∧ LwSt w 2 first (some ⟨b, o, none⟩) l 1 c data w')))
  have HST := Lib.hid (lwst_new (kind := 2) (first := first) (n := 1) (c := c) (data := data) hC)
  have HN := Lib.hid hn
  clear hC hn
  go_enter Tryd.func8, Tryd.ntmps8
  obtain ⟨c0, c1, c2, c3⟩ := cell4 HST.out.1.1
  go_wp2_with fail
  refine (HWK.out _ HST.out).mono ?_
  rintro e wa ⟨rfl, ha⟩
  have HSA := Lib.hid ha
  clear ha c0 c1 c2 c3 HWK HST
  obtain ⟨c0, c1, c2, c3⟩ := cell4 HSA.out.1.1
  go_wp2_with fail
  refine (HGR.out _ HSA.out).mono ?_
  rintro e wb ⟨rfl, hb⟩
  have HSB := Lib.hid hb
  clear hb c0 c1 c2 c3 HGR HSA
  obtain ⟨c0, c1, c2, c3⟩ := cell4 HSB.out.1.1
  rw [HG.out]
  have HL2 := Lib.hid (ls2_new HSB.out HX.out.1 HX.out.2)
  obtain ⟨d0, d1, d2, d3⟩ := cell4 (lwst_step HSB.out (one_alloc (o := .cells #[.int .u8 2, .int .i64 first, .slice (some ⟨b, o, none⟩) (1) c, .string data] 27))).1.1
  have hna' := beq_no' hna
  clear hna hk4 hkc
  go_wp2_with fail
  have hs0 := ls2_step HL2.out (Below.refl _ _).drew
  go_region_held3 (fun W => W.cell? ⟨w.heap.size, 0, none⟩ = some (.int .u8 2) ∧ W.cell? ⟨w.heap.size, 1, none⟩ = some (.int .i64 first) ∧ W.cell? ⟨w.heap.size, 2, none⟩ = some (.slice (some ⟨b, o, none⟩) 1 c) ∧ W.cell? ⟨w.heap.size, 3, none⟩ = some (.string data) ∧ W.cell? ⟨wb.heap.size, 0, none⟩ = some (.int .u8 2) ∧ W.cell? ⟨wb.heap.size, 1, none⟩ = some (.int .i64 first) ∧ W.cell? ⟨wb.heap.size, 2, none⟩ = some (.slice (some ⟨b, o, none⟩) 0 c) ∧ W.cell? ⟨wb.heap.size, 3, none⟩ = some (.string data) ∧ W.cell? ⟨b, o + 0 * 4, none⟩ = some (.string ky) ∧ W.cell? ⟨b, o + 0 * 4 + 1, none⟩ = some (.int .i64 z) ∧ W.cell? ⟨b, o + 0 * 4 + 2, none⟩ = some (.string lo) ∧ W.cell? ⟨b, o + 0 * 4 + 3, none⟩ = some (.int .i64 pg) ∧ Ls2 w 2 first b o l 1 0 c data wb.heap.size ⟨ky, z, lo, pg⟩ W)
    (exact ls2_S (by assumption))
    (first
      | (go_at_call 13; (with_reducible refine (HS1.out wb.heap.size _ (by assumption)).mono ?_); rintro e w3 ⟨rfl, hs⟩)
      | (go_at_call 13; (with_reducible refine (HS2.out wb.heap.size _ (by assumption)).mono ?_); rintro e w4 ⟨rfl, hs⟩))
  all_goals
    obtain ⟨g0, g1, g2, g3, _⟩ := ls2_S (ls2_step hs (one_alloc (o := .cells #[.string ky, .int .i64 z, .string lo, .int .i64 pg] 30)))
    go_wp2
    go_ret
    exact ⟨rfl, by first | exact hs.1.1.2 | exact (ls2_step hs one_alloc).1.1.2⟩
set_option maxRecDepth 100000 in
set_option maxHeartbeats 8000000 in
theorem sizes_k2 (kind first : Int) (b o : Nat) (l : List Cl) (k : Nat) (c : Nat) (data : ByteArray) (ky : ByteArray) (z : Int) (lo : ByteArray) (pg : Int) (w : World) (hC : Cls w w.heap.size (some ⟨b, o, none⟩) l) (hn : (k + 1) = l.length) (hbw : b < w.heap.size) (hx : Cells4 w b (o + k * 4) ⟨ky, z, lo, pg⟩) (hkc : k ≤ c) (hk4 : k ≤ 400) (hg : greatB l data = false) (ea eb : Int) (ha : sizeZ kind first l data = ea) (hb : sizeZ kind first (l.take k) data = eb) (hk : kind = 2) (hz : ea = eb + 5 + (ky.size : Int)) (hnb : eb ≠ 0) (hb0 : 0 ≤ eb) (hb1 : eb ≤ 1000000) (hks : (ky.size : Int) ≤ 1024) :
    Calls Tryd.prog 8 #[.agg #[.int .u8 kind, .int .i64 first, .slice (some ⟨b, o, none⟩) (k + 1) c, .string data]] w fun e w' => e = .returned (.bool true) ∧ Below w.heap.size w w' := by
  have HG := Lib.hid hg
  subst hk
  subst hz
  have hm : (k + 1) ≤ 1000000 := by have := (great_no hg).1; omega
  have HS1 := Lib.hid (fun (GG : Nat) (W : World) (h : Ls2 w 2 first b o l (k + 1) k c data GG ⟨ky, z, lo, pg⟩ W) => (size_any 2 first (some ⟨b, o, none⟩) l (k + 1) c data W h.1.2 hn hm).mono (fun e w' he => (⟨by rw [he.1, ha], ls2_step h he.2⟩ : e = .returned (.int .i64 (eb + 5 + (ky.size : Int))) ∧ Ls2 w 2 first b o l (k + 1) k c data GG ⟨ky, z, lo, pg⟩ w')))
  have HS2 := Lib.hid (fun (GG : Nat) (W : World) (h : Ls2 w 2 first b o l (k + 1) k c data GG ⟨ky, z, lo, pg⟩ W) => (size_any 2 first (some ⟨b, o, none⟩) (l.take k) k c data W (cls_take h.1.2 k) (by rw [List.length_take]; omega) (by omega)).mono (fun e w' he => (⟨by rw [he.1, hb], ls2_step h he.2⟩ : e = .returned (.int .i64 (eb)) ∧ Ls2 w 2 first b o l (k + 1) k c data GG ⟨ky, z, lo, pg⟩ w')))
  have HX := Lib.hid (And.intro hx hbw)
  clear hg hm ha hb hx hbw
  have HWK := Lib.hid (fun (W : World) (h : LwSt w 2 first (some ⟨b, o, none⟩) l (k + 1) c data W) => (works_any W).mono (fun e w' he => (⟨he.1, lwst_step h he.2⟩ : e = .returned (.bool true) ∧ LwSt w 2 first (some ⟨b, o, none⟩) l (k + 1) c data w')))
  have HGR := Lib.hid (fun (W : World) (h : LwSt w 2 first (some ⟨b, o, none⟩) l (k + 1) c data W) => (great_any 2 first (some ⟨b, o, none⟩) l (k + 1) c data W h.2 hn).mono (fun e w' he => (⟨he.1, lwst_step h he.2⟩ : e = .returned (.bool (greatB l data)) ∧ LwSt w 2 first (some ⟨b, o, none⟩) l (k + 1) c data w')))
  have HST := Lib.hid (lwst_new (kind := 2) (first := first) (n := (k + 1)) (c := c) (data := data) hC)
  have HN := Lib.hid hn
  clear hC hn
  go_enter Tryd.func8, Tryd.ntmps8
  obtain ⟨c0, c1, c2, c3⟩ := cell4 HST.out.1.1
  go_wp2_with fail
  refine (HWK.out _ HST.out).mono ?_
  rintro e wa ⟨rfl, ha⟩
  have HSA := Lib.hid ha
  clear ha c0 c1 c2 c3 HWK HST
  obtain ⟨c0, c1, c2, c3⟩ := cell4 HSA.out.1.1
  go_wp2_with fail
  refine (HGR.out _ HSA.out).mono ?_
  rintro e wb ⟨rfl, hb⟩
  have HSB := Lib.hid hb
  clear hb c0 c1 c2 c3 HGR HSA
  obtain ⟨c0, c1, c2, c3⟩ := cell4 HSB.out.1.1
  rw [HG.out]
  have HL2 := Lib.hid (ls2_new HSB.out HX.out.1 HX.out.2)
  obtain ⟨d0, d1, d2, d3⟩ := cell4 (lwst_step HSB.out (one_alloc (o := .cells #[.int .u8 2, .int .i64 first, .slice (some ⟨b, o, none⟩) ((k + 1)) c, .string data] 27))).1.1
  have hki : (k : Int) ≤ 400 := by omega
  have hkc' : (k : Int) ≤ c := by omega
  have hk1 := beq_no' (show ¬ (k : Int) + 1 = 0 by omega)
  clear hk4 hkc
  have hna' := beq_no' (show ¬ eb + 5 + (ky.size : Int) = 0 by omega)
  have hnb' := beq_no' hnb
  clear hnb
  go_wp2_with fail
  have hs0 := ls2_step HL2.out (Below.refl _ _).drew
  go_region_held3 (fun W => W.cell? ⟨w.heap.size, 0, none⟩ = some (.int .u8 2) ∧ W.cell? ⟨w.heap.size, 1, none⟩ = some (.int .i64 first) ∧ W.cell? ⟨w.heap.size, 2, none⟩ = some (.slice (some ⟨b, o, none⟩) (k + 1) c) ∧ W.cell? ⟨w.heap.size, 3, none⟩ = some (.string data) ∧ W.cell? ⟨wb.heap.size, 0, none⟩ = some (.int .u8 2) ∧ W.cell? ⟨wb.heap.size, 1, none⟩ = some (.int .i64 first) ∧ W.cell? ⟨wb.heap.size, 2, none⟩ = some (.slice (some ⟨b, o, none⟩) k c) ∧ W.cell? ⟨wb.heap.size, 3, none⟩ = some (.string data) ∧ W.cell? ⟨b, o + k * 4, none⟩ = some (.string ky) ∧ W.cell? ⟨b, o + k * 4 + 1, none⟩ = some (.int .i64 z) ∧ W.cell? ⟨b, o + k * 4 + 2, none⟩ = some (.string lo) ∧ W.cell? ⟨b, o + k * 4 + 3, none⟩ = some (.int .i64 pg) ∧ Ls2 w 2 first b o l (k + 1) k c data wb.heap.size ⟨ky, z, lo, pg⟩ W)
    (exact ls2_S (by assumption))
    (first
      | (go_at_call 13; (with_reducible refine (HS1.out wb.heap.size _ (by assumption)).mono ?_); rintro e w3 ⟨rfl, hs⟩)
      | (go_at_call 13; (with_reducible refine (HS2.out wb.heap.size _ (by assumption)).mono ?_); rintro e w4 ⟨rfl, hs⟩))
  all_goals
    obtain ⟨g0, g1, g2, g3, _⟩ := ls2_S (ls2_step hs (one_alloc (o := .cells #[.string ky, .int .i64 z, .string lo, .int .i64 pg] 30)))
    go_wp2
    go_ret
    exact ⟨rfl, by first | exact hs.1.1.2 | exact (ls2_step hs one_alloc).1.1.2⟩
set_option maxRecDepth 100000 in
set_option maxHeartbeats 8000000 in
theorem sizes_k1l (kind first : Int) (b o : Nat) (l : List Cl) (k : Nat) (c : Nat) (data : ByteArray) (ky : ByteArray) (z : Int) (lo : ByteArray) (pg : Int) (w : World) (hC : Cls w w.heap.size (some ⟨b, o, none⟩) l) (hn : (k + 1) = l.length) (hbw : b < w.heap.size) (hx : Cells4 w b (o + k * 4) ⟨ky, z, lo, pg⟩) (hkc : k ≤ c) (hk4 : k ≤ 400) (hg : greatB l data = false) (ea eb : Int) (ha : sizeZ kind first l data = ea) (hb : sizeZ kind first (l.take k) data = eb) (hk : kind ≠ 2) (hz : ea = eb + 3 + (ky.size : Int) + 100 + 4) (hz1 : 100 < z) (hnb : eb ≠ 0) (hb0 : 0 ≤ eb) (hb1 : eb ≤ 1000000) (hks : (ky.size : Int) ≤ 1024) :
    Calls Tryd.prog 8 #[.agg #[.int .u8 kind, .int .i64 first, .slice (some ⟨b, o, none⟩) (k + 1) c, .string data]] w fun e w' => e = .returned (.bool true) ∧ Below w.heap.size w w' := by
  have HG := Lib.hid hg
  have hk2 := beq_no' hk
  subst hz
  have hm : (k + 1) ≤ 1000000 := by have := (great_no hg).1; omega
  have HS1 := Lib.hid (fun (GG : Nat) (W : World) (h : Ls2 w kind first b o l (k + 1) k c data GG ⟨ky, z, lo, pg⟩ W) => (size_any kind first (some ⟨b, o, none⟩) l (k + 1) c data W h.1.2 hn hm).mono (fun e w' he => (⟨by rw [he.1, ha], ls2_step h he.2⟩ : e = .returned (.int .i64 (eb + 3 + (ky.size : Int) + 100 + 4)) ∧ Ls2 w kind first b o l (k + 1) k c data GG ⟨ky, z, lo, pg⟩ w')))
  have HS2 := Lib.hid (fun (GG : Nat) (W : World) (h : Ls2 w kind first b o l (k + 1) k c data GG ⟨ky, z, lo, pg⟩ W) => (size_any kind first (some ⟨b, o, none⟩) (l.take k) k c data W (cls_take h.1.2 k) (by rw [List.length_take]; omega) (by omega)).mono (fun e w' he => (⟨by rw [he.1, hb], ls2_step h he.2⟩ : e = .returned (.int .i64 (eb)) ∧ Ls2 w kind first b o l (k + 1) k c data GG ⟨ky, z, lo, pg⟩ w')))
  have HX := Lib.hid (And.intro hx hbw)
  clear hg hm ha hb hx hbw
  have HWK := Lib.hid (fun (W : World) (h : LwSt w kind first (some ⟨b, o, none⟩) l (k + 1) c data W) => (works_any W).mono (fun e w' he => (⟨he.1, lwst_step h he.2⟩ : e = .returned (.bool true) ∧ LwSt w kind first (some ⟨b, o, none⟩) l (k + 1) c data w')))
  have HGR := Lib.hid (fun (W : World) (h : LwSt w kind first (some ⟨b, o, none⟩) l (k + 1) c data W) => (great_any kind first (some ⟨b, o, none⟩) l (k + 1) c data W h.2 hn).mono (fun e w' he => (⟨he.1, lwst_step h he.2⟩ : e = .returned (.bool (greatB l data)) ∧ LwSt w kind first (some ⟨b, o, none⟩) l (k + 1) c data w')))
  have HST := Lib.hid (lwst_new (kind := kind) (first := first) (n := (k + 1)) (c := c) (data := data) hC)
  have HN := Lib.hid hn
  clear hC hn
  go_enter Tryd.func8, Tryd.ntmps8
  obtain ⟨c0, c1, c2, c3⟩ := cell4 HST.out.1.1
  go_wp2_with fail
  refine (HWK.out _ HST.out).mono ?_
  rintro e wa ⟨rfl, ha⟩
  have HSA := Lib.hid ha
  clear ha c0 c1 c2 c3 HWK HST
  obtain ⟨c0, c1, c2, c3⟩ := cell4 HSA.out.1.1
  go_wp2_with fail
  refine (HGR.out _ HSA.out).mono ?_
  rintro e wb ⟨rfl, hb⟩
  have HSB := Lib.hid hb
  clear hb c0 c1 c2 c3 HGR HSA
  obtain ⟨c0, c1, c2, c3⟩ := cell4 HSB.out.1.1
  rw [HG.out]
  have HL2 := Lib.hid (ls2_new HSB.out HX.out.1 HX.out.2)
  obtain ⟨d0, d1, d2, d3⟩ := cell4 (lwst_step HSB.out (one_alloc (o := .cells #[.int .u8 kind, .int .i64 first, .slice (some ⟨b, o, none⟩) ((k + 1)) c, .string data] 27))).1.1
  have hki : (k : Int) ≤ 400 := by omega
  have hkc' : (k : Int) ≤ c := by omega
  have hk1 := beq_no' (show ¬ (k : Int) + 1 = 0 by omega)
  clear hk4 hkc
  have hna' := beq_no' (show ¬ eb + 3 + (ky.size : Int) + 100 + 4 = 0 by omega)
  have hnb' := beq_no' hnb
  have hmin : min z 100 = 100 := by omega
  clear hnb hk
  go_wp2_with fail
  have hs0 := ls2_step HL2.out (Below.refl _ _).drew
  go_region_held3 (fun W => W.cell? ⟨w.heap.size, 0, none⟩ = some (.int .u8 kind) ∧ W.cell? ⟨w.heap.size, 1, none⟩ = some (.int .i64 first) ∧ W.cell? ⟨w.heap.size, 2, none⟩ = some (.slice (some ⟨b, o, none⟩) (k + 1) c) ∧ W.cell? ⟨w.heap.size, 3, none⟩ = some (.string data) ∧ W.cell? ⟨wb.heap.size, 0, none⟩ = some (.int .u8 kind) ∧ W.cell? ⟨wb.heap.size, 1, none⟩ = some (.int .i64 first) ∧ W.cell? ⟨wb.heap.size, 2, none⟩ = some (.slice (some ⟨b, o, none⟩) k c) ∧ W.cell? ⟨wb.heap.size, 3, none⟩ = some (.string data) ∧ W.cell? ⟨b, o + k * 4, none⟩ = some (.string ky) ∧ W.cell? ⟨b, o + k * 4 + 1, none⟩ = some (.int .i64 z) ∧ W.cell? ⟨b, o + k * 4 + 2, none⟩ = some (.string lo) ∧ W.cell? ⟨b, o + k * 4 + 3, none⟩ = some (.int .i64 pg) ∧ Ls2 w kind first b o l (k + 1) k c data wb.heap.size ⟨ky, z, lo, pg⟩ W)
    (exact ls2_S (by assumption))
    (first
      | (go_at_call 13; (with_reducible refine (HS1.out wb.heap.size _ (by assumption)).mono ?_); rintro e w3 ⟨rfl, hs⟩)
      | (go_at_call 13; (with_reducible refine (HS2.out wb.heap.size _ (by assumption)).mono ?_); rintro e w4 ⟨rfl, hs⟩))
  all_goals
    obtain ⟨g0, g1, g2, g3, _⟩ := ls2_S (ls2_step hs (one_alloc (o := .cells #[.string ky, .int .i64 z, .string lo, .int .i64 pg] 30)))
    go_wp2
    go_ret
    exact ⟨rfl, by first | exact hs.1.1.2 | exact (ls2_step hs one_alloc).1.1.2⟩
set_option maxRecDepth 100000 in
set_option maxHeartbeats 8000000 in
theorem sizes_k1s (kind first : Int) (b o : Nat) (l : List Cl) (k : Nat) (c : Nat) (data : ByteArray) (ky : ByteArray) (z : Int) (lo : ByteArray) (pg : Int) (w : World) (hC : Cls w w.heap.size (some ⟨b, o, none⟩) l) (hn : (k + 1) = l.length) (hbw : b < w.heap.size) (hx : Cells4 w b (o + k * 4) ⟨ky, z, lo, pg⟩) (hkc : k ≤ c) (hk4 : k ≤ 400) (hg : greatB l data = false) (ea eb : Int) (ha : sizeZ kind first l data = ea) (hb : sizeZ kind first (l.take k) data = eb) (hk : kind ≠ 2) (hz : ea = eb + 3 + (ky.size : Int) + z) (hz1 : z ≤ 100) (hz0 : 0 ≤ z) (hnb : eb ≠ 0) (hb0 : 0 ≤ eb) (hb1 : eb ≤ 1000000) (hks : (ky.size : Int) ≤ 1024) :
    Calls Tryd.prog 8 #[.agg #[.int .u8 kind, .int .i64 first, .slice (some ⟨b, o, none⟩) (k + 1) c, .string data]] w fun e w' => e = .returned (.bool true) ∧ Below w.heap.size w w' := by
  have HG := Lib.hid hg
  have hk2 := beq_no' hk
  subst hz
  have hm : (k + 1) ≤ 1000000 := by have := (great_no hg).1; omega
  have HS1 := Lib.hid (fun (GG : Nat) (W : World) (h : Ls2 w kind first b o l (k + 1) k c data GG ⟨ky, z, lo, pg⟩ W) => (size_any kind first (some ⟨b, o, none⟩) l (k + 1) c data W h.1.2 hn hm).mono (fun e w' he => (⟨by rw [he.1, ha], ls2_step h he.2⟩ : e = .returned (.int .i64 (eb + 3 + (ky.size : Int) + z)) ∧ Ls2 w kind first b o l (k + 1) k c data GG ⟨ky, z, lo, pg⟩ w')))
  have HS2 := Lib.hid (fun (GG : Nat) (W : World) (h : Ls2 w kind first b o l (k + 1) k c data GG ⟨ky, z, lo, pg⟩ W) => (size_any kind first (some ⟨b, o, none⟩) (l.take k) k c data W (cls_take h.1.2 k) (by rw [List.length_take]; omega) (by omega)).mono (fun e w' he => (⟨by rw [he.1, hb], ls2_step h he.2⟩ : e = .returned (.int .i64 (eb)) ∧ Ls2 w kind first b o l (k + 1) k c data GG ⟨ky, z, lo, pg⟩ w')))
  have HX := Lib.hid (And.intro hx hbw)
  clear hg hm ha hb hx hbw
  have HWK := Lib.hid (fun (W : World) (h : LwSt w kind first (some ⟨b, o, none⟩) l (k + 1) c data W) => (works_any W).mono (fun e w' he => (⟨he.1, lwst_step h he.2⟩ : e = .returned (.bool true) ∧ LwSt w kind first (some ⟨b, o, none⟩) l (k + 1) c data w')))
  have HGR := Lib.hid (fun (W : World) (h : LwSt w kind first (some ⟨b, o, none⟩) l (k + 1) c data W) => (great_any kind first (some ⟨b, o, none⟩) l (k + 1) c data W h.2 hn).mono (fun e w' he => (⟨he.1, lwst_step h he.2⟩ : e = .returned (.bool (greatB l data)) ∧ LwSt w kind first (some ⟨b, o, none⟩) l (k + 1) c data w')))
  have HST := Lib.hid (lwst_new (kind := kind) (first := first) (n := (k + 1)) (c := c) (data := data) hC)
  have HN := Lib.hid hn
  clear hC hn
  go_enter Tryd.func8, Tryd.ntmps8
  obtain ⟨c0, c1, c2, c3⟩ := cell4 HST.out.1.1
  go_wp2_with fail
  refine (HWK.out _ HST.out).mono ?_
  rintro e wa ⟨rfl, ha⟩
  have HSA := Lib.hid ha
  clear ha c0 c1 c2 c3 HWK HST
  obtain ⟨c0, c1, c2, c3⟩ := cell4 HSA.out.1.1
  go_wp2_with fail
  refine (HGR.out _ HSA.out).mono ?_
  rintro e wb ⟨rfl, hb⟩
  have HSB := Lib.hid hb
  clear hb c0 c1 c2 c3 HGR HSA
  obtain ⟨c0, c1, c2, c3⟩ := cell4 HSB.out.1.1
  rw [HG.out]
  have HL2 := Lib.hid (ls2_new HSB.out HX.out.1 HX.out.2)
  obtain ⟨d0, d1, d2, d3⟩ := cell4 (lwst_step HSB.out (one_alloc (o := .cells #[.int .u8 kind, .int .i64 first, .slice (some ⟨b, o, none⟩) ((k + 1)) c, .string data] 27))).1.1
  have hki : (k : Int) ≤ 400 := by omega
  have hkc' : (k : Int) ≤ c := by omega
  have hk1 := beq_no' (show ¬ (k : Int) + 1 = 0 by omega)
  clear hk4 hkc
  have hna' := beq_no' (show ¬ eb + 3 + (ky.size : Int) + z = 0 by omega)
  have hnb' := beq_no' hnb
  have hmin : min z 100 = z := by omega
  have hz2 : decide (100 < z) = false := decide_eq_false (by omega)
  clear hnb hk
  go_wp2_with fail
  have hs0 := ls2_step HL2.out (Below.refl _ _).drew
  go_region_held3 (fun W => W.cell? ⟨w.heap.size, 0, none⟩ = some (.int .u8 kind) ∧ W.cell? ⟨w.heap.size, 1, none⟩ = some (.int .i64 first) ∧ W.cell? ⟨w.heap.size, 2, none⟩ = some (.slice (some ⟨b, o, none⟩) (k + 1) c) ∧ W.cell? ⟨w.heap.size, 3, none⟩ = some (.string data) ∧ W.cell? ⟨wb.heap.size, 0, none⟩ = some (.int .u8 kind) ∧ W.cell? ⟨wb.heap.size, 1, none⟩ = some (.int .i64 first) ∧ W.cell? ⟨wb.heap.size, 2, none⟩ = some (.slice (some ⟨b, o, none⟩) k c) ∧ W.cell? ⟨wb.heap.size, 3, none⟩ = some (.string data) ∧ W.cell? ⟨b, o + k * 4, none⟩ = some (.string ky) ∧ W.cell? ⟨b, o + k * 4 + 1, none⟩ = some (.int .i64 z) ∧ W.cell? ⟨b, o + k * 4 + 2, none⟩ = some (.string lo) ∧ W.cell? ⟨b, o + k * 4 + 3, none⟩ = some (.int .i64 pg) ∧ Ls2 w kind first b o l (k + 1) k c data wb.heap.size ⟨ky, z, lo, pg⟩ W)
    (exact ls2_S (by assumption))
    (first
      | (go_at_call 13; (with_reducible refine (HS1.out wb.heap.size _ (by assumption)).mono ?_); rintro e w3 ⟨rfl, hs⟩)
      | (go_at_call 13; (with_reducible refine (HS2.out wb.heap.size _ (by assumption)).mono ?_); rintro e w4 ⟨rfl, hs⟩))
  all_goals
    obtain ⟨g0, g1, g2, g3, _⟩ := ls2_S (ls2_step hs (one_alloc (o := .cells #[.string ky, .int .i64 z, .string lo, .int .i64 pg] 30)))
    go_wp2
    go_ret
    exact ⟨rfl, by first | exact hs.1.1.2 | exact (ls2_step hs one_alloc).1.1.2⟩
theorem size_le (kind first : Int) (l : List Cl) (data : ByteArray) (hl : l.length ≤ 400) : 0 ≤ sizeZ kind first l data ∧ sizeZ kind first l data ≤ 1000000 := by
  by_cases hm : mayB kind first l data = true
  · have hs := may_short hm
    have h1 := cellsZ_le (kind := kind) l hs.1
    rw [(size_pos hm).1]
    have : headZ kind data ≤ 600 := by unfold headZ; split <;> omega
    omega
  · unfold sizeZ
    rw [if_neg hm]
    omega
theorem leaf_z {kind first : Int} {l : List Cl} {data : ByteArray} {k : Nat} (hk : k < l.length) (h2 : kind ≠ 2) (ha : sizeZ kind first l data ≠ 0) : 0 ≤ l[k].size := by
  have hm := size_may ha
  have h1 : kind = 1 := by
    rcases may_kind hm with rfl | rfl | rfl | rfl
    · rfl
    · exact absurd rfl h2
    · rw [may_3] at hm
      simp only [Bool.and_eq_true, beq_iff_eq] at hm
      omega
    · rw [may_4] at hm
      simp only [Bool.and_eq_true, beq_iff_eq] at hm
      omega
  subst h1
  exact (leaf_is (okL_all l none (okl_1 hm) l[k] (List.getElem_mem hk))).1
theorem nodeSizes_walk (a0 b0 : Int) (A0 : Option Addr) (l0 : List Cl) (n0 k0_ : Nat) (d0 : ByteArray) (wa0 : (Lit.int .u8 a0).wf = true) (wb0 : (Lit.int .i64 b0).wf = true) (hn0 : n0 = l0.length) (hm0 : n0 ≤ maxLen) (hq0 : n0 ≤ k0_) (hx0 : ∀ x ∈ l0, FitC x) (wd0 : d0.size ≤ 140737488351232) (w : World) (I0 : Cls w w.heap.size A0 l0) :
    Calls Tryd.prog 8 #[.agg #[.int .u8 a0, .int .i64 b0, .slice A0 n0 k0_, .string d0]] w fun e w' => e = .returned (.bool true) ∧ Below w.heap.size w w' := by
  cases hg : greatB l0 d0
  case true => exact sizes_great a0 b0 A0 l0 n0 k0_ d0 w I0 hn0 hg
  have hgr := great_no hg
  rcases n0 with _ | k
  · exact sizes_nil a0 b0 A0 l0 k0_ d0 w I0 hn0 hg
  have hk : k < l0.length := by omega
  obtain ⟨b, o, rfl, hlt, hcs⟩ := cls_get I0 (fun e => by rw [e] at hk; simp at hk)
  have hx := hcs k l0[k] (List.getElem?_eq_getElem hk)
  have hky := (hgr.2.2 l0[k] (List.getElem_mem hk)).1
  obtain ⟨x, hxe⟩ : ∃ x, l0[k] = x := ⟨_, rfl⟩
  have hl2 := fun (h : a0 = 2) => less_2 (first := b0) (data := d0) hn0.symm hk
  have hl1 := less_1 (kind := a0) (first := b0) (data := d0) hn0.symm hk
  have hlz := leaf_z (kind := a0) (first := b0) (data := d0) hk
  rw [hxe] at hx hky hl2 hl1 hlz
  obtain ⟨ky, z, lo, pg⟩ := x
  simp only at hky hl2 hl1 hlz
  by_cases ha : sizeZ a0 b0 l0 d0 = 0
  · exact sizes_a0 a0 b0 b o l0 k k0_ d0 ky z lo pg w I0 hn0 hlt hx (by omega) (by omega) hg _ _ rfl rfl ha
  by_cases hb : sizeZ a0 b0 (l0.take k) d0 = 0
  · obtain ⟨h1, rfl⟩ := less_0 hn0.symm ha hb
    exact sizes_b0 a0 b0 b o l0 k0_ d0 ky z lo pg w I0 hn0 hlt hx (by omega) (by omega) hg _ _ rfl rfl h1 hb ha
  have hle := size_le a0 b0 (l0.take k) d0 (by rw [List.length_take]; omega)
  by_cases h2 : a0 = 2
  · have e := hl2 h2 (by rw [← h2]; exact ha) (by rw [← h2]; exact hb)
    rw [← h2] at e
    exact sizes_k2 a0 b0 b o l0 k k0_ d0 ky z lo pg w I0 hn0 hlt hx (by omega) (by omega) hg _ _ rfl rfl h2 e hb hle.1 hle.2 (by omega)
  have e := hl1 h2 ha hb
  have hz0 := hlz h2 ha
  by_cases hz : 100 < z
  · rw [if_pos hz, show min z 100 = 100 by omega] at e
    exact sizes_k1l a0 b0 b o l0 k k0_ d0 ky z lo pg w I0 hn0 hlt hx (by omega) (by omega) hg _ _ rfl rfl h2 e hz hb hle.1 hle.2 (by omega)
  · rw [if_neg hz, show min z 100 = z by omega] at e
    exact sizes_k1s a0 b0 b o l0 k k0_ d0 ky z lo pg w I0 hn0 hlt hx (by omega) (by omega) hg _ _ rfl rfl h2 (by omega) (by omega) hz0 hb hle.1 hle.2 (by omega)
end Go.Proofs.YticpenbebokjdaaDoor
