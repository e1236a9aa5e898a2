/- What sum.over answers with the two closures of package sum. Condition: the text is no longer than a machine has addresses, the pair's numbers fit their kind. -/
import Derived.Test.YthipaabjmlgjmaaProg
import Derived.Test.YthipaabjmlgjmaaSumBlock
import Derived.Test.YthipaabjmlgjmaaSumStep
import Derived.Test.YthipaabjmlgjmaaBlk
import Derived.Deep.RegionWith
import Derived.Test.YthipaabjmlgjmaaNumMath
namespace Go.Proofs.Ythipaabjmlgjmaa
open Go.RowKit
def stepA (p : Int × Int) (L : List Nat) (k : Nat) : Int × Int := (addA p.1 p.2 (wd L (8 * k)), addB p.1 p.2 (wd L (8 * k)) (wd L (8 * k + 4)))
def stepB (p : Int × Int) (L : List Nat) (k : Nat) : Int × Int := (backA p.1 p.2 (wd L (8 * k)) (wd L (8 * k + 4)), backB p.1 p.2 (wd L (8 * k + 4)))
/-- the first k blocks are added -/
def addN (L : List Nat) : Nat → Int × Int → Int × Int
  | 0, p => p
  | k + 1, p => stepA (addN L k p) L k
/-- the first k blocks are taken back, the last of them first -/
def backN (L : List Nat) : Nat → Int × Int → Int × Int
  | 0, p => p
  | k + 1, p => backN L k (stepB p L k)
def Fit (p : Int × Int) : Prop := 0 ≤ p.1 ∧ p.1 < 4294967296 ∧ 0 ≤ p.2 ∧ p.2 < 4294967296
theorem fit_stepA (p : Int × Int) (L : List Nat) (k : Nat) : Fit (stepA p L k) := by unfold Fit stepA addA addB; omega
theorem fit_stepB (p : Int × Int) (L : List Nat) (k : Nat) : Fit (stepB p L k) := by unfold Fit stepB backA backB; omega
theorem fit_addN {L : List Nat} {p : Int × Int} (hp : Fit p) : ∀ k, Fit (addN L k p)
  | 0 => hp
  | k + 1 => fit_stepA _ L k
def nb (n : Nat) : Nat := (n + 7) / 8
theorem add1_int (a b : Int) (x y : Nat) (w : World) (h : Fit (a, b)) (hx : x < 4294967296) (hy : y < 4294967296) :
    Calls Try.prog 94 #[.agg #[.int .u32 a, .int .u32 b], .agg #[.int .u32 x, .int .u32 y]] w fun e w' => e = .returned (.agg #[.int .u32 (addA a b x), .int .u32 (addB a b x y)]) ∧ Below w.heap.size w w' := by
  obtain ⟨h1, h2, h3, h4⟩ := h
  obtain ⟨a', rfl⟩ := Int.eq_ofNat_of_zero_le h1
  obtain ⟨b', rfl⟩ := Int.eq_ofNat_of_zero_le h3
  exact add1_any a' b' x y w (by omega) (by omega) hx hy
/-- the pair's box and the result's cell, behind which nothing that was there has changed -/
structure Keep (w wr : World) (a b : Int) : Prop where
  box : Blk wr w.heap.size 73 #[.int .u32 a, .int .u32 b]
  res : Blk wr (w.heap.size + 1) 73 #[.int .u32 0, .int .u32 0]
  bel : Below w.heap.size w wr
theorem Keep.below {w wr w2 : World} {a b : Int} (h : Keep w wr a b) (hb : Below wr.heap.size wr w2) : Keep w w2 a b :=
  ⟨h.box.below hb h.box.lt, h.res.below hb h.res.lt, h.bel.trans (hb.mono h.bel.size)⟩
theorem Keep.drew {w wr : World} {a b : Int} (h : Keep w wr a b) : Keep w wr.drew a b := ⟨h.box, h.res, h.bel.drew⟩
theorem Keep.set {w wr : World} {a b a' b' : Int} (h : Keep w wr a b) : Keep w ((wr.setCell ⟨w.heap.size, 0, none⟩ (.int .u32 a')).setCell ⟨w.heap.size, 1, none⟩ (.int .u32 b')) a' b' :=
  ⟨(h.box.set_ 0 _).set_ 1 _, (h.res.far (p := ⟨w.heap.size, 0, none⟩) (by simp) _).far (p := ⟨w.heap.size, 1, none⟩) (by simp) _, (h.bel.setCell (Nat.le_refl _) _).setCell (Nat.le_refl _) _⟩
theorem keep_new (w : World) (a b : Int) : Keep w ((w.alloc (.cells #[.int .u32 a, .int .u32 b] 73)).alloc (.cells #[.int .u32 0, .int .u32 0] 73)) a b :=
  ⟨(Blk.new w _ _).alloc _, by
    have := Blk.new (w.alloc (.cells #[.int .u32 a, .int .u32 b] 73)) 73 #[.int .u32 0, .int .u32 0]
    simpa using this, ((Below.refl _ _).alloc (Nat.le_refl _) _).alloc (by simp) _⟩
set_option maxRecDepth 100000 in
set_option maxHeartbeats 4000000 in
theorem over_add (a b : Int) (s : ByteArray) (w : World) (hp : Fit (a, b)) (hs : s.size ≤ 140737488351232) :
    Calls Try.prog 93 #[.agg #[.int .u32 a, .int .u32 b], .string s, .int .i64 0, .int .i64 8, .func (.func 94) #[] #[]] w fun e w' => e = .returned (.agg #[.int .u32 (addN (bts s) (nb s.size) (a, b)).1, .int .u32 (addN (bts s) (nb s.size) (a, b)).2]) ∧ Below w.heap.size w w' := by
  have hwd := wd_lt s
  have hk0 := keep_new w a b
  have hfit := fit_addN (L := bts s) hp
  go_enter Try.func93, Try.ntmps93
  go_wp2_with fail
  go_loopw [11] (fun i wr => ∃ (k : Nat) (A B : Int), k ≤ nb s.size ∧ i = .int .i64 ((8 * k : Nat) : Int) ∧ (A, B) = addN (bts s) k (a, b) ∧ Keep w wr A B) (fun i _ => nb s.size * 8 - (intOf i).toNat)
  case atStart => exact ⟨0, a, b, by omega, rfl, rfl, hk0⟩
  case round =>
    obtain ⟨k, A, B, hk, rfl, hAB, hkp⟩ := hrel
    have c0 : wr.cell? ⟨w.heap.size, 0, none⟩ = some (.int .u32 A) := hkp.box.cell 0
    have c1 : wr.cell? ⟨w.heap.size, 1, none⟩ = some (.int .u32 B) := hkp.box.cell 1
    by_cases hlt : 8 * k < s.size
    · have hf : Fit (A, B) := by rw [hAB]; exact hfit k
      have hstep : addN (bts s) (k + 1) (a, b) = (addA A B (wd (bts s) (8 * k)), addB A B (wd (bts s) (8 * k)) (wd (bts s) (8 * k + 4))) := by
        show stepA (addN (bts s) k (a, b)) (bts s) k = _
        rw [← hAB]; rfl
      have HS := Lib.hid hstep
      have hz : (8 * (k : Int)).toNat = 8 * k := by omega
      have HZ := Lib.hid hz
      clear hz
      have hkd := hkp.drew
      have hkn : k + 1 ≤ nb s.size := by unfold nb; omega
      clear hAB hstep hfit hk0 hp
      go_wp2_with fail
      go_region_with (first | (go_at_call 97; refine (block_int s _ _ (by omega) (by omega) hs).mono ?_; rintro e w2 ⟨rfl, hb2⟩; rw [HZ.out]; have hk2 := hkd.below hb2; have d0 : w2.cell? ⟨w.heap.size, 0, none⟩ = some (.int .u32 A) := hk2.box.cell 0; have d1 : w2.cell? ⟨w.heap.size, 1, none⟩ = some (.int .u32 B) := hk2.box.cell 1) | (go_at_call 94; refine (add1_int _ _ _ _ _ hf (hwd _) (hwd _)).mono ?_; rintro e w3 ⟨rfl, hb3⟩; have hk3 := hk2.below hb3; have e0 : w3.cell? ⟨w.heap.size, 0, none⟩ = some (.int .u32 A) := hk3.box.cell 0; have e1 : w3.cell? ⟨w.heap.size, 1, none⟩ = some (.int .u32 B) := hk3.box.cell 1; have f0 := hk3.box.frozen 0; have f1 := hk3.box.frozen 1))
      all_goals go_wp2
      all_goals exact ⟨⟨k + 1, _, _, hkn, vint (by omega), HS.out.symm, hk3.set⟩, by simp [intOf]; omega⟩
    · have hke : nb s.size = k := by unfold nb at hk ⊢; omega
      have HE := Lib.hid (show (A, B) = addN (bts s) (nb s.size) (a, b) by rw [hke]; exact hAB)
      have hk2 := hkp
      obtain ⟨hq1, hq2, hq3⟩ := hkp
      have r0 : wr.cell? ⟨w.heap.size + 1, 0, none⟩ = some (.int .u32 0) := hq2.cell 0
      have r1 : wr.cell? ⟨w.heap.size + 1, 1, none⟩ = some (.int .u32 0) := hq2.cell 1
      have f0 := hq2.frozen 0
      have f1 := hq2.frozen 1
      clear hAB hfit hk0 hke hp
      go_wp2
      refine bodyPost_ret (v := .agg #[.int .u32 A, .int .u32 B]) ?_ rfl ⟨ragg (by rw [← HE.out]) (by rw [← HE.out]), (hq3.setCell (Nat.le_succ _) _).setCell (Nat.le_succ _) _⟩
      simp [results, Try.results93, go_sem, r0, r1]
end Go.Proofs.Ythipaabjmlgjmaa
