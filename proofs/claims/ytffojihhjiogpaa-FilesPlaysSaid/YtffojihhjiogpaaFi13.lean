/- Layer 3: files.Read. Conditions: those of each lemma. -/
import Derived.Test.YtffojihhjiogpaaFi12
namespace Go.Proofs.Ytffojihhjiogpaa
open Go.RowKit Go Go.Maps
set_option linter.unusedVariables false
set_option linter.unusedSimpArgs false
def readD (d : Dk) (f a n : Int) : ByteArray × Int :=
  if readyD d f ≠ 0 then (⟨#[]⟩, readyD d f) else if a < 0 ∨ n < 0 ∨ sizeD d f < a ∨ sizeD d f - a < n then (⟨#[]⟩, 5)
  else (bstr (((d.fl f.toNat).drop a.toNat).take n.toNat).flatten, 0)
set_option maxRecDepth 100000 in
set_option maxHeartbeats 4000000 in
theorem read_err (S : Nat → Prop) (g : Nat) (d : Dk) (N : Nat) (f a n : Int) (w : World) (h : DkS w S g d N) (e0 : Int) (ha : -9223372036854775808 ≤ a ∧ a ≤ 9223372036854775807) (he : (readyD d f ≠ 0 ∧ e0 = readyD d f) ∨ (readyD d f = 0 ∧ (a < 0 ∨ n < 0 ∨ sizeD d f < a ∨ sizeD d f - a < n) ∧ e0 = 5)) :
    Calls Try.prog 13 #[.pointer (some ⟨g, 0, none⟩), .int .i64 f, .int .i64 a, .int .i64 n] w fun e w' => e = .returned (.tuple #[.string ⟨#[]⟩, .int .i64 e0]) ∧ w = w' := by
  have HRD := Lib.hid (ready_any S g d N f w h)
  rcases he with ⟨h1, rfl⟩ | ⟨h1, h2, rfl⟩
  · have hne : (readyD d f != 0) = true := by rw [bne_iff_ne]; exact h1
    generalize readyD d f = E at *
    clear h1 h
    go_enter Try.func13, Try.ntmps13
    go_wp2_with fail
    refine (HRD.out).mono ?_
    rintro e w' ⟨rfl, rfl⟩
    go_wp2
    go_ret2
    exact ⟨rfl, rfl⟩
  · rw [h1] at HRD
    obtain ⟨ho, hif, hf0, hf8⟩ := ready_ok h1
    obtain ⟨i, rfl⟩ := Int.eq_ofNat_of_zero_le hf0
    have hi : i < 8 := by omega
    obtain ⟨m, hm⟩ := h
    have hs : sizeD d i = ((d.fl i).length : Nat) := by unfold sizeD; rw [hif]; rfl
    have y0 : w.cell? ⟨g, i * 2, none⟩ = some (.int .i64 ((d.fl i).length : Nat)) := by rw [hm.blk.cell, dkA_get _ _ (by omega), show i * 2 = 2 * i by omega, cell_len _ _ (by omega)]
    have hl8 := (hm.ok i (by omega)).1
    rw [hs] at h2
    generalize hL : (d.fl i).length = L at *
    clear hL hs hif ho h1 hm
    have hl8I : (L : Int) ≤ 8192 := by omega
    by_cases c1 : a < 0
    · have b1 : decide (a < 0) = true := decide_eq_true c1
      clear h2
      go_enter Try.func13, Try.ntmps13
      go_wp2_with fail
      refine (HRD.out).mono ?_
      rintro e w' ⟨rfl, rfl⟩
      go_wp2
      go_ret2
      exact ⟨rfl, rfl⟩
    have b1 : decide (a < 0) = false := decide_eq_false c1
    by_cases c2 : n < 0
    · have b2 : decide (n < 0) = true := decide_eq_true c2
      clear h2
      go_enter Try.func13, Try.ntmps13
      go_wp2_with fail
      refine (HRD.out).mono ?_
      rintro e w' ⟨rfl, rfl⟩
      go_wp2
      go_ret2
      exact ⟨rfl, rfl⟩
    have b2 : decide (n < 0) = false := decide_eq_false c2
    by_cases c3 : (L : Int) < a
    · have b3 : decide ((L : Int) < a) = true := decide_eq_true c3
      clear h2
      go_enter Try.func13, Try.ntmps13
      go_wp2_with fail
      refine (HRD.out).mono ?_
      rintro e w' ⟨rfl, rfl⟩
      go_wp2
      go_ret2
      exact ⟨rfl, rfl⟩
    have b3 : decide ((L : Int) < a) = false := decide_eq_false c3
    have c4 : (L : Int) - a < n := by omega
    have b4 : decide ((L : Int) - a < n) = true := decide_eq_true c4
    have c0 : 0 ≤ a := by omega
    have c5 : a ≤ L := by omega
    clear h2
    go_enter Try.func13, Try.ntmps13
    go_wp2_with fail
    refine (HRD.out).mono ?_
    rintro e w' ⟨rfl, rfl⟩
    go_wp2
    go_ret2
    exact ⟨rfl, rfl⟩
theorem flat_len : ∀ l : Fl, (∀ s ∈ l, SecOk s) → l.flatten.length = l.length * 64
  | [], _ => by simp
  | s :: l, h => by
    rw [List.flatten_cons, List.length_append, flat_len l (fun x hx => h x (List.mem_cons_of_mem _ hx)), (h s (List.mem_cons_self ..)).1, List.length_cons]; omega
theorem vals8_append (a b : List Nat) : vals8 (a ++ b) = vals8 a ++ vals8 b := by simp [vals8]
set_option maxRecDepth 100000 in
set_option maxHeartbeats 8000000 in
theorem read_ok (S : Nat → Prop) (g : Nat) (d : Dk) (N : Nat) (i a n : Nat) (w : World) (h : DkS w S g d N) (hr : readyD d i = 0) (hle : a + n ≤ (d.fl i).length) :
    Calls Try.prog 13 #[.pointer (some ⟨g, 0, none⟩), .int .i64 i, .int .i64 a, .int .i64 n] w fun e w' => e = .returned (.tuple #[.string (bstr (((d.fl i).drop a).take n).flatten), .int .i64 0]) ∧ Below w.heap.size w w' := by
  have HRD := Lib.hid (ready_any S g d N i w h)
  rw [hr] at HRD
  obtain ⟨ho, hif, hf0, hf8⟩ := ready_ok hr
  have hi : i < 8 := by omega
  obtain ⟨m, hm⟩ := h
  have hc : ∀ W, Below w.heap.size w W → W.cell? ⟨g, i * 2, none⟩ = some (.int .i64 ((d.fl i).length : Nat)) ∧ W.cell? ⟨g, i * 2 + 1, none⟩ = some (.map (m.M i)) := fun W hb => by
    have hg : Blk W g 70 (dkA d m) := hm.blk.below hb (hm.lt _ hm.sg)
    exact ⟨by rw [hg.cell, dkA_get _ _ (by omega), show i * 2 = 2 * i by omega, cell_len _ _ (by omega)], by rw [hg.cell, dkA_get _ _ (by omega), show i * 2 + 1 = 2 * i + 1 by omega, cell_map _ _ (by omega)]⟩
  have hfl : ∀ W, Below w.heap.size w W → FL W (m.M i) (d.fl i) := fun W hb => fm_keep (hm.fl i (by omega)) (fun b e => hb.block b (hm.lt _ (hm.sm i (by omega) b e)))
  obtain ⟨y0, y1⟩ := hc w (Below.refl _ _)
  have hok := hm.ok i (by omega)
  generalize d.fl i = l at *
  obtain ⟨L, hL⟩ : ∃ L, l.length = L := ⟨_, rfl⟩
  rw [hL] at hle y0
  have hl8 : L ≤ 8192 := by rw [← hL]; exact hok.1
  have HC := Lib.hid hc
  have HFL := Lib.hid hfl
  have HL := Lib.hid hL
  have HOK := Lib.hid hok
  have b1 : decide ((a : Int) < 0) = false := decide_eq_false (by omega)
  have b2 : decide ((n : Int) < 0) = false := decide_eq_false (by omega)
  have b3 : decide (L < a) = false := decide_eq_false (by omega)
  have b3i : decide ((L : Int) < a) = false := decide_eq_false (by omega)
  have b4 : decide ((L : Int) - a < n) = false := decide_eq_false (by omega)
  have c0 : (a : Int) ≤ L := by omega
  have c1 : (n : Int) ≤ 8192 := by omega
  have c2 : (L : Int) ≤ 8192 := by omega
  have hgr0 := Try.Builder_Grow_fresh w.heap.size w.heap.size (n * 64) (w.alloc (.cells #[.pointer none, .slice none 0 0] 81)) (Nat.le_refl _) (Blk.new w 81 #[.pointer none, .slice none 0 0]) (by simp) (by omega)
  have hgr : Calls Try.prog 43 #[.pointer (some ⟨w.heap.size, 0, none⟩), .int .i64 ((n : Int) * 64)] (w.alloc (.cells #[.pointer none, .slice none 0 0] 81)) fun e w' => e = .returned (.tuple #[]) ∧ (Bq w.heap.size w.heap.size [] w' ∧ Below w.heap.size (w.alloc (.cells #[.pointer none, .slice none 0 0] 81)) w') := hgr0
  have HGR := Lib.hid hgr
  clear hm hr ho hif hf0 hf8 hc hfl hok hL hgr hgr0
  go_enter Try.func13, Try.ntmps13
  go_wp2_with fail
  refine (HRD.out).mono ?_
  rintro e w' ⟨rfl, rfl⟩
  go_wp2_with fail
  refine (HGR.out).mono ?_
  rintro e w1 ⟨rfl, hq1, hb1⟩
  have HQ1 := Lib.hid hq1
  have HB1 := Lib.hid (show Below w.heap.size w w1 from (one_alloc).trans hb1)
  clear hq1 hb1 y0 y1
  go_wp2
  go_loopw [50] (fun v wr => ∃ j : Nat, j ≤ n ∧ v = .int .i64 j ∧ Bq w.heap.size w.heap.size (vals8 ((l.drop a).take j).flatten) wr ∧ Below w.heap.size w wr) (fun v _ => n - (intOf v).toNat)
  case atStart => exact ⟨0, Nat.zero_le _, rfl, HQ1.out, HB1.out⟩
  case round =>
    obtain ⟨j, hj, rfl, hq, hb⟩ := hrel
    have hws : w.heap.size ≤ wr.heap.size := hb.size
    by_cases hlt : j < n
    · obtain ⟨y0, y1⟩ := HC.out wr hb
      have hjl : a + j < l.length := by rw [HL.out]; omega
      obtain ⟨s, hs⟩ : ∃ s, l[a + j]? = some s := ⟨l[a + j], List.getElem?_eq_getElem hjl⟩
      have hgd : l.getD (a + j) zS = s := by rw [List.getD_eq_getElem?_getD, hs]; rfl
      have hlk := fm_look (W := wr) (HFL.out wr hb) (j := a + j) hjl (by omega) ((a : Int) + j) (by omega)
      rw [hgd] at hlk
      have hso := HOK.out.2 s (List.mem_of_getElem? hs)
      have hi64 : (Try.prog.info? 72).map (·.size) = some (vals8 s).toArray.size := by rw [List.size_toArray, vals8_length, hso.1]; kernel_rfl
      have hst : (storeCells ⟨wr.heap.size, 0, none⟩ (vals8 s)).run Try.prog (wr.alloc (.cells #[.int .u8 0, .int .u8 0, .int .u8 0, .int .u8 0, .int .u8 0, .int .u8 0, .int .u8 0, .int .u8 0, .int .u8 0, .int .u8 0, .int .u8 0, .int .u8 0, .int .u8 0, .int .u8 0, .int .u8 0, .int .u8 0, .int .u8 0, .int .u8 0, .int .u8 0, .int .u8 0, .int .u8 0, .int .u8 0, .int .u8 0, .int .u8 0, .int .u8 0, .int .u8 0, .int .u8 0, .int .u8 0, .int .u8 0, .int .u8 0, .int .u8 0, .int .u8 0, .int .u8 0, .int .u8 0, .int .u8 0, .int .u8 0, .int .u8 0, .int .u8 0, .int .u8 0, .int .u8 0, .int .u8 0, .int .u8 0, .int .u8 0, .int .u8 0, .int .u8 0, .int .u8 0, .int .u8 0, .int .u8 0, .int .u8 0, .int .u8 0, .int .u8 0, .int .u8 0, .int .u8 0, .int .u8 0, .int .u8 0, .int .u8 0, .int .u8 0, .int .u8 0, .int .u8 0, .int .u8 0, .int .u8 0, .int .u8 0, .int .u8 0, .int .u8 0] 72)) = .ok () (wr.alloc (.cells (vals8 s).toArray 72)) :=
        run_storeCells_new (P := Try.prog) wr 72 #[.int .u8 0, .int .u8 0, .int .u8 0, .int .u8 0, .int .u8 0, .int .u8 0, .int .u8 0, .int .u8 0, .int .u8 0, .int .u8 0, .int .u8 0, .int .u8 0, .int .u8 0, .int .u8 0, .int .u8 0, .int .u8 0, .int .u8 0, .int .u8 0, .int .u8 0, .int .u8 0, .int .u8 0, .int .u8 0, .int .u8 0, .int .u8 0, .int .u8 0, .int .u8 0, .int .u8 0, .int .u8 0, .int .u8 0, .int .u8 0, .int .u8 0, .int .u8 0, .int .u8 0, .int .u8 0, .int .u8 0, .int .u8 0, .int .u8 0, .int .u8 0, .int .u8 0, .int .u8 0, .int .u8 0, .int .u8 0, .int .u8 0, .int .u8 0, .int .u8 0, .int .u8 0, .int .u8 0, .int .u8 0, .int .u8 0, .int .u8 0, .int .u8 0, .int .u8 0, .int .u8 0, .int .u8 0, .int .u8 0, .int .u8 0, .int .u8 0, .int .u8 0, .int .u8 0, .int .u8 0, .int .u8 0, .int .u8 0, .int .u8 0, .int .u8 0] (vals8 s).toArray hi64 (by show _ = (vals8 s).length; rw [vals8_length, hso.1]; kernel_rfl) (all_oneCell_toArray (vals8_one s))
      have hrd : Reads (wr.alloc (.cells (vals8 s).toArray 72)) (wr.heap.size + 1) 1 (some ⟨wr.heap.size, 0, none⟩) 64 (vals8 s) := ⟨by rw [vals8_length, hso.1], fun _ => ⟨_, rfl, Nat.lt_succ_self _, fun k u hu => by
        rw [Addr.add_mid, (Blk.new wr 72 (vals8 s).toArray).cell]
        simpa using hu⟩⟩
      have hfl := flat_len ((l.drop a).take j) (fun x hx => HOK.out.2 x (List.mem_of_mem_drop (List.mem_of_mem_take hx)))
      have HWR := Lib.hid (bq_write w.heap.size w.heap.size _ (vals8 s) (some ⟨wr.heap.size, 0, none⟩) 64 64 (wr.heap.size + 1) (wr.alloc (.cells (vals8 s).toArray 72)) (bq_step hq one_alloc) hrd (vals8_one s) (by rw [vals8_length, hfl, List.length_take]; omega) (by simp; omega))
      have HBB := Lib.hid hb
      have HSS := Lib.hid hs
      have hal : Try.prog.arrayLen 72 = 64 := by kernel_rfl
      have hvl : (vals8 s).length = 64 := by rw [vals8_length, hso.1]
      have hlk2 : (Instr.lookup 64 (.map (m.M i)) (.int .i64 ((a : Int) + j)) false).run Try.prog wr = .ok (.agg (vals8 s).toArray) wr := hlk
      clear hb hq hrd hs hgd hso hi64 hfl hlk
      go_wp2_with fail
      refine (HWR.out).mono ?_
      rintro e w2 ⟨rfl, hq2, hb2⟩
      have HEND := Lib.hid (show Bq w.heap.size w.heap.size (vals8 ((l.drop a).take (j + 1)).flatten) w2 ∧ Below w.heap.size w w2 by
        refine ⟨?_, (HBB.out.trans ((one_alloc (w := wr)).mono hws)).trans hb2⟩
        have e : (l.drop a).take (j + 1) = (l.drop a).take j ++ [s] := take_snoc (by rw [List.getElem?_drop]; exact HSS.out)
        rw [e, List.flatten_append, vals8_append]
        simpa using hq2)
      clear hq2 hb2 y0 y1 hst hlk2 hvl
      go_wp2
      go_roundw
      case rel => exact ⟨j + 1, by omega, by go_num, HEND.out.1, HEND.out.2⟩
      case measure => simp [intOf]; omega
    · obtain rfl : j = n := by omega
      have HST := Lib.hid (bq_string w.heap.size w.heap.size _ wr hq (fun x hx => by
        obtain ⟨s, hs, hxs⟩ := List.mem_flatten.1 hx
        exact (HOK.out.2 s (List.mem_of_mem_drop (List.mem_of_mem_take hs))).2 x hxs) hws)
      have HBB := Lib.hid hb
      clear hb hq
      go_wp2_with fail
      refine (HST.out).mono ?_
      rintro e w2 ⟨rfl, hb2⟩
      have HB2 := Lib.hid (HBB.out.trans hb2)
      clear hb2
      go_wp2
      go_ret2
      exact ⟨rfl, HB2.out⟩
theorem read_any (S : Nat → Prop) (g : Nat) (d : Dk) (N : Nat) (f a n : Int) (ha : -9223372036854775808 ≤ a ∧ a ≤ 9223372036854775807) (w : World) (h : DkS w S g d N) :
    Calls Try.prog 13 #[.pointer (some ⟨g, 0, none⟩), .int .i64 f, .int .i64 a, .int .i64 n] w fun e w' => e = .returned (.tuple #[.string (readD d f a n).1, .int .i64 (readD d f a n).2]) ∧ Below w.heap.size w w' := by
  unfold readD
  by_cases hr : readyD d f = 0
  · rw [if_neg (by simpa using hr)]
    by_cases h2 : a < 0 ∨ n < 0 ∨ sizeD d f < a ∨ sizeD d f - a < n
    · rw [if_pos h2]
      exact (read_err S g d N f a n w h 5 ha (.inr ⟨hr, h2, rfl⟩)).mono fun e w' ⟨he, hw⟩ => ⟨he, by subst hw; exact Below.refl _ _⟩
    · rw [if_neg h2]
      have hf0 := (ready_ok hr).2.2.1
      have hif := (ready_ok hr).2.1
      obtain ⟨i, rfl⟩ := Int.eq_ofNat_of_zero_le hf0
      obtain ⟨p, rfl⟩ := Int.eq_ofNat_of_zero_le (show 0 ≤ a by omega)
      obtain ⟨q, rfl⟩ := Int.eq_ofNat_of_zero_le (show 0 ≤ n by omega)
      have hs : sizeD d i = ((d.fl i).length : Nat) := by unfold sizeD; rw [hif]; rfl
      rw [hs] at h2
      exact read_ok S g d N i p q w h hr (by omega)
  · rw [if_pos hr]
    exact (read_err S g d N f a n w h _ ha (.inl ⟨hr, rfl⟩)).mono fun e w' ⟨he, hw⟩ => ⟨he, by subst hw; exact Below.refl _ _⟩
end Go.Proofs.Ytffojihhjiogpaa
