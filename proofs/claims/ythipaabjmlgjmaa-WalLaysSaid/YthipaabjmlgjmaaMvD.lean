/- Layer 5: Read, Sync. Conditions: those of each lemma. -/
import Derived.Test.YthipaabjmlgjmaaMvC
namespace Go.Proofs.Ythipaabjmlgjmaa
open Go.RowKit Go Go.Maps
set_option linter.unusedVariables false
set_option linter.unusedSimpArgs false
def readD (d : Dk) (f a n : Int) : ByteArray × Int :=
  if readyD d f ≠ 0 then (⟨#[]⟩, readyD d f) else if a < 0 ∨ n < 0 ∨ sizeD d f < a ∨ sizeD d f - a < n then (⟨#[]⟩, 5)
  else (bstr (((d.fl f.toNat).drop a.toNat).take n.toNat).flatten, 0)
set_option maxRecDepth 100000 in
set_option maxHeartbeats 4000000 in
theorem read_err (S : Nat → Prop) (g : Nat) (d : Dk) (N : Nat) (f a n : Int) (w : World) (h : DkS w S g d N) (e0 : Int) (ha : -9223372036854775808 ≤ a ∧ a ≤ 9223372036854775807) (he : (readyD d f ≠ 0 ∧ e0 = readyD d f) ∨ (readyD d f = 0 ∧ (a < 0 ∨ n < 0 ∨ sizeD d f < a ∨ sizeD d f - a < n) ∧ e0 = 5)) :
    Calls Try.prog 33 #[.pointer (some ⟨g, 0, none⟩), .int .i64 f, .int .i64 a, .int .i64 n] w fun e w' => e = .returned (.tuple #[.string ⟨#[]⟩, .int .i64 e0]) ∧ w = w' := by
  have HRD := Lib.hid (ready_any S g d N f w h)
  rcases he with ⟨h1, rfl⟩ | ⟨h1, h2, rfl⟩
  · have hne : (readyD d f != 0) = true := by rw [bne_iff_ne]; exact h1
    generalize readyD d f = E at *
    clear h1 h
    go_enter Try.func33, Try.ntmps33
    go_wp2_with fail
    refine (HRD.out).mono ?_
    rintro e w' ⟨rfl, rfl⟩
    go_wp2
    go_ret2
    exact ⟨rfl, rfl⟩
  · rw [h1] at HRD
    obtain ⟨ho, hif, hf0, hf8⟩ := ready_ok h1
    obtain ⟨i, rfl⟩ := Int.eq_ofNat_of_zero_le hf0
    have hi : i < 8 := by omega
    obtain ⟨m, hm⟩ := h
    have hs : sizeD d i = ((d.fl i).length : Nat) := by unfold sizeD; rw [hif]; rfl
    have y0 : w.cell? ⟨g, i * 2, none⟩ = some (.int .i64 ((d.fl i).length : Nat)) := by rw [hm.blk.cell, dkA_get _ _ (by omega), show i * 2 = 2 * i by omega, cell_len _ _ (by omega)]
    have hl8 := (hm.ok i (by omega)).1
    rw [hs] at h2
    generalize hL : (d.fl i).length = L at *
    clear hL hs hif ho h1 hm
    have hl8I : (L : Int) ≤ 8192 := by omega
    by_cases c1 : a < 0
    · have b1 : decide (a < 0) = true := decide_eq_true c1
      clear h2
      go_enter Try.func33, Try.ntmps33
      go_wp2_with fail
      refine (HRD.out).mono ?_
      rintro e w' ⟨rfl, rfl⟩
      go_wp2
      go_ret2
      exact ⟨rfl, rfl⟩
    have b1 : decide (a < 0) = false := decide_eq_false c1
    by_cases c2 : n < 0
    · have b2 : decide (n < 0) = true := decide_eq_true c2
      clear h2
      go_enter Try.func33, Try.ntmps33
      go_wp2_with fail
      refine (HRD.out).mono ?_
      rintro e w' ⟨rfl, rfl⟩
      go_wp2
      go_ret2
      exact ⟨rfl, rfl⟩
    have b2 : decide (n < 0) = false := decide_eq_false c2
    by_cases c3 : (L : Int) < a
    · have b3 : decide ((L : Int) < a) = true := decide_eq_true c3
      clear h2
      go_enter Try.func33, Try.ntmps33
      go_wp2_with fail
      refine (HRD.out).mono ?_
      rintro e w' ⟨rfl, rfl⟩
      go_wp2
      go_ret2
      exact ⟨rfl, rfl⟩
    have b3 : decide ((L : Int) < a) = false := decide_eq_false c3
    have c4 : (L : Int) - a < n := by omega
    have b4 : decide ((L : Int) - a < n) = true := decide_eq_true c4
    have c0 : 0 ≤ a := by omega
    have c5 : a ≤ L := by omega
    clear h2
    go_enter Try.func33, Try.ntmps33
    go_wp2_with fail
    refine (HRD.out).mono ?_
    rintro e w' ⟨rfl, rfl⟩
    go_wp2
    go_ret2
    exact ⟨rfl, rfl⟩
theorem flat_len : ∀ l : Fl, (∀ s ∈ l, SecOk s) → l.flatten.length = l.length * 64
  | [], _ => by simp
  | s :: l, h => by
    rw [List.flatten_cons, List.length_append, flat_len l (fun x hx => h x (List.mem_cons_of_mem _ hx)), (h s (List.mem_cons_self ..)).1, List.length_cons]; omega
theorem vals8_append (a b : List Nat) : vals8 (a ++ b) = vals8 a ++ vals8 b := by simp [vals8]
set_option maxRecDepth 100000 in
set_option maxHeartbeats 8000000 in
theorem read_ok (S : Nat → Prop) (g : Nat) (d : Dk) (N : Nat) (i a n : Nat) (w : World) (h : DkS w S g d N) (hr : readyD d i = 0) (hle : a + n ≤ (d.fl i).length) :
    Calls Try.prog 33 #[.pointer (some ⟨g, 0, none⟩), .int .i64 i, .int .i64 a, .int .i64 n] w fun e w' => e = .returned (.tuple #[.string (bstr (((d.fl i).drop a).take n).flatten), .int .i64 0]) ∧ Below w.heap.size w w' := by
  have HRD := Lib.hid (ready_any S g d N i w h)
  rw [hr] at HRD
  obtain ⟨ho, hif, hf0, hf8⟩ := ready_ok hr
  have hi : i < 8 := by omega
  obtain ⟨m, hm⟩ := h
  have hc : ∀ W, Below w.heap.size w W → W.cell? ⟨g, i * 2, none⟩ = some (.int .i64 ((d.fl i).length : Nat)) ∧ W.cell? ⟨g, i * 2 + 1, none⟩ = some (.map (m.M i)) := fun W hb => by
    have hg : Blk W g 70 (dkA d m) := hm.blk.below hb (hm.lt _ hm.sg)
    exact ⟨by rw [hg.cell, dkA_get _ _ (by omega), show i * 2 = 2 * i by omega, cell_len _ _ (by omega)], by rw [hg.cell, dkA_get _ _ (by omega), show i * 2 + 1 = 2 * i + 1 by omega, cell_map _ _ (by omega)]⟩
  have hfl : ∀ W, Below w.heap.size w W → FL W (m.M i) (d.fl i) := fun W hb => fm_keep (hm.fl i (by omega)) (fun b e => hb.block b (hm.lt _ (hm.sm i (by omega) b e)))
  obtain ⟨y0, y1⟩ := hc w (Below.refl _ _)
  have hok := hm.ok i (by omega)
  generalize d.fl i = l at *
  obtain ⟨L, hL⟩ : ∃ L, l.length = L := ⟨_, rfl⟩
  rw [hL] at hle y0
  have hl8 : L ≤ 8192 := by rw [← hL]; exact hok.1
  have HC := Lib.hid hc
  have HFL := Lib.hid hfl
  have HL := Lib.hid hL
  have HOK := Lib.hid hok
  have b1 : decide ((a : Int) < 0) = false := decide_eq_false (by omega)
  have b2 : decide ((n : Int) < 0) = false := decide_eq_false (by omega)
  have b3 : decide (L < a) = false := decide_eq_false (by omega)
  have b3i : decide ((L : Int) < a) = false := decide_eq_false (by omega)
  have b4 : decide ((L : Int) - a < n) = false := decide_eq_false (by omega)
  have c0 : (a : Int) ≤ L := by omega
  have c1 : (n : Int) ≤ 8192 := by omega
  have c2 : (L : Int) ≤ 8192 := by omega
  have hgr0 := Try.Builder_Grow_fresh w.heap.size w.heap.size (n * 64) (w.alloc (.cells #[.pointer none, .slice none 0 0] 111)) (Nat.le_refl _) (Blk.new w 111 #[.pointer none, .slice none 0 0]) (by simp) (by omega)
  have hgr : Calls Try.prog 57 #[.pointer (some ⟨w.heap.size, 0, none⟩), .int .i64 ((n : Int) * 64)] (w.alloc (.cells #[.pointer none, .slice none 0 0] 111)) fun e w' => e = .returned (.tuple #[]) ∧ (Bq w.heap.size w.heap.size [] w' ∧ Below w.heap.size (w.alloc (.cells #[.pointer none, .slice none 0 0] 111)) w') := hgr0
  have HGR := Lib.hid hgr
  clear hm hr ho hif hf0 hf8 hc hfl hok hL hgr hgr0
  go_enter Try.func33, Try.ntmps33
  go_wp2_with fail
  refine (HRD.out).mono ?_
  rintro e w' ⟨rfl, rfl⟩
  go_wp2_with fail
  refine (HGR.out).mono ?_
  rintro e w1 ⟨rfl, hq1, hb1⟩
  have HQ1 := Lib.hid hq1
  have HB1 := Lib.hid (show Below w.heap.size w w1 from (one_alloc).trans hb1)
  clear hq1 hb1 y0 y1
  go_wp2
  go_loopw [50] (fun v wr => ∃ j : Nat, j ≤ n ∧ v = .int .i64 j ∧ Bq w.heap.size w.heap.size (vals8 ((l.drop a).take j).flatten) wr ∧ Below w.heap.size w wr) (fun v _ => n - (intOf v).toNat)
  case atStart => exact ⟨0, Nat.zero_le _, rfl, HQ1.out, HB1.out⟩
  case round =>
    obtain ⟨j, hj, rfl, hq, hb⟩ := hrel
    have hws : w.heap.size ≤ wr.heap.size := hb.size
    by_cases hlt : j < n
    · obtain ⟨y0, y1⟩ := HC.out wr hb
      have hjl : a + j < l.length := by rw [HL.out]; omega
      obtain ⟨s, hs⟩ : ∃ s, l[a + j]? = some s := ⟨l[a + j], List.getElem?_eq_getElem hjl⟩
      have hgd : l.getD (a + j) zS = s := by rw [List.getD_eq_getElem?_getD, hs]; rfl
      have hlk := fm_look (W := wr) (HFL.out wr hb) (j := a + j) hjl (by omega) ((a : Int) + j) (by omega)
      rw [hgd] at hlk
      have hso := HOK.out.2 s (List.mem_of_getElem? hs)
      have hi64 : (Try.prog.info? 97).map (·.size) = some (vals8 s).toArray.size := by rw [List.size_toArray, vals8_length, hso.1]; kernel_rfl
      have hst : (storeCells ⟨wr.heap.size, 0, none⟩ (vals8 s)).run Try.prog (wr.alloc (.cells #[.int .u8 0, .int .u8 0, .int .u8 0, .int .u8 0, .int .u8 0, .int .u8 0, .int .u8 0, .int .u8 0, .int .u8 0, .int .u8 0, .int .u8 0, .int .u8 0, .int .u8 0, .int .u8 0, .int .u8 0, .int .u8 0, .int .u8 0, .int .u8 0, .int .u8 0, .int .u8 0, .int .u8 0, .int .u8 0, .int .u8 0, .int .u8 0, .int .u8 0, .int .u8 0, .int .u8 0, .int .u8 0, .int .u8 0, .int .u8 0, .int .u8 0, .int .u8 0, .int .u8 0, .int .u8 0, .int .u8 0, .int .u8 0, .int .u8 0, .int .u8 0, .int .u8 0, .int .u8 0, .int .u8 0, .int .u8 0, .int .u8 0, .int .u8 0, .int .u8 0, .int .u8 0, .int .u8 0, .int .u8 0, .int .u8 0, .int .u8 0, .int .u8 0, .int .u8 0, .int .u8 0, .int .u8 0, .int .u8 0, .int .u8 0, .int .u8 0, .int .u8 0, .int .u8 0, .int .u8 0, .int .u8 0, .int .u8 0, .int .u8 0, .int .u8 0] 97)) = .ok () (wr.alloc (.cells (vals8 s).toArray 97)) :=
        run_storeCells_new (P := Try.prog) wr 97 #[.int .u8 0, .int .u8 0, .int .u8 0, .int .u8 0, .int .u8 0, .int .u8 0, .int .u8 0, .int .u8 0, .int .u8 0, .int .u8 0, .int .u8 0, .int .u8 0, .int .u8 0, .int .u8 0, .int .u8 0, .int .u8 0, .int .u8 0, .int .u8 0, .int .u8 0, .int .u8 0, .int .u8 0, .int .u8 0, .int .u8 0, .int .u8 0, .int .u8 0, .int .u8 0, .int .u8 0, .int .u8 0, .int .u8 0, .int .u8 0, .int .u8 0, .int .u8 0, .int .u8 0, .int .u8 0, .int .u8 0, .int .u8 0, .int .u8 0, .int .u8 0, .int .u8 0, .int .u8 0, .int .u8 0, .int .u8 0, .int .u8 0, .int .u8 0, .int .u8 0, .int .u8 0, .int .u8 0, .int .u8 0, .int .u8 0, .int .u8 0, .int .u8 0, .int .u8 0, .int .u8 0, .int .u8 0, .int .u8 0, .int .u8 0, .int .u8 0, .int .u8 0, .int .u8 0, .int .u8 0, .int .u8 0, .int .u8 0, .int .u8 0, .int .u8 0] (vals8 s).toArray hi64 (by show _ = (vals8 s).length; rw [vals8_length, hso.1]; kernel_rfl) (all_oneCell_toArray (vals8_one s))
      have hrd : Reads (wr.alloc (.cells (vals8 s).toArray 97)) (wr.heap.size + 1) 1 (some ⟨wr.heap.size, 0, none⟩) 64 (vals8 s) := ⟨by rw [vals8_length, hso.1], fun _ => ⟨_, rfl, Nat.lt_succ_self _, fun k u hu => by
        rw [Addr.add_mid, (Blk.new wr 97 (vals8 s).toArray).cell]
        simpa using hu⟩⟩
      have hfl := flat_len ((l.drop a).take j) (fun x hx => HOK.out.2 x (List.mem_of_mem_drop (List.mem_of_mem_take hx)))
      have HWR := Lib.hid (bq_write w.heap.size w.heap.size _ (vals8 s) (some ⟨wr.heap.size, 0, none⟩) 64 64 (wr.heap.size + 1) (wr.alloc (.cells (vals8 s).toArray 97)) (bq_step hq one_alloc) hrd (vals8_one s) (by rw [vals8_length, hfl, List.length_take]; omega) (by simp; omega))
      have HBB := Lib.hid hb
      have HSS := Lib.hid hs
      have hal : Try.prog.arrayLen 97 = 64 := by kernel_rfl
      have hvl : (vals8 s).length = 64 := by rw [vals8_length, hso.1]
      have hlk2 : (Instr.lookup 64 (.map (m.M i)) (.int .i64 ((a : Int) + j)) false).run Try.prog wr = .ok (.agg (vals8 s).toArray) wr := hlk
      clear hb hq hrd hs hgd hso hi64 hfl hlk
      go_wp2_with fail
      refine (HWR.out).mono ?_
      rintro e w2 ⟨rfl, hq2, hb2⟩
      have HEND := Lib.hid (show Bq w.heap.size w.heap.size (vals8 ((l.drop a).take (j + 1)).flatten) w2 ∧ Below w.heap.size w w2 by
        refine ⟨?_, (HBB.out.trans ((one_alloc (w := wr)).mono hws)).trans hb2⟩
        have e : (l.drop a).take (j + 1) = (l.drop a).take j ++ [s] := take_snoc (by rw [List.getElem?_drop]; exact HSS.out)
        rw [e, List.flatten_append, vals8_append]
        simpa using hq2)
      clear hq2 hb2 y0 y1 hst hlk2 hvl
      go_wp2
      go_roundw
      case rel => exact ⟨j + 1, by omega, by go_num, HEND.out.1, HEND.out.2⟩
      case measure => simp [intOf]; omega
    · obtain rfl : j = n := by omega
      have HST := Lib.hid (bq_string w.heap.size w.heap.size _ wr hq (fun x hx => by
        obtain ⟨s, hs, hxs⟩ := List.mem_flatten.1 hx
        exact (HOK.out.2 s (List.mem_of_mem_drop (List.mem_of_mem_take hs))).2 x hxs) hws)
      have HBB := Lib.hid hb
      clear hb hq
      go_wp2_with fail
      refine (HST.out).mono ?_
      rintro e w2 ⟨rfl, hb2⟩
      have HB2 := Lib.hid (HBB.out.trans hb2)
      clear hb2
      go_wp2
      go_ret2
      exact ⟨rfl, HB2.out⟩
theorem read_any (S : Nat → Prop) (g : Nat) (d : Dk) (N : Nat) (f a n : Int) (ha : -9223372036854775808 ≤ a ∧ a ≤ 9223372036854775807) (w : World) (h : DkS w S g d N) :
    Calls Try.prog 33 #[.pointer (some ⟨g, 0, none⟩), .int .i64 f, .int .i64 a, .int .i64 n] w fun e w' => e = .returned (.tuple #[.string (readD d f a n).1, .int .i64 (readD d f a n).2]) ∧ Below w.heap.size w w' := by
  unfold readD
  by_cases hr : readyD d f = 0
  · rw [if_neg (by simpa using hr)]
    by_cases h2 : a < 0 ∨ n < 0 ∨ sizeD d f < a ∨ sizeD d f - a < n
    · rw [if_pos h2]
      exact (read_err S g d N f a n w h 5 ha (.inr ⟨hr, h2, rfl⟩)).mono fun e w' ⟨he, hw⟩ => ⟨he, by subst hw; exact Below.refl _ _⟩
    · rw [if_neg h2]
      have hf0 := (ready_ok hr).2.2.1
      have hif := (ready_ok hr).2.1
      obtain ⟨i, rfl⟩ := Int.eq_ofNat_of_zero_le hf0
      obtain ⟨p, rfl⟩ := Int.eq_ofNat_of_zero_le (show 0 ≤ a by omega)
      obtain ⟨q, rfl⟩ := Int.eq_ofNat_of_zero_le (show 0 ≤ n by omega)
      have hs : sizeD d i = ((d.fl i).length : Nat) := by unfold sizeD; rw [hif]; rfl
      rw [hs] at h2
      exact read_ok S g d N i p q w h hr (by omega)
  · rw [if_pos hr]
    exact (read_err S g d N f a n w h _ ha (.inl ⟨hr, rfl⟩)).mono fun e w' ⟨he, hw⟩ => ⟨he, by subst hw; exact Below.refl _ _⟩
end Go.Proofs.Ythipaabjmlgjmaa
namespace Go.Proofs.Ythipaabjmlgjmaa
open Go.RowKit Go Go.Maps
set_option linter.unusedVariables false
set_option linter.unusedSimpArgs false
theorem gen_alloc {P : World → Prop} {w : World} {X cs : Array Value} {t : TypeId} (h : P (w.alloc (.cells cs t))) (e : X = cs) : P (w.alloc (.cells X t)) := by subst e; exact h
theorem fold_get : ∀ (l : List Value) (k : Nat) (Z : Array Value), k + l.length ≤ Z.size →
    ((l.zipIdx k).foldl (fun cs x => cs.setIfInBounds x.snd x.fst) Z).size = Z.size ∧ ∀ i, ((l.zipIdx k).foldl (fun cs x => cs.setIfInBounds x.snd x.fst) Z)[i]? = if k ≤ i ∧ i < k + l.length then l[i - k]? else Z[i]?
  | [], k, Z, _ => ⟨rfl, fun i => by rw [if_neg (by simp)]; rfl⟩
  | v :: l, k, Z, h => by
    rw [List.length_cons] at h
    obtain ⟨h1, h2⟩ := fold_get l (k + 1) (Z.setIfInBounds k v) (by simp; omega)
    rw [List.zipIdx_cons, List.foldl_cons]
    refine ⟨by rw [h1]; simp, fun i => ?_⟩
    rw [h2 i, List.length_cons]
    by_cases hik : i = k
    · subst hik
      rw [if_neg (by omega), if_pos (by omega), Array.getElem?_setIfInBounds, if_pos rfl, if_pos (by omega), Nat.sub_self]
      rfl
    · by_cases hr : k + 1 ≤ i ∧ i < k + 1 + l.length
      · rw [if_pos hr, if_pos (by omega), show i - k = (i - (k + 1)) + 1 by omega]
        rfl
      · rw [if_neg hr, if_neg (by omega), Array.getElem?_setIfInBounds, if_neg (fun e => hik e.symm)]
theorem fold_lst (l : List Value) (Z : Array Value) (n : Nat) (hl : l.length = n) (hZ : Z.size = n) : List.foldl (fun cs x => cs.setIfInBounds x.snd x.fst) Z l.zipIdx = l.toArray := by
  obtain ⟨h1, h2⟩ := fold_get l 0 Z (by omega)
  apply Array.ext_getElem?
  intro i
  rw [h2 i, Nat.zero_add, Nat.sub_zero]
  by_cases hi : i < l.length
  · rw [if_pos ⟨Nat.zero_le _, hi⟩, List.getElem?_toArray]
  · rw [if_neg (fun h => hi h.2), Array.getElem?_eq_none (by rw [hZ]; omega), Array.getElem?_eq_none (by rw [List.size_toArray]; omega)]
def mine (f : Nat) (l : List Ch) : List Ch := l.filter (fun c => decide (c.file = f))
def rest (f : Nat) (l : List Ch) : List Ch := l.filter (fun c => !decide (c.file = f))
def sync1 (d : Dk) (f : Nat) : Dk := { doneAll 1 d (mine f d.loose) with loose := rest f d.loose }
def syncD (d : Dk) (f : Int) : Dk × Int := if readyD d f ≠ 0 then (d, readyD d f) else if (opD d []).2 ≠ 0 then opD d [] else (sync1 (opD d []).1 f.toNat, 0)
theorem mine_snoc {f : Nat} {l : List Ch} {x : Ch} : mine f (l ++ [x]) = if x.file = f then mine f l ++ [x] else mine f l := by
  unfold mine; rw [List.filter_append]; by_cases h : x.file = f <;> simp [h]
theorem rest_snoc {f : Nat} {l : List Ch} {x : Ch} : rest f (l ++ [x]) = if x.file = f then rest f l else rest f l ++ [x] := by
  unfold rest; rw [List.filter_append]; by_cases h : x.file = f <;> simp [h]
/-- in the midst of a Sync or a Crash -/
structure Sy (w : World) (S : Nat → Prop) (g : Nat) (A0 : Option Addr) (c0 : Nat) (d : Dk) (N : Nat) (A : Option Addr) (n c : Nat) (ot : List Ch) (W : World) : Prop where
  dk : ∃ S' m', DkAt W S' g m' d N ∧ (m'.A = A0 ∧ m'.cap = c0) ∧ (∀ b, S' b → S b ∨ w.heap.size ≤ b) ∧ ∀ z, (Value.slice A n c).ownBlock = some z → ¬ S' z ∧ w.heap.size ≤ z
  fr : Fr S w W
  own : W.ownsRow 0 99 67 (.slice A n c) n (chsL ot)
  len : n = ot.length
theorem loose_range {W : World} {S : Nat → Prop} {g : Nat} {m : Mm} {d : Dk} {N : Nat} (h : DkAt W S g m d N) {j : Nat} {x : Ch} (hx : d.loose[j]? = some x) : ∃ b, m.A = some ⟨b, 0, none⟩ ∧ W.rangeAt b (j * 67) (chL x) ∧ b < W.heap.size ∧ S b := by
  have hj : j < d.loose.length := (List.getElem?_eq_some_iff.1 hx).1
  have hlen : ∀ c ∈ d.loose, (chL c).length = 67 := fun c hc => chL_length (h.chs c hc)
  obtain ⟨b, cap, hv, hc, hlt⟩ := h.loo.form (by omega)
  have hA : m.A = some ⟨b, 0, none⟩ := by injection hv
  refine ⟨b, hA, fun k v hv => ?_, hlt, h.sl b (by rw [hA]; rfl)⟩
  have hcell := h.loo.cells (g := b) (by rw [hA]; rfl)
  have : (chsL d.loose)[j * 67 + k]? = some v := by
    have e : chsL d.loose = chsL (d.loose.take j) ++ (chL x ++ chsL (d.loose.drop (j + 1))) := by
      have e1 : d.loose = d.loose.take j ++ (x :: d.loose.drop (j + 1)) := by
        rw [List.getElem?_eq_getElem hj] at hx
        rw [← Option.some.inj hx, ← List.drop_eq_getElem_cons hj, List.take_append_drop]
      rw [e1, chsL_append]
      congr 1
      · rw [← e1]
      · rw [← e1]; rfl
    have hl1 : (chsL (d.loose.take j)).length = j * 67 := by rw [chsL_length _ (fun c hc => hlen c (List.mem_of_mem_take hc)), List.length_take]; congr 1; omega
    rw [e, List.getElem?_append_right (by omega), hl1, show j * 67 + k - j * 67 = k by omega, List.getElem?_append_left (List.getElem?_eq_some_iff.1 hv).1]
    exact hv
  have := hcell (j * 67 + k) v this
  rwa [Addr.add_mid, show 0 + (j * 67 + k) = j * 67 + k by omega] at this
theorem sync_err (S : Nat → Prop) (g : Nat) (d : Dk) (N : Nat) (hN : N + 1 ≤ 1000000) (f : Int) (w : World) (h : DkS w S g d N) (hr : readyD d f ≠ 0) :
    Calls Try.prog 47 #[.pointer (some ⟨g, 0, none⟩), .int .i64 f] w fun e w' => e = .returned (.int .i64 (readyD d f)) ∧ DkR w S g d (N + 1) w' := by
  have HRD := Lib.hid (ready_any S g d N f w h)
  have HB0 := Lib.hid (dkR_refl (dkS_more h hN))
  have hne : (readyD d f != 0) = true := by rw [bne_iff_ne]; exact hr
  generalize readyD d f = E at *
  clear h hr
  go_enter Try.func47, Try.ntmps47
  go_wp2_with fail
  refine (HRD.out).mono ?_
  rintro e w' ⟨rfl, rfl⟩
  go_wp2
  go_ret
  exact ⟨rfl, HB0.out⟩
theorem sync_op (S : Nat → Prop) (g : Nat) (d : Dk) (N : Nat) (hN : N + 1 ≤ 1000000) (f : Int) (w : World) (h : DkS w S g d N) (hr : readyD d f = 0) (ho : (opD d []).2 ≠ 0) :
    Calls Try.prog 47 #[.pointer (some ⟨g, 0, none⟩), .int .i64 f] w fun e w' => e = .returned (.int .i64 (opD d []).2) ∧ DkR w S g (opD d []).1 (N + 1) w' := by
  have HRD := Lib.hid (ready_any S g d N f w h)
  rw [hr] at HRD
  have HOP := Lib.hid (op_any S g d N hN none [] 0 0 rfl (by omega) (fun c hc => by cases hc) w (.inl rfl) (fun a ha => by cases ha) h)
  have hne : ((opD d []).2 != 0) = true := by rw [bne_iff_ne]; exact ho
  generalize opD d [] = E at *
  clear h hr ho
  go_enter Try.func47, Try.ntmps47
  go_wp2_with fail
  refine (HRD.out).mono ?_
  rintro e w' ⟨rfl, rfl⟩
  go_wp2_with fail
  refine (HOP.out).mono ?_
  rintro e w1 ⟨rfl, hR⟩
  have HR := Lib.hid hR
  clear hR
  go_wp2
  go_ret
  exact ⟨rfl, HR.out⟩
theorem sync_end {w wr : World} {S S2 : Nat → Prop} {g : Nat} {m2 : Mm} {d1 : Dk} {N n c f : Nat} {A : Option Addr} (hat : DkAt wr S2 g m2 (doneAll 1 d1 (mine f d1.loose)) (N + 1)) (hs2 : ∀ b, S2 b → S b ∨ w.heap.size ≤ b)
    (hd2 : ∀ z, (Value.slice A n c).ownBlock = some z → ¬ S2 z) (hf2 : Fr S w wr) (hown : wr.ownsRow 0 99 67 (.slice A n c) n (chsL (rest f d1.loose))) (hlen : n = (rest f d1.loose).length) (hnew : ∀ z, (Value.slice A n c).ownBlock = some z → w.heap.size ≤ z) :
    DkR w S g (sync1 d1 f) (N + 1) (wr.setCell ⟨g, 32, none⟩ (.slice A n c)) := by
  subst hlen
  have hlo : (doneAll 1 d1 (mine f d1.loose)).loose = d1.loose := (doneAll_rest 1 _ _).1
  have hng : ∀ z, (Value.slice A (rest f d1.loose).length c).ownBlock = some z → z ≠ g := fun z hz e => hd2 z hz (e ▸ hat.sg)
  have hcN := hat.cN
  rw [hlo] at hcN
  have hle : (rest f d1.loose).length ≤ d1.loose.length := List.length_filter_le _ _
  refine ⟨_, ⟨_, dkAt_loose hat (rest f d1.loose) A c (N + 1) ?_ ?_ ?_ ?_ ?_ ⟨Nat.le_refl _, by omega, hcN.2.2⟩⟩, ?_, ?_⟩
  · exact own_block hown (fun z hz => Below.heap_setCell _ _ _ _ (hng z hz))
  · intro x hx
    exact hat.chs x (by rw [hlo]; exact (List.mem_filter.1 hx).1)
  · rw [← dkA_loose (doneAll 1 d1 (mine f d1.loose)) m2 (rest f d1.loose) A c _ rfl]
    exact hat.blk.set_ 32 _
  · exact fr_set (fr_refl _ _) (p := ⟨g, 32, none⟩) (.inl (.inl rfl)) _
  · intro z hz
    exact .inr (hd2 z hz)
  · exact fr_set hf2 (p := ⟨g, 32, none⟩) (hs2 _ hat.sg) _
  · intro b hb
    rcases hb with h1 | h1
    · exact hs2 b h1
    · exact .inr (hnew b h1)
set_option maxRecDepth 100000 in
set_option maxHeartbeats 8000000 in
theorem sync_ok (S : Nat → Prop) (g : Nat) (d : Dk) (N : Nat) (hN : N + 1 ≤ 1000000) (f : Nat) (w : World) (h : DkS w S g d N) (hr : readyD d f = 0) (ho : (opD d []).2 = 0) :
    Calls Try.prog 47 #[.pointer (some ⟨g, 0, none⟩), .int .i64 f] w fun e w' => e = .returned (.int .i64 0) ∧ DkR w S g (sync1 (opD d []).1 f) (N + 1) w' := by
  have HRD := Lib.hid (ready_any S g d N f w h)
  rw [hr] at HRD
  have HOP := Lib.hid (op_any S g d N hN none [] 0 0 rfl (by omega) (fun c hc => by cases hc) w (.inl rfl) (fun a ha => by cases ha) h)
  rw [ho] at HOP
  generalize (opD d []).1 = d1 at *
  obtain ⟨iv, hv1, hv2, hv3, hv4⟩ := info_parts ch_info
  clear h hr ho
  go_enter Try.func47, Try.ntmps47
  go_wp2_with fail
  refine (HRD.out).mono ?_
  rintro e w' ⟨rfl, rfl⟩
  go_wp2_with fail
  refine (HOP.out).mono ?_
  rintro e w1 ⟨rfl, S1, ⟨⟨M1, ga1, A0, c0⟩, hm1⟩, hf1, hs1⟩
  obtain ⟨y2, y3, y4, y5, y6, z2, z3, z4, z5, z6⟩ := dk_more hm1.blk
  dsimp only at y2
  obtain ⟨L, hL⟩ : ∃ L, d1.loose.length = L := ⟨_, rfl⟩
  rw [hL] at y2
  have hcN := hm1.cN
  have hL8 : L ≤ 8192 * 1000000 := by rw [← hL]; omega
  have HSY := Lib.hid (show Sy w S g A0 c0 (doneAll 1 d1 (mine f (d1.loose.take 0))) (N + 1) none 0 0 (rest f (d1.loose.take 0)) w1 from ⟨⟨S1, _, hm1, ⟨rfl, rfl⟩, hs1, fun z hz => by cases hz⟩, hf1, World.ownsRow_nil _ _ _ _, rfl⟩)
  have HL := Lib.hid hL
  clear y3 y4 y5 y6 z2 z3 z4 z5 z6 hm1 hf1 hs1 hcN hL
  go_wp2
  go_loopw [7, 26] (fun o v wr => ∃ (j : Nat) (A : Option Addr) (n c : Nat), j ≤ L ∧ v = .int .i64 j ∧ o = .slice A n c ∧ Sy w S g A0 c0 (doneAll 1 d1 (mine f (d1.loose.take j))) (N + 1) A n c (rest f (d1.loose.take j)) wr) (fun _ v _ => L - (intOf v).toNat)
  case atStart => exact ⟨0, none, 0, 0, Nat.zero_le _, rfl, rfl, HSY.out⟩
  case round =>
    clear y2 HSY
    obtain ⟨j, A, n, c, hj, rfl, rfl, hsy⟩ := hrel
    by_cases hlt : j < L
    · obtain ⟨x, hx⟩ : ∃ x, d1.loose[j]? = some x := ⟨d1.loose[j]'(by rw [HL.out]; exact hlt), List.getElem?_eq_getElem _⟩
      obtain ⟨⟨S2, m2, hat, ⟨hA2, hc2⟩, hs2, hd2⟩, hf2, hown, hlen⟩ := hsy
      have hlo : (doneAll 1 d1 (mine f (d1.loose.take j))).loose = d1.loose := (doneAll_rest 1 _ _).1
      obtain ⟨b, hAb, hrng, hbl, hSb⟩ := loose_range hat (x := x) (j := j) (by rw [hlo]; exact hx)
      obtain rfl : A0 = some ⟨b, 0, none⟩ := by rw [← hA2, hAb]
      have hxo := hat.chs x (by rw [hlo]; exact List.mem_of_getElem? hx)
      have hln := chL_length hxo
      have hn8 : n ≤ 8192 * 1000000 := by
        rw [hlen]
        have h1 : (rest f (d1.loose.take j)).length ≤ (d1.loose.take j).length := List.length_filter_le _ _
        rw [List.length_take] at h1
        omega
      have hu := Try.underlying99
      have hs67 : (Try.prog.info? 99).map (·.size) = some (chL x).length := by rw [hln]; kernel_rfl
      have hs67a : (Try.prog.info? 99).map (·.size) = some (chL x).toArray.size := by rw [List.size_toArray, hln]; kernel_rfl
      have hst : (storeCells ⟨wr.heap.size, 0, none⟩ (chL x)).run Try.prog (wr.alloc (.cells Try.zeroCells99 99)) = .ok () (wr.alloc (.cells (chL x).toArray 99)) :=
        run_storeCells_new (P := Try.prog) wr 99 Try.zeroCells99 (chL x).toArray hs67a (by show _ = (chL x).length; rw [hln]; kernel_rfl) (chL_one x)
      have hbx := Blk.new wr 99 (chL x).toArray
      have hx0 : (wr.alloc (.cells (chL x).toArray 99)).cell? ⟨wr.heap.size, 0, none⟩ = some (.int .i64 x.file) := by rw [hbx.cell]; rfl
      have hNS : ¬ S2 wr.heap.size := fun e => by have := hat.lt _ e; omega
      have HNS := Lib.hid hNS
      have HX := Lib.hid hx
      by_cases hxf : x.file = f
      · have hrb : (wr.alloc (.cells (chL x).toArray 99)).drew.rangeAt wr.heap.size 0 (chL x) := fun k v hv => by
          rw [show (wr.alloc (.cells (chL x).toArray 99)).drew.cell? ⟨wr.heap.size, 0 + k, none⟩ = (wr.alloc (.cells (chL x).toArray 99)).cell? ⟨wr.heap.size, 0 + k, none⟩ from rfl, hbx.cell]
          simpa using hv
        have HDN := Lib.hid (done_at S2 g m2 _ (N + 1) x 1 (by omega) hxo (wr.alloc (.cells (chL x).toArray 99)).drew (dkAt_below hat (bj one_alloc (Below.refl _ _).drew)))
        have HS2 := Lib.hid hs2
        have HD2 := Lib.hid hd2
        have HF2 := Lib.hid hf2
        have HOW := Lib.hid hown
        have HLE := Lib.hid hlen
        have HMA := Lib.hid (And.intro hA2 hc2)
        have HXF := Lib.hid hxf
        have hxb : ((x.file : Int) == f) = true := by rw [beq_iff_eq]; omega
        have hxn : x.file = f := hxf
        clear hat hA2 hc2 hs2 hd2 hf2 hown hlen hx hlo hAb hSb hbx hNS hxf hxo hxn
        rw [HXF.out] at hx0
        clear hxb
        go_wp2_with (first | (refine wpList_load_mid rfl 99 (.tmp 28) rfl b (j * 67) rfl (chL x) _ hrng hu rfl hs67 ?_))
        clear hx0
        refine wp_region_held_drew (S := fun V => V.rangeAt wr.heap.size 0 (chL x)) (by kernel_rfl) hrb (fun hHeld => ?_)
        refine wpAnyH_take (i := 0) (v := .agg (chL x).toArray) rfl (by kernel_rfl) (by kernel_rfl) (by kernel_rfl) (fun _ _ _ h => h) (yieldsIf_load_mid (by rfl) _ _ rfl wr.heap.size 0 rfl (chL x) _ (fun w hSw => hSw) hu rfl hs67) hHeld ?_
        try simp only [Act.put, List.setIfInBounds_toArray, List.set_cons_zero, List.set_cons_succ]
        refine wpAnyH_take (i := 1) (v := ?_) rfl (by kernel_rfl) (by kernel_rfl) (by kernel_rfl) (fun _ _ _ h => h) (Or.inl ⟨by rfl, ?hy1⟩) hHeld ?_
        case hy1 => intro w1 hSw; go_simp; try with_reducible rfl
        try simp only [Act.put, List.setIfInBounds_toArray, List.set_cons_zero, List.set_cons_succ]
        refine wpAnyH_take (i := 2) (v := ?_) rfl (by kernel_rfl) (by kernel_rfl) (by kernel_rfl) (fun _ _ _ h => h) (Or.inl ⟨by rfl, ?hy2⟩) hHeld ?_
        case hy2 => intro w1 hSw; go_simp; try with_reducible rfl
        try simp only [Act.put, List.setIfInBounds_toArray, List.set_cons_zero, List.set_cons_succ]
        refine wpAnyH_take (i := 3) (v := ?_) rfl (by kernel_rfl) (by kernel_rfl) (by kernel_rfl) (fun _ _ _ h => h) (Or.inl ⟨by rfl, ?hy3⟩) hHeld ?_
        case hy3 => intro w1 hSw; go_simp; try with_reducible rfl
        try simp only [Act.put, List.setIfInBounds_toArray, List.set_cons_zero, List.set_cons_succ]
        refine wpAnyH_ready (rs := [4]) (by kernel_rfl) (by simp) ?_
        refine AllReadyH.cons rfl (fun K hK => ?_) AllReadyH.nil
        go_simp
        refine (HDN.out).mono ?_
        rintro e w2 ⟨rfl, hr2⟩
        dsimp only
        have hbx2 : Blk w2 wr.heap.size 99 (chL x).toArray := by
          obtain ⟨S3, m3, _, _, hf3, _⟩ := hr2
          exact fr_blk hf3 ((Blk.new wr 99 (chL x).toArray).drew) HNS.out
        have HR2 := Lib.hid hr2
        refine hK.out _ _ ?_ (fun hHeld => ?_)
        · exact fun k v hv => by rw [hbx2.cell]; simpa using hv
        refine wpAnyH_done (by kernel_rfl) ?_ _
        clear hHeld hK K hbx2 hr2 hrb hrng hst
        have HEND := Lib.hid (show Sy w S g (some ⟨b, 0, none⟩) c0 (doneAll 1 d1 (mine f (d1.loose.take (j + 1)))) (N + 1) A n c (rest f (d1.loose.take (j + 1))) w2 by
          rw [take_snoc HX.out, mine_snoc, rest_snoc, if_pos HXF.out, if_pos HXF.out, doneAll_snoc]
          obtain ⟨S3, m3, k1, ⟨k2, k3, _⟩, k4, k5⟩ := HR2.out
          have hlow : ∀ z, (Value.slice A n c).ownBlock = some z → z < wr.heap.size := fun z hz => (HOW.out.lt z hz).2
          have hnS3 : ∀ z, (Value.slice A n c).ownBlock = some z → ¬ S3 z ∧ w.heap.size ≤ z := fun z hz => ⟨fun h3 => by
            rcases k5 z h3 with h4 | h4
            · exact (HD2.out z hz).1 h4
            · have := hlow z hz; simp at h4; omega, (HD2.out z hz).2⟩
          refine ⟨⟨S3, m3, k1, ⟨by rw [k2]; exact HMA.out.1, by rw [k3]; exact HMA.out.2⟩, fun b hb => ?_, hnS3⟩, fr_trans (fr_step HF2.out (bj one_alloc (Below.refl _ _).drew)) k4 HS2.out, ?_, HLE.out⟩
          · rcases k5 b hb with h4 | h4
            · exact HS2.out b h4
            · exact .inr (Nat.le_trans HF2.out.size (Nat.le_trans (by simp) h4))
          · refine own_block HOW.out (fun z hz => ?_)
            rw [k4.block z (by have := hlow z hz; simp; omega) (HD2.out z hz).1]
            exact Below.heap_alloc wr _ z (hlow z hz))
        go_wp2
        go_roundw
        case rel => exact ⟨j + 1, A, n, c, by omega, by go_num, rfl, HEND.out⟩
        case measure => simp [intOf]; omega
      · have hrb : (wr.alloc (.cells (chL x).toArray 99)).rangeAt wr.heap.size 0 (chL x) := fun k v hv => by
          rw [hbx.cell]
          simpa using hv
        have hb2 := blk_new (wr.alloc (.cells (chL x).toArray 99)) (wr.heap.size + 1) 99 (chL x).toArray (by simp)
        have hrd : Reads ((wr.alloc (.cells (chL x).toArray 99)).alloc (.cells (chL x).toArray 99)) (wr.heap.size + 2) 67 (some ⟨wr.heap.size + 1, 0, none⟩) 1 (chL x) := ⟨by rw [hln], fun _ => ⟨_, rfl, Nat.lt_succ_self _, fun k u hu => by
          rw [Addr.add_mid, hb2.cell]
          simpa using hu⟩⟩
        have hown2 : ((wr.alloc (.cells (chL x).toArray 99)).alloc (.cells (chL x).toArray 99)).ownsRow 0 99 67 (.slice A n c) n (chsL (rest f (d1.loose.take j))) := (hown.alloc _).alloc _
        have hone : ∀ u ∈ chL x, u.oneCell' = true := fun u hu => (Array.all_eq_true_iff_forall_mem.1 (chL_one x)) u (by simpa using hu)
        have HS2 := Lib.hid hs2
        have HD2 := Lib.hid hd2
        have HF2 := Lib.hid hf2
        have HOW := Lib.hid hown
        have HLE := Lib.hid hlen
        have HMA := Lib.hid (And.intro hA2 hc2)
        have HXF := Lib.hid hxf
        have HAT := Lib.hid hat
        have HLN := Lib.hid hln
        have hxb : ((x.file : Int) == f) = false := by rw [beq_eq_false_iff_ne]; omega
        have hxb2 : (x.file == f) = false := by rw [beq_eq_false_iff_ne]; exact hxf
        clear hat hA2 hc2 hs2 hd2 hf2 hown hlen hx hlo hAb hSb hbx hNS hxo hb2
        go_wp2_with (first | (refine wpList_load_mid rfl 99 (.tmp 28) rfl b (j * 67) rfl (chL x) _ hrng hu rfl hs67 ?_) | (refine wpList_load_mid rfl 99 (.tmp 9) rfl wr.heap.size 0 rfl (chL x) _ hrb hu rfl hs67 ?_) | (at_builtin; refine gen_alloc (P := fun W => wpList _ _ _ _ _ W) (cs := (chL x).toArray) ?_ (fold_lst (chL x) _ 67 HLN.out (by kernel_rfl)); refine wpList_append_any _ rfl (.tmp 39) (.tmp 41) 68 rfl 0 99 iv _ 67 88 Try.underlying68 hv1 hv2 hv3 hv4 (by kernel_rfl) (by omega) (.slice A n c) n _ rfl hown2 (wr.heap.size + 2) (some ⟨wr.heap.size + 1, 0, none⟩) 1 1 (chL x) rfl hrd hone (by simp only [maxLen]; omega) (by omega) (by omega) ?_; intro v1 w4 hown1 hg1 hat1; obtain ⟨A1, c1, rfl⟩ := own_form hown1; (have HO1 := Lib.hid hown1); (have HG1 := Lib.hid hg1); (have HT1 := Lib.hid hat1); clear hown1 hg1 hat1))
        have HEND := Lib.hid (show Sy w S g (some ⟨b, 0, none⟩) c0 (doneAll 1 d1 (mine f (d1.loose.take (j + 1)))) (N + 1) A1 (n + 1) c1 (rest f (d1.loose.take (j + 1))) w4 by
          rw [take_snoc HX.out, mine_snoc, rest_snoc, if_neg HXF.out, if_neg HXF.out]
          have hfw : Fr (fun z => (Value.slice A n c).ownBlock = some z) wr w4 := fr_grown (fr_of ((one_alloc (w := wr) (o := .cells (chL x).toArray 99)).trans ((one_alloc (w := wr.alloc (.cells (chL x).toArray 99)) (o := .cells (chL x).toArray 99)).mono (by simp)))) HG1.out (fun z hz => .inl hz)
          have hat4 : DkAt w4 S2 g m2 (doneAll 1 d1 (mine f (d1.loose.take j))) (N + 1) := dkAt_keep HAT.out hfw (fun z hz h4 => (HD2.out z h4).1 hz)
          refine ⟨⟨S2, m2, hat4, HMA.out, HS2.out, fun z hz => ?_⟩, fr_trans HF2.out hfw (fun z hz => .inr (HD2.out z hz).2), ?_, ?_⟩
          · rcases HT1.out with h5 | h5
            · rw [h5] at hz; exact HD2.out z hz
            · rw [h5] at hz
              injection hz with hz
              simp at hz
              have h7 := HF2.out.size
              exact ⟨fun h3 => by have h6 := HAT.out.lt z h3; omega, by omega⟩
          · rw [chsL_append]
            have e : chsL [x] = chL x := by simp [chsL]
            rw [e]
            exact HO1.out
          · rw [List.length_append, ← HLE.out]; rfl)
        go_roundw
        case rel => exact ⟨j + 1, A1, n + 1, c1, by omega, by go_num, rfl, HEND.out⟩
        case measure => simp [intOf]; omega
    · obtain rfl : j = L := by omega
      obtain ⟨⟨S2, m2, hat, ⟨hA2, hc2⟩, hs2, hd2⟩, hf2, hown, hlen⟩ := hsy
      rw [List.take_of_length_le (by rw [HL.out]; exact Nat.le_refl _)] at hat hown hlen
      obtain ⟨y2, y3, y4, y5, y6, z2, z3, z4, z5, z6⟩ := dk_more hat.blk
      have HEND := Lib.hid (sync_end hat hs2 (fun z hz => (hd2 z hz).1) hf2 hown hlen (fun z hz => (hd2 z hz).2))
      clear hat hA2 hc2 hs2 hd2 hf2 hown hlen y3 y4 y5 y6 z3 z4 z5 z6
      go_wp2
      go_ret
      exact ⟨rfl, HEND.out⟩
theorem sync_any (S : Nat → Prop) (g : Nat) (d : Dk) (N : Nat) (hN : N + 1 ≤ 1000000) (f : Int) (w : World) (h : DkS w S g d N) :
    Calls Try.prog 47 #[.pointer (some ⟨g, 0, none⟩), .int .i64 f] w fun e w' => e = .returned (.int .i64 (syncD d f).2) ∧ DkR w S g (syncD d f).1 (N + 1) w' := by
  unfold syncD
  by_cases hr : readyD d f = 0
  · rw [if_neg (by simpa using hr)]
    by_cases ho : (opD d []).2 = 0
    · rw [if_neg (by simpa using ho)]
      have hf0 := (ready_ok hr).2.2.1
      obtain ⟨i, rfl⟩ := Int.eq_ofNat_of_zero_le hf0
      exact sync_ok S g d N hN i w h hr ho
    · rw [if_pos ho]
      exact sync_op S g d N hN f w h hr ho
  · rw [if_pos hr]
    exact sync_err S g d N hN f w h hr
end Go.Proofs.Ythipaabjmlgjmaa
