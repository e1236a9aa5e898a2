/- The walk of the statement SumBlock. Conditions: the numbers fit their kinds, the text is no longer than a machine has addresses. -/
import Derived.Test.YtanllihbeaapiaaProg
import Derived.Test.YtanllihbeaapiaaSumDiff
import Derived.Deep.RegionHeld3
import Derived.Deep.QuietTactic
import Derived.BigQuiet
namespace Go.Proofs.Ytanllihbeaapiaa
open Go.RowKit
def blk8 (x0 x1 x2 x3 x4 x5 x6 x7 : Nat) : Array Value := #[.int .u8 x0, .int .u8 x1, .int .u8 x2, .int .u8 x3, .int .u8 x4, .int .u8 x5, .int .u8 x6, .int .u8 x7]
theorem bts_app2 (a b : ByteArray) : bts (a ++ b) = bts a ++ bts b := by simp [bts]
theorem bts_cut2 (s : ByteArray) (k : Nat) : bts (s.extract 0 k) = (bts s).take k := by
  unfold bts
  rw [← List.map_take]
  simp [ByteArray.data_extract]
theorem bts_tail2 (s : ByteArray) (k : Nat) : bts (s.extract k s.size) = (bts s).drop k := by
  unfold bts
  rw [← List.map_drop, Go.Lib.extract_to_end]
theorem held4_below {w0 W w' : World} {a b : Int} {g : Nat} (hb : Below W.heap.size W w') (h0 : W.cell? ⟨g, 0, none⟩ = some (.int .u32 a)) (h1 : W.cell? ⟨g, 1, none⟩ = some (.int .u32 b)) (hl1 : g < W.heap.size) (hw : Below w0.heap.size w0 W) :
    w'.cell? ⟨g, 0, none⟩ = some (.int .u32 a) ∧ w'.cell? ⟨g, 1, none⟩ = some (.int .u32 b) ∧ g < w'.heap.size ∧ Below w0.heap.size w0 w' :=
  ⟨(hb.cell (p := ⟨g, 0, none⟩) hl1).trans h0, (hb.cell (p := ⟨g, 1, none⟩) hl1).trans h1, Nat.lt_of_lt_of_le hl1 hb.size, hw.trans (hb.mono hw.size)⟩
theorem ne_two' {x y x' y' : Int} (h : ¬ (x = x' ∧ y = y')) {P : Prop} (h1 : (x == x') = false → P) (h2 : (x == x') = true → (y == y') = false → P) : P := by
  by_cases e : x = x'
  · by_cases e2 : y = y'
    · exact absurd ⟨e, e2⟩ h
    · exact h2 (by simpa using e) (by simpa using e2)
  · exact h1 (by simpa using e)
theorem take_get {L : List Nat} {m i : Nat} (h : i < m) : ((L.take m).map Int.ofNat).getD i 0 = (L.map Int.ofNat).getD i 0 := by
  rw [List.getD_eq_getElem?_getD, List.getD_eq_getElem?_getD, List.getElem?_map, List.getElem?_map, List.getElem?_take, if_pos h]
set_option maxRecDepth 100000 in
set_option maxHeartbeats 40000000 in
theorem sumBlock_mid (a b : Int) (s : ByteArray) (k : Nat) (j m : Nat) (x0 x1 x2 x3 x4 x5 x6 x7 : Nat) (w : World) (hp : Fit (a, b)) (hx : ∀ x ∈ [x0, x1, x2, x3, x4, x5, x6, x7], x < 256) (hs : s.size ≤ 65536) (hj : j < s.size) (hk : k = j / 8) (hm : m = if 8 * k + 8 ≤ s.size then 8 else s.size - 8 * k) :
    Calls Try.prog 7 #[.agg #[.int .u32 a, .int .u32 b], .string s, .int .i64 j, .agg (blk8 x0 x1 x2 x3 x4 x5 x6 x7)] w fun e w' => e = .returned (.bool true) ∧ Below w.heap.size w w' := by
  have hsI : (s.size : Int) ≤ 65536 := by omega
  have hjI : (j : Int) < s.size := by omega
  unfold blk8
  by_cases hfull : (8 * k + 8 : Nat) ≤ s.size
  · obtain ⟨hT, hTz⟩ := cut_sums (s := s) (t := s.extract 0 (j / 8 * 8) ++ bstr [x0, x1, x2, x3, x4, x5, x6, x7] ++ s.extract (j / 8 * 8 + 8) s.size) (B := [x0, x1, x2, x3, x4, x5, x6, x7]) (k0 := k) (n := 8) hp hfull (by omega) rfl (.inl rfl) (by omega) (by
      rw [bts_app2, bts_app2, bts_cut2, bts_tail2, bts_bstr _ hx, show j / 8 * 8 = 8 * k from by omega])
    have HT := Lib.hid hT
    have HTZ := Lib.hid hTz
    clear hT hTz
    go_enter Try.func7, Try.ntmps7
    go_wp2_with fail
    refine (sworks_any _).mono ?_
    rintro e w1 ⟨rfl, hb1⟩
    go_wp2_with fail
    have hw1 : IntKind.i64.wrap ((j : Int) / 8 * 8 + 8 - (j : Int) / 8 * 8) = 8 := by simp [IntKind.wrap, IntKind.bits, IntKind.signed]; omega
    have hf1 : (j : Int) / 8 * 8 ≤ s.size := by omega
    have hf2 : (j : Int) / 8 * 8 + 8 ≤ s.size := by omega
    have hf0 : (0 : Int) ≤ (j : Int) / 8 * 8 := by omega
    have hal : Try.prog.arrayLen 33 = 8 := by kernel_rfl
    have hkb := (Blk.new (w.alloc (.cells #[.int .u32 a, .int .u32 b] 24)) 33 (blk8 x0 x1 x2 x3 x4 x5 x6 x7)).below hb1 (by simp)
    have hgs : (w.alloc (.cells #[.int .u32 a, .int .u32 b] 24)).heap.size = w.heap.size + 1 := by simp
    rw [hgs] at hkb
    have hcv : ∀ n, (convert 34 9 (.slice (some ⟨w.heap.size + 1, 0, none⟩) 8 8)).run Try.prog (w1.drewN n) = .ok (.string (bstr [x0, x1, x2, x3, x4, x5, x6, x7])) (w1.drewN n) := fun n => by
      have h := run_convert_bytes_arg (P := Try.prog) (w1.drewN n) 34 5 Try.underlying34 Try.underlying5 (w.heap.size + 1) 0 8 8 (([x0, x1, x2, x3, x4, x5, x6, x7]).map Int.ofNat) rfl (fun i hi => by
        have hc := (hkb.drewN n).cell (0 + i)
        rw [hc]
        obtain rfl | rfl | rfl | rfl | rfl | rfl | rfl | rfl : i = 0 ∨ i = 1 ∨ i = 2 ∨ i = 3 ∨ i = 4 ∨ i = 5 ∨ i = 6 ∨ i = 7 := by omega
        all_goals rfl) 9 Try.underlying9
      rw [bstr_nums] at h
      exact h
    have hcv1 := hcv 1
    have hcv0 := hcv 0
    have hsA : (s.extract 0 (j / 8 * 8)).size = j / 8 * 8 := by simp; omega
    have hsC : (s.extract (j / 8 * 8 + 8) s.size).size = s.size - (j / 8 * 8 + 8) := by simp
    have hsB : (bstr [x0, x1, x2, x3, x4, x5, x6, x7]).size = 8 := by rw [bstr_size]; rfl
    have hct1 := fun w => run_string_add_sum (P := Try.prog) w (s.extract 0 (j / 8 * 8)) (bstr [x0, x1, x2, x3, x4, x5, x6, x7]) (by omega)
    have hct2 := fun w => run_string_add_sum (P := Try.prog) w (s.extract 0 (j / 8 * 8) ++ bstr [x0, x1, x2, x3, x4, x5, x6, x7]) (s.extract (j / 8 * 8 + 8) s.size) (by rw [ByteArray.size_append]; omega)
    have hm1 : min (j / 8 * 8) s.size + 8 ≤ 9223372036854775807 := by omega
    have hm2 : min (j / 8 * 8) s.size + 8 + (s.size - (j / 8 * 8 + 8)) ≤ 9223372036854775807 := by omega
    clear hsA hsC
    go_quiet (fail)
    generalize s.extract 0 (j / 8 * 8) ++ bstr [x0, x1, x2, x3, x4, x5, x6, x7] ++ s.extract (j / 8 * 8 + 8) s.size = T at *
    have hT := HT.out
    have hTz := HTZ.out
    have aT := fun w => add_any a b T w hp (by omega)
    have aS := fun w => add_any a b s w hp (by omega)
    generalize addL (bts T) (a, b) = P at *
    generalize addL (bts s) (a, b) = Q at *
    obtain ⟨P1, P2⟩ := P
    obtain ⟨Q1, Q2⟩ := Q
    simp only [Prod.mk.injEq] at hT
    have AT := Lib.hid aT
    have AS := Lib.hid aS
    have hk1 := ((Blk.new w 24 #[.int .u32 a, .int .u32 b]).alloc (.cells (blk8 x0 x1 x2 x3 x4 x5 x6 x7) 33)).below hb1 (by simp; omega)
    have hbw1 : Below w.heap.size w w1 := (((Below.refl _ _).alloc (Nat.le_refl _) _).alloc (by simp) _).trans (hb1.mono (by simp; omega))
    have hbx : ∀ n, Below w.heap.size w (w1.drewN n) := fun n => ⟨hbw1.os, hbw1.tape, hbw1.output, hbw1.size, hbw1.block⟩
    have hby : ∀ n, Below w.heap.size w (w1.drewN n).drew := fun n => ⟨hbw1.os, hbw1.tape, hbw1.output, hbw1.size, hbw1.block⟩
    have c0 : w1.cell? ⟨w.heap.size, 0, none⟩ = some (.int .u32 a) := hk1.cell 0
    have c1 : w1.cell? ⟨w.heap.size, 1, none⟩ = some (.int .u32 b) := hk1.cell 1
    have hlt : w.heap.size < w1.heap.size := hk1.lt
    have HTT := Lib.hid hT
    clear aT aS hT hTz HT HTZ hk1 hbw1 hb1 hkb hp hx hs hj hk hm hfull hjI hw1 hf1 hf2 hf0 hal hgs hcv hcv1 hcv0 hsB hct1 hct2 hm1 hm2
    have hreg : (P1 == Q1) = true ∧ (P2 == Q2) = true ∧ (s.toList == T.toList) = true ∨ ((P1 == Q1) = false ∧ (s.toList == T.toList) = false) ∨ ((P1 == Q1) = true ∧ (P2 == Q2) = false ∧ (s.toList == T.toList) = false) := by
      have hl : (s.toList == T.toList) = decide (T = s) := by
        rw [Bool.eq_iff_iff, beq_iff_eq, decide_eq_true_iff, ByteArray.toList_eq, ByteArray.toList_eq]
        constructor
        · intro h; apply ByteArray.ext; exact (Array.toList_inj.1 h).symm
        · intro h; rw [h]
      by_cases e : T = s
      · obtain ⟨e1, e2⟩ := HTT.out.2 e
        exact .inl ⟨by simpa using e1, by simpa using e2, by rw [hl]; simpa using e⟩
      · have hn : ¬ (P1 = Q1 ∧ P2 = Q2) := fun h => e (HTT.out.1 h)
        have hf : (s.toList == T.toList) = false := by rw [hl]; simpa using e
        exact ne_two' hn (fun h1 => .inr (.inl ⟨h1, hf⟩)) (fun h1 h2 => .inr (.inr ⟨h1, h2, hf⟩))
    rcases hreg with ⟨h1, h2, h3⟩ | ⟨h1, h3⟩ | ⟨h1, h2, h3⟩
    all_goals (
      go_wp2_with fail
      go_region_held3 (fun w' => w'.cell? ⟨w.heap.size, 0, none⟩ = some (.int .u32 a) ∧ w'.cell? ⟨w.heap.size, 1, none⟩ = some (.int .u32 b) ∧ w.heap.size < w'.heap.size ∧ Below w.heap.size w w')
        (first | go_keep | (go_split_ands; exact held4_below (by assumption) (by assumption) (by assumption) (by assumption) (by assumption)) | exact held4_below (by assumption) (by assumption) (by assumption) (by assumption) (by assumption))
        (first | (go_at_call 14; (with_reducible refine (AT.out _).mono ?_); rintro e w2 ⟨rfl, hb2⟩) | (go_at_call 14; (with_reducible refine (AS.out _).mono ?_); rintro e w3 ⟨rfl, hb3⟩))
      go_wp2
      go_ret
      first
        | (have hz : w3.cell? ⟨w.heap.size, 0, none⟩ = some (.int .u32 a) ∧ w3.cell? ⟨w.heap.size, 1, none⟩ = some (.int .u32 b) ∧ w.heap.size < w3.heap.size ∧ Below w.heap.size w w3 := by assumption
           exact ⟨rfl, hz.2.2.2⟩)
        | (have hz : w2.cell? ⟨w.heap.size, 0, none⟩ = some (.int .u32 a) ∧ w2.cell? ⟨w.heap.size, 1, none⟩ = some (.int .u32 b) ∧ w.heap.size < w2.heap.size ∧ Below w.heap.size w w2 := by assumption
           exact ⟨rfl, hz.2.2.2⟩))
  · have hmm : m = s.size - j / 8 * 8 := by rw [hm, if_neg hfull]; omega
    have hm8 : m < 8 := by omega
    have hm0 : 0 < m := by omega
    obtain ⟨hT, hTz⟩ := cut_sums (s := s) (t := s.extract 0 (j / 8 * 8) ++ bstr ([x0, x1, x2, x3, x4, x5, x6, x7].take m)) (B := [x0, x1, x2, x3, x4, x5, x6, x7].take m) (k0 := k) (n := m) hp (by omega) (by omega) (by simp; omega) (.inr (by omega)) (by omega) (by
      rw [bts_app2, bts_cut2, bts_bstr _ (fun x h => hx x (List.mem_of_mem_take h)), show j / 8 * 8 = 8 * k from by omega, List.drop_eq_nil_of_le (by rw [bts_length]; omega), List.append_nil])
    have HT := Lib.hid hT
    have HTZ := Lib.hid hTz
    clear hT hTz
    go_enter Try.func7, Try.ntmps7
    go_wp2_with fail
    refine (sworks_any _).mono ?_
    rintro e w1 ⟨rfl, hb1⟩
    go_wp2_with fail
    have hw1 : IntKind.i64.wrap ((s.size : Int) - (j : Int) / 8 * 8) = m := by simp [IntKind.wrap, IntKind.bits, IntKind.signed]; omega
    have hf1 : (j : Int) / 8 * 8 ≤ s.size := by omega
    have hf0 : (0 : Int) ≤ (j : Int) / 8 * 8 := by omega
    have hf2 : ¬ ((j : Int) / 8 * 8 + 8 ≤ s.size) := by omega
    have hf3 : (s.size : Int) < (j : Int) / 8 * 8 + 8 := by omega
    have hal : Try.prog.arrayLen 33 = 8 := by kernel_rfl
    have hkb := (Blk.new (w.alloc (.cells #[.int .u32 a, .int .u32 b] 24)) 33 (blk8 x0 x1 x2 x3 x4 x5 x6 x7)).below hb1 (by simp)
    have hgs : (w.alloc (.cells #[.int .u32 a, .int .u32 b] 24)).heap.size = w.heap.size + 1 := by simp
    rw [hgs] at hkb
    have hcv : ∀ n, (convert 34 9 (.slice (some ⟨w.heap.size + 1, 0, none⟩) m 8)).run Try.prog (w1.drewN n) = .ok (.string (bstr ([x0, x1, x2, x3, x4, x5, x6, x7].take m))) (w1.drewN n) := fun n => by
      have h := run_convert_bytes_arg (P := Try.prog) (w1.drewN n) 34 5 Try.underlying34 Try.underlying5 (w.heap.size + 1) 0 m 8 (([x0, x1, x2, x3, x4, x5, x6, x7].take m).map Int.ofNat) (by simp; omega) (fun i hi => by
        have hc := (hkb.drewN n).cell (0 + i)
        rw [hc, take_get hi]
        obtain rfl | rfl | rfl | rfl | rfl | rfl | rfl | rfl : i = 0 ∨ i = 1 ∨ i = 2 ∨ i = 3 ∨ i = 4 ∨ i = 5 ∨ i = 6 ∨ i = 7 := by omega
        all_goals rfl) 9 Try.underlying9
      rw [bstr_nums] at h
      exact h
    have hcv1 := hcv 1
    have hcv0 := hcv 0
    have hsA : (s.extract 0 (j / 8 * 8)).size = j / 8 * 8 := by simp; omega
    have hsC : (s.extract s.size s.size).size = 0 := by simp
    have hsB : (bstr ([x0, x1, x2, x3, x4, x5, x6, x7].take m)).size = m := by rw [bstr_size]; simp; omega
    have hct1 := fun w => run_string_add_sum (P := Try.prog) w (s.extract 0 (j / 8 * 8)) (bstr ([x0, x1, x2, x3, x4, x5, x6, x7].take m)) (by omega)
    have hct2 := fun w => run_string_add_sum (P := Try.prog) w (s.extract 0 (j / 8 * 8) ++ bstr ([x0, x1, x2, x3, x4, x5, x6, x7].take m)) (s.extract s.size s.size) (by rw [ByteArray.size_append]; omega)
    have hm1 : min (j / 8 * 8) s.size + m ≤ 9223372036854775807 := by omega
    have hm2 : min (j / 8 * 8) s.size + m + (s.size - s.size) ≤ 9223372036854775807 := by omega
    have hm8' : m ≤ 8 := by omega
    have hmI : (m : Int) ≤ 8 := by omega
    clear hsA hsC
    have htn : ((j : Int) / 8 * 8).toNat = j / 8 * 8 := by omega
    have hn1 : (9223372036854775807 < min (j / 8 * 8) s.size + m) = False := by simp only [eq_iff_iff, iff_false]; omega
    have hn2 : (9223372036854775807 < min (j / 8 * 8) s.size + m + (s.size - s.size)) = False := by simp only [eq_iff_iff, iff_false]; omega
    have hn3 : (s.size - s.size) = 0 := by omega
    clear hm hmm
    go_quiet (fail)
    generalize s.extract 0 (j / 8 * 8) ++ bstr ([x0, x1, x2, x3, x4, x5, x6, x7].take m) = T at *
    have hT := HT.out
    have hTz := HTZ.out
    have aT := fun w => add_any a b T w hp (by omega)
    have aS := fun w => add_any a b s w hp (by omega)
    generalize addL (bts T) (a, b) = P at *
    generalize addL (bts s) (a, b) = Q at *
    obtain ⟨P1, P2⟩ := P
    obtain ⟨Q1, Q2⟩ := Q
    simp only [Prod.mk.injEq] at hT
    have AT := Lib.hid aT
    have AS := Lib.hid aS
    have hk1 := ((Blk.new w 24 #[.int .u32 a, .int .u32 b]).alloc (.cells (blk8 x0 x1 x2 x3 x4 x5 x6 x7) 33)).below hb1 (by simp; omega)
    have hbw1 : Below w.heap.size w w1 := (((Below.refl _ _).alloc (Nat.le_refl _) _).alloc (by simp) _).trans (hb1.mono (by simp; omega))
    have hbx : ∀ n, Below w.heap.size w (w1.drewN n) := fun n => ⟨hbw1.os, hbw1.tape, hbw1.output, hbw1.size, hbw1.block⟩
    have hby : ∀ n, Below w.heap.size w (w1.drewN n).drew := fun n => ⟨hbw1.os, hbw1.tape, hbw1.output, hbw1.size, hbw1.block⟩
    have c0 : w1.cell? ⟨w.heap.size, 0, none⟩ = some (.int .u32 a) := hk1.cell 0
    have c1 : w1.cell? ⟨w.heap.size, 1, none⟩ = some (.int .u32 b) := hk1.cell 1
    have hlt : w.heap.size < w1.heap.size := hk1.lt
    have HTT := Lib.hid hT
    clear aT aS hT hTz HT HTZ hk1 hbw1 hb1 hkb hp hx hs hj hk hfull hjI hw1 hf1 hf2 hf3 hf0 hal hgs hcv hcv1 hcv0 hsB hct1 hct2 hm1 hm2 hn1 hn2 hn3 htn hm8 hm8' hm0 hmI
    have hreg : (P1 == Q1) = true ∧ (P2 == Q2) = true ∧ (s.toList == T.toList) = true ∨ ((P1 == Q1) = false ∧ (s.toList == T.toList) = false) ∨ ((P1 == Q1) = true ∧ (P2 == Q2) = false ∧ (s.toList == T.toList) = false) := by
      have hl : (s.toList == T.toList) = decide (T = s) := by
        rw [Bool.eq_iff_iff, beq_iff_eq, decide_eq_true_iff, ByteArray.toList_eq, ByteArray.toList_eq]
        constructor
        · intro h; apply ByteArray.ext; exact (Array.toList_inj.1 h).symm
        · intro h; rw [h]
      by_cases e : T = s
      · obtain ⟨e1, e2⟩ := HTT.out.2 e
        exact .inl ⟨by simpa using e1, by simpa using e2, by rw [hl]; simpa using e⟩
      · have hn : ¬ (P1 = Q1 ∧ P2 = Q2) := fun h => e (HTT.out.1 h)
        have hf : (s.toList == T.toList) = false := by rw [hl]; simpa using e
        exact ne_two' hn (fun h1 => .inr (.inl ⟨h1, hf⟩)) (fun h1 h2 => .inr (.inr ⟨h1, h2, hf⟩))
    rcases hreg with ⟨h1, h2, h3⟩ | ⟨h1, h3⟩ | ⟨h1, h2, h3⟩
    all_goals (
      go_wp2_with fail
      go_region_held3 (fun w' => w'.cell? ⟨w.heap.size, 0, none⟩ = some (.int .u32 a) ∧ w'.cell? ⟨w.heap.size, 1, none⟩ = some (.int .u32 b) ∧ w.heap.size < w'.heap.size ∧ Below w.heap.size w w')
        (first | go_keep | (go_split_ands; exact held4_below (by assumption) (by assumption) (by assumption) (by assumption) (by assumption)) | exact held4_below (by assumption) (by assumption) (by assumption) (by assumption) (by assumption))
        (first | (go_at_call 14; (with_reducible refine (AT.out _).mono ?_); rintro e w2 ⟨rfl, hb2⟩) | (go_at_call 14; (with_reducible refine (AS.out _).mono ?_); rintro e w3 ⟨rfl, hb3⟩))
      go_wp2
      go_ret
      first
        | (have hz : w3.cell? ⟨w.heap.size, 0, none⟩ = some (.int .u32 a) ∧ w3.cell? ⟨w.heap.size, 1, none⟩ = some (.int .u32 b) ∧ w.heap.size < w3.heap.size ∧ Below w.heap.size w w3 := by assumption
           exact ⟨rfl, hz.2.2.2⟩)
        | (have hz : w2.cell? ⟨w.heap.size, 0, none⟩ = some (.int .u32 a) ∧ w2.cell? ⟨w.heap.size, 1, none⟩ = some (.int .u32 b) ∧ w.heap.size < w2.heap.size ∧ Below w.heap.size w w2 := by assumption
           exact ⟨rfl, hz.2.2.2⟩))
theorem nat_of_u8 {x : Int} (h : (Lit.int .u8 x).wf = true) : ∃ n : Nat, x = (n : Int) ∧ n < 256 := by
  have h' : 0 ≤ x ∧ x < 256 := by (have h2 : IntKind.u8.min ≤ x ∧ x ≤ IntKind.u8.max := by simpa [Lit.wf] using h); have e1 : IntKind.u8.min = 0 := rfl; have e2 : IntKind.u8.max = 255 := rfl; omega
  exact ⟨x.toNat, by omega, by omega⟩
set_option maxRecDepth 100000 in
set_option maxHeartbeats 4000000 in
theorem sumBlock_early (a b : Int) (s : ByteArray) (j : Int) (x0 x1 x2 x3 x4 x5 x6 x7 : Nat) (w : World) (hs : s.size ≤ 140737488351232) (h : 65536 < s.size ∨ j < 0 ∨ (s.size : Int) ≤ j) :
    Calls Try.prog 7 #[.agg #[.int .u32 a, .int .u32 b], .string s, .int .i64 j, .agg (blk8 x0 x1 x2 x3 x4 x5 x6 x7)] w fun e w' => e = .returned (.bool true) ∧ Below w.heap.size w w' := by
  unfold blk8
  have fin : ∀ {w1 : World}, Below ((w.alloc (Obj.cells #[Value.int IntKind.u32 a, Value.int IntKind.u32 b] 24)).alloc (.cells (blk8 x0 x1 x2 x3 x4 x5 x6 x7) 33)).heap.size ((w.alloc (Obj.cells #[Value.int IntKind.u32 a, Value.int IntKind.u32 b] 24)).alloc (.cells (blk8 x0 x1 x2 x3 x4 x5 x6 x7) 33)) w1 → Below w.heap.size w w1 := fun hb1 =>
    (((Below.refl _ _).alloc (Nat.le_refl _) _).alloc (by simp) _).trans (hb1.mono (by simp; omega))
  unfold blk8 at fin
  rcases h with h | h | h
  all_goals (
    have h' := h
    go_enter Try.func7, Try.ntmps7
    go_wp2_with fail
    refine (sworks_any _).mono ?_
    rintro e w1 ⟨rfl, hb1⟩
    go_wp2
    all_goals (go_ret; exact ⟨rfl, fin hb1⟩))
theorem sumBlock_walk (a0 b0 : Int) (a1 : ByteArray) (a2 : Int) (a3 : List Int) (w0 : (Lit.int .u32 a0).wf = true) (u0 : (Lit.int .u32 b0).wf = true) (w1 : a1.size ≤ 140737488351232) (w2 : (Lit.int .i64 a2).wf = true)
    (l3 : a3.length = 8) (w3 : ∀ x ∈ a3, (Lit.int .u8 x).wf = true) (w : World) :
    Calls Try.prog 7 #[.agg #[.int .u32 a0, .int .u32 b0], .string a1, .int .i64 a2, .agg (a3.map (Value.int .u8)).toArray] w fun e w' => e = .returned (.bool true) ∧ Below w.heap.size w w' := by
  obtain ⟨y0, y1, y2, y3, y4, y5, y6, y7, rfl⟩ : ∃ y0 y1 y2 y3 y4 y5 y6 y7, a3 = [y0, y1, y2, y3, y4, y5, y6, y7] := by
    match a3, l3 with
    | [y0, y1, y2, y3, y4, y5, y6, y7], _ => exact ⟨_, _, _, _, _, _, _, _, rfl⟩
  obtain ⟨x0, rfl, h0⟩ := nat_of_u8 (w3 y0 (by simp))
  obtain ⟨x1, rfl, h1⟩ := nat_of_u8 (w3 y1 (by simp))
  obtain ⟨x2, rfl, h2⟩ := nat_of_u8 (w3 y2 (by simp))
  obtain ⟨x3, rfl, h3⟩ := nat_of_u8 (w3 y3 (by simp))
  obtain ⟨x4, rfl, h4⟩ := nat_of_u8 (w3 y4 (by simp))
  obtain ⟨x5, rfl, h5⟩ := nat_of_u8 (w3 y5 (by simp))
  obtain ⟨x6, rfl, h6⟩ := nat_of_u8 (w3 y6 (by simp))
  obtain ⟨x7, rfl, h7⟩ := nat_of_u8 (w3 y7 (by simp))
  by_cases h : 65536 < a1.size ∨ a2 < 0 ∨ (a1.size : Int) ≤ a2
  · exact sumBlock_early a0 b0 a1 a2 x0 x1 x2 x3 x4 x5 x6 x7 w w1 h
  · obtain ⟨j, rfl⟩ : ∃ j : Nat, a2 = (j : Int) := ⟨a2.toNat, by omega⟩
    exact sumBlock_mid a0 b0 a1 (j / 8) j _ x0 x1 x2 x3 x4 x5 x6 x7 w (fit_wf w0 u0) (by
      intro x hx
      simp only [List.mem_cons, List.not_mem_nil, or_false] at hx
      omega) (by omega) (by omega) rfl rfl
end Go.Proofs.Ytanllihbeaapiaa
