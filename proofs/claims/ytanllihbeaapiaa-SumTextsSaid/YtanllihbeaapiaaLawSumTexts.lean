/- The walk of SumTexts. Conditions: the numbers fit their kind, the text is no longer than a machine has addresses. -/
import Derived.Test.YtanllihbeaapiaaProg
import Derived.Test.YtanllihbeaapiaaSumRef2
namespace Go.Proofs.Ytanllihbeaapiaa
open Go.RowKit
theorem heldt_below {w0 W w' : World} {a b c d e f : Int} {g h k : Nat} (hb : Below W.heap.size W w') (h0 : W.cell? ⟨g, 0, none⟩ = some (.int .u32 a)) (h1 : W.cell? ⟨g, 1, none⟩ = some (.int .u32 b)) (h2 : W.cell? ⟨h, 0, none⟩ = some (.int .u32 c)) (h3 : W.cell? ⟨h, 1, none⟩ = some (.int .u32 d)) (h4 : W.cell? ⟨k, 0, none⟩ = some (.int .u32 e)) (h5 : W.cell? ⟨k, 1, none⟩ = some (.int .u32 f)) (hl1 : g < W.heap.size) (hl2 : h < W.heap.size) (hl3 : k < W.heap.size) (hw : Below w0.heap.size w0 W) :
    w'.cell? ⟨g, 0, none⟩ = some (.int .u32 a) ∧ w'.cell? ⟨g, 1, none⟩ = some (.int .u32 b) ∧ w'.cell? ⟨h, 0, none⟩ = some (.int .u32 c) ∧ w'.cell? ⟨h, 1, none⟩ = some (.int .u32 d) ∧ w'.cell? ⟨k, 0, none⟩ = some (.int .u32 e) ∧ w'.cell? ⟨k, 1, none⟩ = some (.int .u32 f) ∧ g < w'.heap.size ∧ h < w'.heap.size ∧ k < w'.heap.size ∧ Below w0.heap.size w0 w' :=
  ⟨(hb.cell (p := ⟨g, 0, none⟩) hl1).trans h0, (hb.cell (p := ⟨g, 1, none⟩) hl1).trans h1, (hb.cell (p := ⟨h, 0, none⟩) hl2).trans h2, (hb.cell (p := ⟨h, 1, none⟩) hl2).trans h3, (hb.cell (p := ⟨k, 0, none⟩) hl3).trans h4, (hb.cell (p := ⟨k, 1, none⟩) hl3).trans h5, Nat.lt_of_lt_of_le hl1 hb.size, Nat.lt_of_lt_of_le hl2 hb.size, Nat.lt_of_lt_of_le hl3 hb.size, hw.trans (hb.mono hw.size)⟩
theorem stake_text (a b : Int) (s : ByteArray) (w : World) (hp : Fit (a, b)) (hs : s.size ≤ 140737488351232) :
    Calls Try.prog 11 #[.string (bstr (textL a b) ++ s)] w fun e w' => e = .returned (.tuple #[.agg #[.int .u32 a, .int .u32 b], .int .i64 0]) ∧ Below w.heap.size w w' := by
  have h := stake_any (bstr (textL a b) ++ s) w (by rw [ByteArray.size_append, bstr_size]; simp [textL, fourL]; omega)
  rw [take_text a b s hp] at h
  obtain ⟨h1, h2, h3, h4⟩ := hp
  simp only at h1 h2 h3 h4
  have e1 : (((a.toNat * 4294967296 + b.toNat) / 4294967296 : Nat) : Int) = a := by omega
  have e2 : (((a.toNat * 4294967296 + b.toNat) % 4294967296 : Nat) : Int) = b := by omega
  rw [e1, e2] at h
  exact h
set_option maxRecDepth 100000 in
set_option maxHeartbeats 4000000 in
theorem sumTexts_nat (a b : Int) (s : ByteArray) (w : World) (hp : Fit (a, b)) (hs : s.size ≤ 140737488351232) :
    Calls Try.prog 5 #[.agg #[.int .u32 a, .int .u32 b], .string s] w fun e w' => e = .returned (.bool true) ∧ Below w.heap.size w w' := by
  have hfx := fixedS_lt s 8
  have hshort : s.size < 8 → fixedS (bts s) 8 = (0, 10) := fun h => by unfold fixedS; rw [if_pos (by rw [bts_length]; exact h)]
  have hlong := take_words s
  have hstk := fun w => stake_any s w (by omega)
  generalize fixedS (bts s) 8 = P at *
  obtain ⟨p, q⟩ := P
  have hcat : (bstr (textL a b)).size + s.size ≤ 9223372036854775807 := by rw [bstr_size]; simp [textL, fourL]; omega
  have HST := Lib.hid (fun w => stake_text a b s w hp hs)
  have HTX := Lib.hid (fun w => text_any a b w hp)
  have HRX := Lib.hid (fun w => refText_any a b w hp)
  generalize hA : ((p / 4294967296 : Nat) : Int) = A at hstk
  generalize hB : ((p % 4294967296 : Nat) : Int) = B at hstk
  have HA := Lib.hid hA
  have HB := Lib.hid hB
  have HTK := Lib.hid hstk
  have HSH := Lib.hid hshort
  have HLG := Lib.hid hlong
  clear hstk hshort hlong hA hB
  have HFX := Lib.hid hfx
  clear hfx
  have HC := Lib.hid hcat
  clear hcat
  go_enter Try.func5, Try.ntmps5
  go_wp2_with fail
  refine (HTK.out _).mono ?_
  rintro e w1 ⟨rfl, hb1⟩
  have hk1 := (Blk.new w 24 #[.int .u32 a, .int .u32 b]).below hb1 (by simp)
  have hbw1 : Below w.heap.size w w1 := ((Below.refl _ _).alloc (Nat.le_refl _) _).trans (hb1.mono (by simp))
  have hk2 := hk1.alloc (.cells #[.int .u32 A, .int .u32 B] 24)
  have hkq := Blk.new w1 24 #[.int .u32 A, .int .u32 B]
  have hbw2 : Below w.heap.size w (w1.alloc (.cells #[.int .u32 A, .int .u32 B] 24)) := hbw1.alloc hbw1.size _
  have c0 : (w1.alloc (.cells #[.int .u32 A, .int .u32 B] 24)).cell? ⟨w.heap.size, 0, none⟩ = some (.int .u32 a) := hk2.cell 0
  have c1 : (w1.alloc (.cells #[.int .u32 A, .int .u32 B] 24)).cell? ⟨w.heap.size, 1, none⟩ = some (.int .u32 b) := hk2.cell 1
  have hlt1 : w.heap.size < w1.heap.size := hk1.lt
  clear hb1
  go_wp2_with fail
  (with_reducible refine (HTX.out _).mono ?_)
  rintro e w2 ⟨rfl, hb2⟩
  have hcat := HC.out
  have hk3 := hk2.below hb2 hk2.lt
  have hkr := hkq.below hb2 hkq.lt
  have hbw3 := hbw2.trans (hb2.mono hbw2.size)
  clear hb2 hk1 hk2 hkq hbw1 hbw2 c0 c1 hlt1
  go_wp2_with fail
  (with_reducible refine (HST.out _).mono ?_)
  rintro e w3 ⟨rfl, hb3⟩
  clear hcat
  have hk4 := hk3.below hb3 hk3.lt
  have hks := hkr.below hb3 hkr.lt
  have hbw4 := hbw3.trans (hb3.mono hbw3.size)
  generalize w1.heap.size = g at *
  have hk5 := hk4.alloc (.cells #[.int .u32 a, .int .u32 b] 24)
  have hkt := hks.alloc (.cells #[.int .u32 a, .int .u32 b] 24)
  have hkv := Blk.new w3 24 #[.int .u32 a, .int .u32 b]
  have hbw5 := hbw4.alloc hbw4.size (.cells #[.int .u32 a, .int .u32 b] 24)
  clear hb3 hk3 hkr hbw3 hk4 hks hbw4
  go_wp2_with fail
  have x0 : (w3.alloc (.cells #[.int .u32 a, .int .u32 b] 24)).cell? ⟨w.heap.size, 0, none⟩ = some (.int .u32 a) := hk5.cell 0
  have x1 : (w3.alloc (.cells #[.int .u32 a, .int .u32 b] 24)).cell? ⟨w.heap.size, 1, none⟩ = some (.int .u32 b) := hk5.cell 1
  have x2 : (w3.alloc (.cells #[.int .u32 a, .int .u32 b] 24)).cell? ⟨g, 0, none⟩ = some (.int .u32 A) := hkt.cell 0
  have x3 : (w3.alloc (.cells #[.int .u32 a, .int .u32 b] 24)).cell? ⟨g, 1, none⟩ = some (.int .u32 B) := hkt.cell 1
  have y1 : w.heap.size < w3.heap.size + 1 := by have := hk5.lt; simpa using this
  have y2 : g < w3.heap.size + 1 := by have := hkt.lt; simpa using this
  have z1 : w.heap.size ≤ w3.heap.size := by omega
  have z2 : g ≤ w3.heap.size := by omega
  have hl3 : Below w.heap.size w (w3.alloc (.cells #[.int .u32 a, .int .u32 b] 24)).drew := hbw5.drew
  clear hk5 hkt hkv hbw5
  go_region_held3 (fun w' => w'.cell? ⟨w.heap.size, 0, none⟩ = some (.int .u32 a) ∧ w'.cell? ⟨w.heap.size, 1, none⟩ = some (.int .u32 b) ∧ w'.cell? ⟨w3.heap.size, 0, none⟩ = some (.int .u32 a) ∧ w'.cell? ⟨w3.heap.size, 1, none⟩ = some (.int .u32 b) ∧ w'.cell? ⟨g, 0, none⟩ = some (.int .u32 A) ∧ w'.cell? ⟨g, 1, none⟩ = some (.int .u32 B) ∧ w.heap.size < w'.heap.size ∧ w3.heap.size < w'.heap.size ∧ g < w'.heap.size ∧ Below w.heap.size w w')
    (first | go_keep | (go_split_ands; exact heldt_below (by assumption) (by assumption) (by assumption) (by assumption) (by assumption) (by assumption) (by assumption) (by assumption) (by assumption) (by assumption) (by assumption)) | exact heldt_below (by assumption) (by assumption) (by assumption) (by assumption) (by assumption) (by assumption) (by assumption) (by assumption) (by assumption) (by assumption) (by assumption))
    (first | (go_at_call 16; (with_reducible refine (HTX.out _).mono ?_); rintro e w4 ⟨rfl, hb4⟩) | (go_at_call 18; (with_reducible refine (HRX.out _).mono ?_); rintro e w5 ⟨rfl, hb5⟩))
  have hz : w5.cell? ⟨w.heap.size, 0, none⟩ = some (.int .u32 a) ∧ w5.cell? ⟨w.heap.size, 1, none⟩ = some (.int .u32 b) ∧ w5.cell? ⟨w3.heap.size, 0, none⟩ = some (.int .u32 a) ∧ w5.cell? ⟨w3.heap.size, 1, none⟩ = some (.int .u32 b) ∧ w5.cell? ⟨g, 0, none⟩ = some (.int .u32 A) ∧ w5.cell? ⟨g, 1, none⟩ = some (.int .u32 B) ∧ w.heap.size < w5.heap.size ∧ w3.heap.size < w5.heap.size ∧ g < w5.heap.size ∧ Below w.heap.size w w5 := by assumption
  obtain ⟨_, _, _, _, k4, k5, _, _, kg, hbz⟩ := hz
  by_cases h8 : s.size < 8
  · have hPQ := HSH.out h8
    obtain ⟨rfl, rfl⟩ : p = 0 ∧ q = 10 := by
      injection hPQ with e1 e2
      exact ⟨e1, e2⟩
    obtain rfl : A = 0 := by rw [← HA.out]; rfl
    obtain rfl : B = 0 := by rw [← HB.out]; rfl
    have h8I : (s.size : Int) < 8 := by omega
    clear hPQ
    go_wp2
    go_ret
    exact ⟨rfl, hbz⟩
  · obtain ⟨hq0, hA', hB'⟩ := HLG.out (by omega)
    obtain rfl : q = 0 := hq0
    have hAw : A = ((wd (bts (s.extract 0 4)) 0 : Nat) : Int) := by rw [← HA.out, ← hA']
    have hBw : B = ((wd (bts (s.extract 4 8)) 0 : Nat) : Int) := by rw [← HB.out, ← hB']
    have hrt := fun w => refTake_any s w (by omega) hs
    rw [← hAw, ← hBw] at hrt
    have HRT := Lib.hid hrt
    have h8I : ¬ ((s.size : Int) < 8) := by omega
    have hbd : Below w.heap.size w w5.drew := hbz.drew
    clear hrt hAw hBw hA' hB'
    go_wp2_with fail
    go_region_held3 (fun w' => w'.cell? ⟨g, 0, none⟩ = some (.int .u32 A) ∧ w'.cell? ⟨g, 1, none⟩ = some (.int .u32 B) ∧ g < w'.heap.size ∧ Below w.heap.size w w')
      (first | go_keep | (go_split_ands; exact held1_below (by assumption) (by assumption) (by assumption) (by assumption) (by assumption)) | exact held1_below (by assumption) (by assumption) (by assumption) (by assumption) (by assumption))
      ((go_at_call 19; (with_reducible refine (HRT.out _).mono ?_); rintro e w6 ⟨rfl, hb6⟩))
    go_wp2
    go_ret
    have hz2 : w6.cell? ⟨g, 0, none⟩ = some (.int .u32 A) ∧ w6.cell? ⟨g, 1, none⟩ = some (.int .u32 B) ∧ g < w6.heap.size ∧ Below w.heap.size w w6 := by assumption
    exact ⟨rfl, hz2.2.2.2⟩
theorem sumTexts_walk (a0 b0 : Int) (a1 : ByteArray) (w0 : (Lit.int .u32 a0).wf = true) (u0 : (Lit.int .u32 b0).wf = true) (w1 : a1.size ≤ 140737488351232) (w : World) :
    Calls Try.prog 5 #[.agg #[.int .u32 a0, .int .u32 b0], .string a1] w fun e w' => e = .returned (.bool true) ∧ Below w.heap.size w w' :=
  sumTexts_nat a0 b0 a1 w (fit_wf w0 u0) w1
end Go.Proofs.Ytanllihbeaapiaa
