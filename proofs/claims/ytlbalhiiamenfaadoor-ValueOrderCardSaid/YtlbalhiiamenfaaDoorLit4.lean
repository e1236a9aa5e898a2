/- counterfoilref07.Literal. Conditions: the numbers fit their kinds. -/
import Derived.Test.YtlbalhiiamenfaaDoorLit3
namespace Go.Proofs.YtlbalhiiamenfaaDoor
open Go.RowKit
set_option linter.unusedVariables false
theorem rcheck0 {x : Val} (hf : Fits x) (hc : chk x = 0) (W : World) : Calls Tryd.prog 21 #[valV x] W fun e w' => e = .returned (.int .i64 0) ∧ Below W.heap.size W w' := by
  have h := refCheck_any x W hf
  rw [hc] at h
  exact h
set_option maxRecDepth 100000 in
set_option maxHeartbeats 4000000 in
theorem rlit_bad (p q : Int) (s : ByteArray) (w : World) (hf : Fits (p, q, s)) (hc : chk (p, q, s) ≠ 0) :
    Calls Tryd.prog 22 #[valV (p, q, s)] w fun e w' => e = .returned (.string ⟨#[]⟩) ∧ Below w.heap.size w w' := by
  have hck := fun W => refCheck_any (p, q, s) W hf
  have hz' := chk_ne7 hc
  generalize chk (p, q, s) = E at *
  have HCK := Lib.hid hck
  clear hck hc hf
  go_enter Tryd.func22, Tryd.ntmps22
  go_wp2_with fail
  refine (HCK.out _).mono ?_
  rintro e w1 ⟨rfl, hb1⟩
  go_wp2
  go_ret
  exact ⟨rfl, bja _ (Below.refl _ _) hb1⟩
/-- behind the check the value stands -/
theorem rlit_at {w w1 : World} {p q : Int} {s : ByteArray} (hb1 : Below (w.alloc (.cells #[.int .u8 p, .int .i64 q, .string s] 24)).heap.size (w.alloc (.cells #[.int .u8 p, .int .i64 q, .string s] 24)) w1) :
    Blk w1 w.heap.size 24 #[.int .u8 p, .int .i64 q, .string s] ∧ Below w.heap.size w w1 ∧ w.heap.size + 1 ≤ w1.heap.size :=
  ⟨blk_at hb1, bja _ (Below.refl _ _) hb1, by have := hb1.size; simpa using this⟩
set_option maxRecDepth 100000 in
set_option maxHeartbeats 4000000 in
theorem rlit_0 (w : World) :
    Calls Tryd.prog 22 #[valV (0, 0, ⟨#[]⟩)] w fun e w' => e = .returned (.string (bstr nulL)) ∧ Below w.heap.size w w' := by
  have HCK := Lib.hid (rcheck0 (x := (0, 0, ⟨#[]⟩)) ⟨by simp, by simp, by simp, by simp⟩ (by decide))
  go_enter Tryd.func22, Tryd.ntmps22
  go_wp2_with fail
  refine (HCK.out _).mono ?_
  rintro e w1 ⟨rfl, hb1⟩
  obtain ⟨hv, hb, _⟩ := rlit_at hb1
  obtain ⟨d1, d2, d3⟩ := blk3 hv
  have HB := Lib.hid hb
  clear hv hb hb1
  go_wp2
  go_ret
  exact ⟨rfl, HB.out⟩
set_option maxRecDepth 100000 in
set_option maxHeartbeats 4000000 in
theorem rlit_1 (q : Int) (w : World) (h0 : -9223372036854775808 ≤ q) (h1 : q ≤ 9223372036854775807) :
    Calls Tryd.prog 22 #[valV (1, q, ⟨#[]⟩)] w fun e w' => e = .returned (.string (bstr (itoL q))) ∧ Below w.heap.size w w' := by
  have HCK := Lib.hid (rcheck0 (x := (1, q, ⟨#[]⟩)) ⟨by simp, by simp, h0, h1⟩ (chk_z1 q))
  have HFM := Lib.hid (fun W => digits_any q W h0 h1)
  generalize bstr (itoL q) = R at *
  clear h0 h1
  go_enter Tryd.func22, Tryd.ntmps22
  go_wp2_with fail
  refine (HCK.out _).mono ?_
  rintro e w1 ⟨rfl, hb1⟩
  obtain ⟨hv, hb, _⟩ := rlit_at hb1
  obtain ⟨d1, d2, d3⟩ := blk3 hv
  have HB := Lib.hid hb
  clear hv hb hb1
  go_wp2_with fail
  refine (HFM.out _).mono ?_
  rintro e w2 ⟨rfl, hb2⟩
  go_wp2
  go_ret
  exact ⟨rfl, bj HB.out hb2⟩
theorem dqL_app (a b : List Nat) : dqL (a ++ b) = dqL a ++ dqL b := by
  induction a with
  | nil => rfl
  | cons c r ih => simp only [List.cons_append, dqL]; split <;> simp [ih]
theorem dq_take {s : ByteArray} {j : Nat} (h : j < s.size) : dqL ((bts s).take (j + 1)) = dqL ((bts s).take j) ++ dqL [(bts s).getD j 0] := by
  rw [List.take_succ_eq_append_getElem (by rw [bts_length]; exact h), List.getD_eq_getElem?_getD, List.getElem?_eq_getElem (by rw [bts_length]; exact h), dqL_app]; rfl
/-- a row of bytes that the call owns, with the value that stands -/
def Rl (w : World) (s : ByteArray) (k : Int) (A : Option Addr) (n c : Nat) (L : List Nat) (W : World) : Prop :=
  W.ownsRow (w.heap.size + 1) 5 1 (.slice A n c) n (vals8 L) ∧ Blk W w.heap.size 24 #[.int .u8 k, .int .i64 0, .string s] ∧ Below w.heap.size w W ∧ w.heap.size + 1 ≤ W.heap.size ∧ n = L.length
theorem rl_cell {w W : World} {s : ByteArray} {k : Int} {A : Option Addr} {n c : Nat} {L : List Nat} (h : Rl w s k A n c L W) : W.cell? ⟨w.heap.size, 2, none⟩ = some (.string s) := h.2.1.cell 2
theorem rl_alloc {w W : World} {s : ByteArray} {k : Int} {A : Option Addr} {n c : Nat} {L : List Nat} (h : Rl w s k A n c L W) (o : Obj) : Rl w s k A n c L (W.alloc o) :=
  ⟨own_below h.1 ((Below.refl W.heap.size W).alloc (Nat.le_refl _) o), h.2.1.alloc o, h.2.2.1.alloc h.2.2.1.size o, by have := h.2.2.2.1; simp; omega, h.2.2.2.2⟩
theorem rl_grown {w W W' : World} {s : ByteArray} {k : Int} {A : Option Addr} {n c : Nat} {L M : List Nat} {v : Value} {m : Nat} (h : Rl w s k A n c L W) (ho : W'.ownsRow (w.heap.size + 1) 5 1 v m (vals8 M)) (hm : m = M.length) (hg : W.grownBy W' (Value.slice A n c).ownBlock) :
    ∃ A' c', v = .slice A' m c' ∧ Rl w s k A' m c' M W' := by
  obtain ⟨A', c', rfl⟩ := own_form ho
  have hlt : ∀ z, (Value.slice A n c).ownBlock = some z → w.heap.size + 1 ≤ z ∧ z < W.heap.size := fun z hz => h.1.lt z hz
  refine ⟨A', c', rfl, ho, h.2.1.grown hg (fun e => by have := hlt _ e.symm; omega), h.2.2.1.grown hg (by have := h.2.2.2.1; omega) (fun z hz => by have := hlt z hz; omega), Nat.le_trans h.2.2.2.1 hg.size, hm⟩
theorem rl_conv {w W : World} {s : ByteArray} {k : Int} {A : Option Addr} {n c : Nat} {L : List Nat} (h : Rl w s k A n c L W) :
    (convert 51 9 (.slice A n c)).run Tryd.prog W = .ok (.string (bstr L)) W := by
  obtain ⟨h1, _, _, _, rfl⟩ := h
  exact conv_own h1
theorem vals8_snoc (L : List Nat) (b : Nat) : vals8 L ++ [Value.int .u8 (b : Int)] = vals8 (L ++ [b]) := by simp [vals8]
set_option maxRecDepth 100000 in
set_option maxHeartbeats 8000000 in
theorem rlit_2 (s : ByteArray) (w : World) (hs : s.size ≤ 1000) :
    Calls Tryd.prog 22 #[valV (2, 0, s)] w fun e w' => e = .returned (.string (bstr (39 :: (dqL (bts s) ++ [39])))) ∧ Below w.heap.size w w' := by
  obtain ⟨i0, hi0, hz0, hz1, hz2⟩ := info_parts u8_info
  have HCK := Lib.hid (rcheck0 (x := (2, 0, s)) (fits_z23 (by omega)) (chk_z23 (by omega) hs))
  have hsI : (s.size : Int) ≤ 1000 := by omega
  go_enter Tryd.func22, Tryd.ntmps22
  go_wp2_with fail
  refine (HCK.out _).mono ?_
  rintro e w1 ⟨rfl, hb1⟩
  obtain ⟨hv, hb, hsz⟩ := rlit_at hb1
  obtain ⟨d1, d2, d3⟩ := blk3 hv
  have HR := Lib.hid (show Rl w s 2 none 0 0 [] w1 from ⟨World.ownsRow_nil _ _ _ _, hv, hb, hsz, rfl⟩)
  clear hv hb hb1 hsz
  go_wp2
  go_loopw [4, 5] (fun v i wr => ∃ (j n c : Nat) (A : Option Addr), j ≤ s.size ∧ i = .int .i64 j ∧ v = .slice A n c ∧ Rl w s 2 A n c (dqL ((bts s).take j)) wr) (fun _ i _ => s.size - (intOf i).toNat)
  case atStart => exact ⟨0, 0, 0, none, by omega, rfl, rfl, HR.out⟩
  case round =>
    clear HR d1 d2 d3
    obtain ⟨j, n, c, A, hj, rfl, rfl, hr⟩ := hrel
    have d0 := rl_cell hr
    have hn2 : n ≤ 2000 := by
      have h1 := (dqL_le ((bts s).take j)).2
      have h2 := hr.2.2.2.2
      rw [List.length_take] at h1
      omega
    by_cases hjn : j < s.size
    · have hby := byte_at s j hjn
      have h256 := bts_getD_lt s j
      have hE := dq_take hjn
      generalize (bts s).getD j 0 = b at *
      generalize dqL ((bts s).take j) = L at *
      have HE := Lib.hid hE
      have jI : (j : Int) < s.size := by omega
      have HN := Lib.hid (rl_alloc hr (.cells #[.int .u8 (b : Nat)] 5))
      have HN39 := Lib.hid (rl_alloc hr (.cells #[.int .u8 39] 5))
      clear hr hE
      by_cases hb : b = 39
      · have hbI : ((b : Int) == 39) = true := by rw [hb]; rfl
        have HB := Lib.hid hb
        clear hb HN
        go_wp2_with (first
          | (at_builtin; refine wpList_append_any _ rfl (.tmp 34) (.tmp 35) 51 rfl (w.heap.size + 1) 5 i0 _ 1 1 Tryd.underlying51 hi0 hz0 hz1 hz2 rfl (by omega) _ n (vals8 L) rfl HN39.out.1 (wr.heap.size + 1) (some ⟨wr.heap.size, 0, none⟩) 1 1 [Value.int .u8 39] rfl (reads1 wr _ _ _ rfl) (by intro u hu; simp at hu; rw [hu]; rfl) (by simp only [maxLen]; omega) (by omega) HN39.out.2.2.2.1 ?_; intro v1 w4 hown1 hg1 hat1; obtain ⟨A1, c1, rfl, hR1⟩ := rl_grown (M := L ++ [39]) HN39.out (by rw [← vals8_snoc]; exact hown1) (by rw [List.length_append, ← HN39.out.2.2.2.2]; rfl) hg1; (have d4 := rl_cell hR1); (have HN2 := Lib.hid (rl_alloc hR1 (.cells #[.int .u8 (b : Nat)] 5))); clear hown1 hg1 hat1 hR1)
          | (at_builtin; refine wpList_append_any _ rfl (.tmp 37) (.tmp 42) 51 rfl (w.heap.size + 1) 5 i0 _ 1 1 Tryd.underlying51 hi0 hz0 hz1 hz2 rfl (by omega) _ (n + 1) (vals8 (L ++ [39])) rfl HN2.out.1 (w4.heap.size + 1) (some ⟨w4.heap.size, 0, none⟩) 1 1 [Value.int .u8 b] rfl (reads1 w4 _ _ _ rfl) (by intro u hu; simp at hu; rw [hu]; rfl) (by simp only [maxLen]; omega) (by omega) HN2.out.2.2.2.1 ?_; intro v2 w6 hown2 hg2 hat2; obtain ⟨A2, c2, rfl, hR2⟩ := rl_grown (M := (L ++ [39]) ++ [b]) HN2.out (by rw [← vals8_snoc]; exact hown2) (by rw [List.length_append, ← HN2.out.2.2.2.2]; rfl) hg2; (have HR2 := Lib.hid hR2); clear hown2 hg2 hat2 hR2))
        go_wp2
        go_roundw
        case rel => exact ⟨j + 1, _, c2, A2, by omega, by go_num, rfl, by rw [HE.out, HB.out]; have h := HR2.out; rw [HB.out] at h; simpa [dqL] using h⟩
        case measure => simp [intOf]; omega
      · have hbI : ((b : Int) == 39) = false := by rw [beq_eq_false_iff_ne]; omega
        have HB := Lib.hid hb
        clear hb HN39
        go_wp2_with (at_builtin; refine wpList_append_any _ rfl (.tmp 37) (.tmp 42) 51 rfl (w.heap.size + 1) 5 i0 _ 1 1 Tryd.underlying51 hi0 hz0 hz1 hz2 rfl (by omega) _ n (vals8 L) rfl HN.out.1 (wr.heap.size + 1) (some ⟨wr.heap.size, 0, none⟩) 1 1 [Value.int .u8 b] rfl (reads1 wr _ _ _ rfl) (by intro u hu; simp at hu; rw [hu]; rfl) (by simp only [maxLen]; omega) (by omega) HN.out.2.2.2.1 ?_; intro v2 w6 hown2 hg2 hat2; obtain ⟨A2, c2, rfl, hR2⟩ := rl_grown (M := L ++ [b]) HN.out (by rw [← vals8_snoc]; exact hown2) (by rw [List.length_append, ← HN.out.2.2.2.2]; rfl) hg2; (have HR2 := Lib.hid hR2); clear hown2 hg2 hat2 hR2)
        go_wp2
        go_roundw
        case rel => exact ⟨j + 1, _, c2, A2, by omega, by go_num, rfl, by rw [HE.out]; have h := HR2.out; simpa [dqL, HB.out] using h⟩
        case measure => simp [intOf]; omega
    · obtain rfl : j = s.size := by omega
      have hall : (bts s).take s.size = bts s := List.take_of_length_le (by rw [bts_length]; exact Nat.le_refl _)
      rw [hall] at hr
      have hcv := rl_conv hr
      have HBB := Lib.hid hr.2.2.1
      have hl : (bstr (dqL (bts s))).size ≤ 2000 := by rw [bstr_size, ← hr.2.2.2.2]; exact hn2
      have HF := Lib.hid (show ((⟨#[39]⟩ : ByteArray) ++ bstr (dqL (bts s))) ++ (⟨#[39]⟩ : ByteArray) = bstr (39 :: (dqL (bts s) ++ [39])) by
        rw [show (⟨#[39]⟩ : ByteArray) = bstr [39] from rfl, bstr_app2, bstr_app2]; rfl)
      generalize bstr (dqL (bts s)) = X at *
      clear hr hall
      go_wp2
      go_ret
      exact ⟨rstr HF.out, HBB.out⟩
end Go.Proofs.YtlbalhiiamenfaaDoor
