/- counterfoilref07.Read. Condition: the text has no more than a hundred thousand bytes. -/
import Derived.Test.YtlbalhiiamenfaaDoorRead5
namespace Go.Proofs.YtlbalhiiamenfaaDoor
open Go.RowKit
set_option linter.unusedVariables false
set_option linter.unusedSimpArgs false
def Gx (L : List Nat) : Prop := 3 ≤ L.length ∧ L.getD 0 0 = 120 ∧ L.getD 1 0 = 39 ∧ L.getD (L.length - 1) 0 = 39 ∧ L.length % 2 = 1
def Gq (L : List Nat) : Prop := 2 ≤ L.length ∧ L.getD 0 0 = 39 ∧ L.getD (L.length - 1) 0 = 39
theorem drop_at {L : List Nat} {j : Nat} (h : j < L.length) : L.drop j = L.getD j 0 :: L.drop (j + 1) := by
  rw [List.drop_eq_getElem_cons h, List.getD_eq_getElem?_getD, List.getElem?_eq_getElem h, Option.getD_some]
theorem drop_last {L : List Nat} (h : 1 ≤ L.length) (h39 : L.getD (L.length - 1) 0 = 39) : L.drop (L.length - 1) = [39] := by
  rw [drop_at (by omega), h39, List.drop_of_length_le]; omega
theorem last_app (A : List Nat) (c : Nat) : (A ++ [c]).getD ((A ++ [c]).length - 1) 0 = c := by
  simp [List.getD_eq_getElem?_getD]
theorem unh_shape {M t : List Nat} (h : unh M = some t) : M.length % 2 = 1 ∧ M.getD (M.length - 1) 0 = 39 := by
  obtain ⟨h1, _⟩ := unh_some _ _ _ (Nat.le_refl _) h
  subst h1
  refine ⟨?_, last_app _ _⟩
  rw [List.length_append, hexL_len]; simp
theorem unq_shape {M t : List Nat} (h : unq M = some t) : 1 ≤ M.length ∧ M.getD (M.length - 1) 0 = 39 := by
  have h1 := unq_some _ _ _ (Nat.le_refl _) h
  subst h1
  exact ⟨by simp, last_app _ _⟩
theorem last_cons {a : Nat} {M : List Nat} (h : 1 ≤ M.length) : (a :: M).getD ((a :: M).length - 1) 0 = M.getD (M.length - 1) 0 := by
  cases M with
  | nil => simp at h
  | cons b M => simp
theorem numZ_hd {c : Nat} {r : List Nat} (h : c = 39 ∨ c = 120) : numZ (c :: r) = none := by
  rw [numZ_pos (by simp; omega)]
  split
  · rfl
  · rw [decV_bad (by omega)]
theorem readZ_x {L : List Nat} (h : Gx L) : readZ L = toldZ 3 (unh (L.drop 2)) := by
  obtain ⟨h1, h2, h3, _, _⟩ := h
  match L with
  | a :: b :: r =>
    simp only [List.getD_cons_zero, List.getD_cons_succ] at h2 h3
    subst h2 h3
    rfl
theorem readZ_q {L : List Nat} (h : Gq L) : readZ L = toldZ 2 (unq (L.drop 1)) := by
  obtain ⟨h1, h2, _⟩ := h
  match L with
  | a :: r =>
    simp only [List.getD_cons_zero] at h2
    subst h2
    rfl
theorem readZ_num {L : List Nat} (hn : L ≠ nulL) (hx : ¬ Gx L) (hq : ¬ Gq L) : readZ L = match numZ L with | some n => ((1, n, bstr []), 0) | none => (nulV, 6) := by
  unfold readZ
  rw [if_neg hn]
  cases L with
  | nil => rfl
  | cons c r =>
    simp only
    by_cases h39 : c = 39
    · subst h39
      rw [if_pos rfl, numZ_hd (.inl rfl)]
      cases hu : unq r with
      | none => rfl
      | some t =>
        obtain ⟨k1, k2⟩ := unq_shape hu
        exact absurd ⟨by simp only [List.length_cons]; omega, rfl, by rw [last_cons k1]; exact k2⟩ hq
    · rw [if_neg h39]
      by_cases h120 : c = 120
      · subst h120
        rw [if_pos rfl, numZ_hd (.inr rfl)]
        cases hu : unx r with
        | none => rfl
        | some t =>
          cases r with
          | nil => simp [unx] at hu
          | cons d r =>
            simp only [unx] at hu
            split at hu
            · rename_i hd
              subst hd
              obtain ⟨k1, k2⟩ := unh_shape hu
              have hr : 1 ≤ r.length := by omega
              refine absurd ⟨by simp only [List.length_cons]; omega, rfl, rfl, ?_, by simp only [List.length_cons]; omega⟩ hx
              rw [last_cons (by simp only [List.length_cons]; omega), last_cons hr]; exact k2
            · cases hu
      · rw [if_neg h120]
        cases numZ (c :: r) <;> rfl
theorem idx_run (s : ByteArray) (z : Int) (j c : Nat) (hz : z = j) (hj : j < s.size) (hc : (bts s).getD j 0 = c) (W : World) : (Instr.index 9 (.string s) (.int .i64 z)).run Tryd.prog W = .ok (.int .u8 (c : Nat)) W := by
  subst hz
  have hy := byte_at s j hj
  rw [run_index_string W 9 _ .i64 _ Tryd.underlying9, dif_pos ⟨by omega, by omega⟩]
  have e : ((j : Int)).toNat = j := by omega
  simp only [e]
  rw [hy, hc]
def RdP (s : ByteArray) (w : World) (e : Ending) (w' : World) : Prop := e = .returned (.tuple #[valV (readZ (bts s)).1, .int .i64 (readZ (bts s)).2]) ∧ Below w.heap.size w w'
theorem rdP_of {s : ByteArray} {w w' : World} {x : Val} {k : Int} (h : readZ (bts s) = (x, k)) (hb : Below w.heap.size w w') : RdP s w (.returned (.tuple #[valV x, .int .i64 k])) w' := ⟨by rw [h], hb⟩
set_option maxRecDepth 100000 in
set_option maxHeartbeats 4000000 in
theorem rread_nul (w : World) : Calls Tryd.prog 26 #[.string ⟨#[78, 85, 76, 76]⟩] w (RdP ⟨#[78, 85, 76, 76]⟩ w) := by
  have HZ := Lib.hid (show readZ (bts ⟨#[78, 85, 76, 76]⟩) = (nulV, 0) from rfl)
  have HV := Lib.hid (Blk.new w 24 #[.int .u8 0, .int .i64 0, .string ⟨#[]⟩])
  have HB := Lib.hid (one_alloc (w := w) (o := .cells #[.int .u8 0, .int .i64 0, .string ⟨#[]⟩] 24))
  go_enter Tryd.func26, Tryd.ntmps26
  go_wp2
  obtain ⟨e0, e1, e2, _, _, _⟩ := cell3 (blk3_set HV.out (.int .u8 0) (.int .i64 0) (.string ⟨#[]⟩))
  exact bodyPost_ret (v := .tuple #[.agg #[.int .u8 0, .int .i64 0, .string ⟨#[]⟩], .int .i64 0]) (by simp [results, Tryd.results26, go_sem, e0, e1, e2]) rfl (rdP_of HZ.out (by first | exact HB.out | exact below3_set HB.out _ _ _))
set_option maxRecDepth 100000 in
set_option maxHeartbeats 8000000 in
theorem rread_num (s : ByteArray) (w : World) (hn : bts s ≠ nulL) (hx : ¬ Gx (bts s)) (hq : ¬ Gq (bts s)) (hl : s.size ≤ 100000) : Calls Tryd.prog 26 #[.string s] w (RdP s w) := by
  have HZ := Lib.hid (readZ_num hn hx hq)
  have hne := nul_ne hn
  have HNU := Lib.hid (fun W => rnumber s W hl)
  have HV := Lib.hid (Blk.new w 24 #[.int .u8 0, .int .i64 0, .string ⟨#[]⟩])
  have HB := Lib.hid (one_alloc (w := w) (o := .cells #[.int .u8 0, .int .i64 0, .string ⟨#[]⟩] 24))
  have HX := Lib.hid hx
  have HQ := Lib.hid hq
  have HL := Lib.hid (bts_length s)
  clear hn hx hq
  go_enter Tryd.func26, Tryd.ntmps26
  go_upto_region 3 with fail
  go_cut [41] (fun v wx => v = .bool false ∧ wx = w.alloc (.cells #[.int .u8 0, .int .i64 0, .string ⟨#[]⟩] 24))
  case first =>
    clear hne
    by_cases a1 : s.size < 3
    · have aI : (s.size : Int) < 3 := by omega
      clear a1
      go_wp2_with fail
      go_meet
      exact ⟨by first | rfl | exact congrArg Value.bool (by simp [*]), rfl⟩
    · have aI : (3 : Int) ≤ s.size := by omega
      have b0 : (0 : Int) < s.size := by omega
      have b1 : (1 : Int) < s.size := by omega
      have hy0 := byte_at s 0 (by omega)
      have hy1 := byte_at s 1 (by omega)
      have hxl := idx_run s (s.size - 1) (s.size - 1) _ (by omega) (by omega) rfl
      have q3 : (s.size : Int).tmod 2 = (s.size : Int) % 2 := Int.tmod_eq_emod_of_nonneg (by omega)
      have hX : ¬ ((bts s).getD 0 0 = 120 ∧ (bts s).getD 1 0 = 39 ∧ (bts s).getD (s.size - 1) 0 = 39 ∧ s.size % 2 = 1) := fun ⟨k1, k2, k3, k4⟩ => HX.out ⟨by rw [HL.out]; omega, k1, k2, by rw [HL.out]; exact k3, by rw [HL.out]; exact k4⟩
      generalize (bts s).getD 0 0 = c0 at *
      generalize (bts s).getD 1 0 = c1 at *
      generalize (bts s).getD (s.size - 1) 0 = c2 at *
      have hX2 : (((c0 : Int) == 120) && ((c1 : Int) == 39) && ((c2 : Int) == 39) && ((s.size : Int) % 2 == 1)) = false := by
        simp only [Bool.and_eq_false_iff, beq_eq_false_iff_ne]
        by_cases k1 : c0 = 120
        · by_cases k2 : c1 = 39
          · by_cases k3 : c2 = 39
            · have : ¬ s.size % 2 = 1 := fun k4 => hX ⟨k1, k2, k3, k4⟩
              exact .inr (by omega)
            · exact .inl (.inr (by omega))
          · exact .inl (.inl (.inr (by omega)))
        · exact .inl (.inl (.inl (by omega)))
      clear hX
      by_cases k1 : (c0 : Int) == 120
      · by_cases k2 : (c1 : Int) == 39
        · by_cases k3 : (c2 : Int) == 39
          · rw [k1, k2, k3] at hX2
            simp only [Bool.true_and] at hX2
            go_wp2_with fail
            go_meet
            exact ⟨by first | rfl | exact congrArg Value.bool (by simp [*]), rfl⟩
          · have k3 : ((c2 : Int) == 39) = false := by simpa using k3
            clear hX2
            go_wp2_with fail
            go_meet
            exact ⟨by first | rfl | exact congrArg Value.bool (by simp [*]), rfl⟩
        · have k2 : ((c1 : Int) == 39) = false := by simpa using k2
          clear hX2
          go_wp2_with fail
          go_meet
          exact ⟨by first | rfl | exact congrArg Value.bool (by simp [*]), rfl⟩
      · have k1 : ((c0 : Int) == 120) = false := by simpa using k1
        clear hX2
        go_wp2_with fail
        go_meet
        exact ⟨by first | rfl | exact congrArg Value.bool (by simp [*]), rfl⟩
  case rest =>
    obtain ⟨rfl, rfl⟩ := hcut
    go_upto_region 14 with fail
    go_cut [94] (fun v wx => v = .bool false ∧ wx = w.alloc (.cells #[.int .u8 0, .int .i64 0, .string ⟨#[]⟩] 24))
    case first =>
      clear hne
      by_cases a1 : s.size < 2
      · have aI : (s.size : Int) < 2 := by omega
        clear a1
        go_wp2_with fail
        go_meet
        exact ⟨by first | rfl | exact congrArg Value.bool (by simp [*]), rfl⟩
      · have aI : (2 : Int) ≤ s.size := by omega
        have b0 : (0 : Int) < s.size := by omega
        have hy0 := byte_at s 0 (by omega)
        have hxl := idx_run s (s.size - 1) (s.size - 1) _ (by omega) (by omega) rfl
        have hX : ¬ ((bts s).getD 0 0 = 39 ∧ (bts s).getD (s.size - 1) 0 = 39) := fun ⟨k1, k3⟩ => HQ.out ⟨by rw [HL.out]; omega, k1, by rw [HL.out]; exact k3⟩
        generalize (bts s).getD 0 0 = c0 at *
        generalize (bts s).getD (s.size - 1) 0 = c2 at *
        by_cases k1 : c0 = 39
        · have k2 : ((c2 : Int) == 39) = false := by
            rw [beq_eq_false_iff_ne]
            intro e
            exact hX ⟨k1, by omega⟩
          have k1' : ((c0 : Int) == 39) = true := by rw [k1]; rfl
          clear hX k1
          go_wp2_with fail
          go_meet
          exact ⟨by first | rfl | exact congrArg Value.bool (by simp [*]), rfl⟩
        · have k1' : ((c0 : Int) == 39) = false := by rw [beq_eq_false_iff_ne]; omega
          clear hX k1
          go_wp2_with fail
          go_meet
          exact ⟨by first | rfl | exact congrArg Value.bool (by simp [*]), rfl⟩
    case rest =>
      obtain ⟨rfl, rfl⟩ := hcut
      go_wp2_with fail
      refine (HNU.out _).mono ?_
      rintro e w1 ⟨rfl, ⟨n, hz, rfl⟩ | ⟨hz, x, rfl⟩⟩
      · rw [hz] at HZ
        clear hz
        obtain ⟨x0, x1, x2, y0, y1, y2⟩ := cell3 HV.out
        go_wp2
        obtain ⟨e0, e1, e2, _, _, _⟩ := cell3 (blk3_set HV.out (.int .u8 1) (.int .i64 n) (.string ⟨#[]⟩))
        exact bodyPost_ret (v := .tuple #[.agg #[.int .u8 1, .int .i64 n, .string ⟨#[]⟩], .int .i64 0]) (by simp [results, Tryd.results26, go_sem, e0, e1, e2]) rfl (rdP_of (x := (1, n, ⟨#[]⟩)) HZ.out (by first | exact one_alloc | exact below3_set HB.out _ _ _))
      · rw [hz] at HZ
        clear hz
        obtain ⟨x0, x1, x2, y0, y1, y2⟩ := cell3 HV.out
        go_wp2
        obtain ⟨e0, e1, e2, _, _, _⟩ := cell3 (blk3_set HV.out (.int .u8 0) (.int .i64 0) (.string ⟨#[]⟩))
        exact bodyPost_ret (v := .tuple #[.agg #[.int .u8 0, .int .i64 0, .string ⟨#[]⟩], .int .i64 6]) (by simp [results, Tryd.results26, go_sem, e0, e1, e2]) rfl (rdP_of (x := nulV) HZ.out (by first | exact HB.out | exact below3_set HB.out _ _ _))
end Go.Proofs.YtlbalhiiamenfaaDoor
