/- The walk of KeyBack. Conditions: the numbers fit their kinds; bytealg.MaxLen holds a number. -/
import Derived.Test.YtfdiopjmohhejaaDoorKeyMath3
import Derived.Test.YtfdiopjmohhejaaDoorLawKeyBegins
namespace Go.Proofs.YtfdiopjmohhejaaDoor
open Go.RowKit
set_option linter.unusedVariables false
theorem valCs_get (l : List Val) : ∀ (j : Nat) (u : Value), (valCs l)[j]? = some u → ∃ x, l[j / 3]? = some x ∧ (j % 3 = 0 ∧ u = .int .u8 x.1 ∨ j % 3 = 1 ∧ u = .int .i64 x.2.1 ∨ j % 3 = 2 ∧ u = .string x.2.2) := by
  induction l with
  | nil => intro j u h; simp [valCs] at h
  | cons y l ih =>
    intro j u h
    have e : valCs (y :: l) = .int .u8 y.1 :: .int .i64 y.2.1 :: .string y.2.2 :: valCs l := by simp [valCs]
    rw [e] at h
    match j, h with
    | 0, h => simp at h; exact ⟨y, rfl, .inl ⟨rfl, h.symm⟩⟩
    | 1, h => simp at h; exact ⟨y, rfl, .inr (.inl ⟨rfl, h.symm⟩)⟩
    | 2, h => simp at h; exact ⟨y, rfl, .inr (.inr ⟨rfl, h.symm⟩)⟩
    | j + 3, h =>
      simp only [List.getElem?_cons_succ] at h
      obtain ⟨x, h1, h2⟩ := ih j u h
      refine ⟨x, by rw [show (j + 3) / 3 = j / 3 + 1 from by omega]; simpa using h1, by rw [show (j + 3) % 3 = j % 3 from by omega]; exact h2⟩
theorem valCs_len (l : List Val) : (valCs l).length = l.length * 3 := by
  induction l with
  | nil => rfl
  | cons x l ih => unfold valCs at ih ⊢; rw [List.flatMap_cons, List.length_append, ih, List.length_cons]; simp; omega
theorem vals_reads {W : World} {A : Option Addr} {l : List Val} {n : Nat} (h : Vals W W.heap.size A l) (hn : n = l.length) : Reads W W.heap.size 3 A n (valCs l) := by
  subst hn
  refine ⟨valCs_len l, fun hpos => ?_⟩
  obtain ⟨b, o, rfl, hlt, hc⟩ := vals_get h (fun e => by rw [e] at hpos; simp at hpos)
  refine ⟨_, rfl, hlt, fun j u hu => ?_⟩
  obtain ⟨x, h1, h2⟩ := valCs_get l j u hu
  obtain ⟨c0, c1, c2⟩ := hc _ x h1
  have ea : ∀ i, (⟨b, o, none⟩ : Addr).add i = ⟨b, o + i, none⟩ := fun i => by unfold Addr.add; split <;> simp_all
  rw [ea]
  rcases h2 with ⟨h2, rfl⟩ | ⟨h2, rfl⟩ | ⟨h2, rfl⟩
  · rw [show o + j = o + j / 3 * 3 from by omega]; exact c0
  · rw [show o + j = o + j / 3 * 3 + 1 from by omega]; exact c1
  · rw [show o + j = o + j / 3 * 3 + 2 from by omega]; exact c2
theorem valCs_one (l : List Val) : ∀ u ∈ valCs l, u.oneCell' = true := by
  intro u hu
  unfold valCs at hu
  obtain ⟨x, _, hx⟩ := List.mem_flatMap.1 hu
  simp at hx
  rcases hx with rfl | rfl | rfl <;> rfl
theorem own_e0 {W : World} {base g : Nat} (h : Blk W g 26 #[]) (hb : base ≤ g) : W.ownsRow base 26 3 (.slice (some ⟨g, 0, none⟩) 0 0) 0 [] :=
  ⟨rfl, .inr ⟨g, 0, #[], rfl, hb, h, Nat.le_refl _, by unfold maxLen; omega, rfl, rfl⟩⟩
theorem vals_drop {W : World} {B g o n : Nat} {l : List Val} (h : Vals W B (some ⟨g, o, none⟩) l) : Vals W B (some ⟨g, o + n * 3, none⟩) (l.drop n) := by
  rcases h with rfl | ⟨g', o', he, hlt, hc⟩
  · exact .inl (by simp)
  · simp only [Option.some.injEq, Addr.mk.injEq, and_true] at he
    obtain ⟨rfl, rfl⟩ := he
    refine .inr ⟨g, o + n * 3, rfl, hlt, fun j x hx => ?_⟩
    rw [List.getElem?_drop] at hx
    obtain ⟨c0, c1, c2⟩ := hc (n + j) x hx
    have e : o + n * 3 + j * 3 = o + (n + j) * 3 := by omega
    rw [e]
    exact ⟨c0, c1, c2⟩
theorem vz_of {w W : World} {A : Option Addr} {la : List Val} {C : Option Addr} {lb : List Val} (h : Vz w A la C lb w) (hb : Below w.heap.size w W) : Vz w A la C lb W := ⟨vals_step h.1 hb, vals_step h.2.1 hb, hb⟩
theorem vals_dropm {W : World} {B n : Nat} {A : Option Addr} {l : List Val} (h : Vals W B A l) : Vals W B (A.map (fun x => x.add (n * 3))) (l.drop n) := by
  rcases h with rfl | ⟨g, o, rfl, hlt, hc⟩
  · exact .inl (by simp)
  · have ea : ∀ i, (⟨g, o, none⟩ : Addr).add i = ⟨g, o + i, none⟩ := fun i => by unfold Addr.add; split <;> simp_all
    have h2 : Vals W B (some ⟨g, o, none⟩) l := .inr ⟨g, o, rfl, hlt, hc⟩
    have h3 := vals_drop (n := n) h2
    simp only [Option.map_some, ea]
    exact h3
/-- what Take makes of a text, and Put of that -/
theorem ktake_put (s : ByteArray) (hs : s.size ≤ 8192) (m : Int) (w : World) (hm : w.cell? ⟨0, 0, none⟩ = some (.int .i64 m)) : Calls Tryd.prog 12 #[.string s] w fun e w' => ∃ (A : Option Addr) (n c : Nat) (er : Int) (T : ByteArray),
    e = .returned (.tuple #[.slice A n c, .int .i64 er]) ∧ Below w.heap.size w w' ∧ ((n = 0 ∧ er = 7) ∨ (er = 0 ∧ T = s)) ∧
    Calls Tryd.prog 10 #[.slice A n c] w' fun e w'' => e = .returned (.tuple #[.string T, .int .i64 0]) ∧ Below w'.heap.size w' w'' := by
  refine (ktake_any s w (by omega)).mono ?_
  rintro e w' ⟨A, n, c, er, l, rfl, hV, hn, hL, _, hf, hb, hh⟩
  rw [bts_length] at hL
  have hp := kput_row A l n c m w' hV hn (by omega) (fun x hx => (hf x hx).1) ((hb.cell (p := ⟨0, 0, none⟩) (lt_of_cell hm)).trans hm)
  have hk : kputS l = (bstr (keyL l), 0) := by
    rcases kputS_cases l with ⟨_, h⟩ | ⟨E, hE, h⟩
    · exact h
    · have : chkL l = 0 := by
        clear hV hn hL hb hh hp h
        induction l with
        | nil => rfl
        | cons x r ih => simp only [chkL]; rw [if_pos (hf x (by simp)).2]; exact ih (fun y hy => hf y (by simp [hy]))
      unfold kputS
      rw [if_pos this]
  rw [hk] at hp
  refine ⟨A, n, c, er, bstr (keyL l), rfl, hb, ?_, hp⟩
  rcases hh with ⟨_, rfl, rfl⟩ | ⟨h2, rfl⟩
  · exact .inl ⟨hn, rfl⟩
  · exact .inr ⟨rfl, by rw [takeK_back _ _ (Nat.le_refl _) (bts_lt s) l h2, bstr_bts]⟩
theorem firstZ_put {x : Val} (hf : Fits x) (hc : chk x = 0) (more : List Nat) : firstZ (oneK x ++ more) = (((((oneK x).length : Nat) : Int)), 0) := by
  unfold firstZ
  rw [oneT_put hf hc more]
set_option maxRecDepth 100000 in
set_option maxHeartbeats 8000000 in
theorem keyBack_main (A : Option Addr) (la : List Val) (n c : Nat) (C : Option Addr) (lb : List Val) (k d : Nat) (s : ByteArray) (hn : n = la.length) (h60 : n ≤ 60) (hf : ∀ x ∈ la, Fits x) (ca : ∀ x ∈ la, chk x = 0) (hn' : k = lb.length) (h60' : k ≤ 60) (hf' : ∀ x ∈ lb, Fits x) (cb : ∀ x ∈ lb, chk x = 0) (hsz : s.size ≤ 8192) (w : World) (hV : Vals w w.heap.size A la) (hV' : Vals w w.heap.size C lb) (m : Int) (hc0 : w.cell? ⟨0, 0, none⟩ = some (.int .i64 m))
    (HWK : Hid (∀ W, Vz w A la C lb W → Calls Tryd.prog 11 #[] W fun e w' => e = .returned (.bool true) ∧ Below W.heap.size W w'))
    (HGA : Hid (∀ W, Vz w A la C lb W → Calls Tryd.prog 15 #[.slice A n c] W fun e w' => e = .returned (.bool false) ∧ Below W.heap.size W w'))
    (HGB : Hid (∀ W, Vz w A la C lb W → Calls Tryd.prog 15 #[.slice C k d] W fun e w' => e = .returned (.bool false) ∧ Below W.heap.size W w')) :
    Calls Tryd.prog 7 #[.slice A n c, .slice C k d, .string s] w fun e w' => e = .returned (.bool true) ∧ Below w.heap.size w w' := by
  have hlt0 := lt_of_cell hc0
  have hM : ∀ W, Below w.heap.size w W → W.cell? ⟨0, 0, none⟩ = some (.int .i64 m) := fun W hb => (hb.cell (p := ⟨0, 0, none⟩) hlt0).trans hc0
  have eA : kputS la = (bstr (keyL la), 0) := by
    rcases kputS_cases la with ⟨_, h⟩ | ⟨E, hE, h⟩
    · exact h
    · unfold kputS; rw [if_pos (chkL_zero ca)]
  have eB : kputS lb = (bstr (keyL lb), 0) := by
    rcases kputS_cases lb with ⟨_, h⟩ | ⟨E, hE, h⟩
    · exact h
    · unfold kputS; rw [if_pos (chkL_zero cb)]
  have fAB : ∀ x ∈ la ++ lb, Fits x := fun x hx => (List.mem_append.1 hx).elim (hf x) (hf' x)
  have cAB : ∀ x ∈ la ++ lb, chk x = 0 := fun x hx => (List.mem_append.1 hx).elim (ca x) (cb x)
  have eAB : kputS (la ++ lb) = (bstr (keyL la) ++ bstr (keyL lb), 0) := by
    unfold kputS; rw [if_pos (chkL_zero cAB), keyL_app, bstr_app2]
  have lA := keyL_len la ca
  have lB := keyL_len lb cb
  have zA : (bstr (keyL la)).size ≤ 130000 := by rw [bstr_size]; omega
  have zB : (bstr (keyL lb)).size ≤ 130000 := by rw [bstr_size]; omega
  have hpa := fun W (h : Vz w A la C lb W) => kput_row A la n c m W h.1 hn (by omega) hf (hM W h.2.2)
  have hpb := fun W (h : Vz w A la C lb W) => kput_row C lb k d m W h.2.1 hn' (by omega) hf' (hM W h.2.2)
  rw [eA] at hpa
  rw [eB] at hpb
  have hpall : ∀ (W : World) (A' : Option Addr) (c' : Nat), Below w.heap.size w W → W.ownsRow w.heap.size 26 3 (.slice A' (n + k) c') (n + k) (valCs la ++ valCs lb) → Calls Tryd.prog 10 #[.slice A' (n + k) c'] W fun e w' => e = .returned (.tuple #[.string (bstr (keyL la) ++ bstr (keyL lb)), .int .i64 0]) ∧ Below W.heap.size W w' := fun W A' c' hb ho => by
    have e : valCs la ++ valCs lb = valCs (la ++ lb) := by simp [valCs]
    rw [e] at ho
    have h := kput_row A' (la ++ lb) (n + k) c' m W (vals_of_own ho (by simp; omega)) (by simp; omega) (by omega) fAB (hM W hb)
    rw [eAB] at h
    exact h
  have btsAB : bts (bstr (keyL la) ++ bstr (keyL lb)) = keyL (la ++ lb) := by
    rw [bts_app, bts_bstr _ (keyL_lt hf ca), bts_bstr _ (keyL_lt hf' cb), keyL_app]
  have hta : ∀ W, Calls Tryd.prog 12 #[.string (bstr (keyL la) ++ bstr (keyL lb))] W fun e w' => ∃ A' c', e = .returned (.tuple #[.slice A' (n + k) c', .int .i64 0]) ∧ Vals w' w'.heap.size A' (la ++ lb) ∧ n + k ≤ c' ∧ Below W.heap.size W w' := fun W => by
    refine (ktake_any _ W (by rw [ByteArray.size_append]; omega)).mono ?_
    rintro e w' ⟨A', n', c', er, l, rfl, hV, hn', _, hcap, _, hb, hh⟩
    rw [btsAB, takeK_put _ fAB cAB] at hh
    rcases hh with ⟨h, _⟩ | ⟨h, rfl⟩
    · cases h
    · simp only [Option.some.injEq] at h
      subst h
      have e : n' = n + k := by rw [hn', List.length_append]; omega
      subst e
      exact ⟨A', c', rfl, hV, hcap, hb⟩
  have hs1 : ∀ (W : World) (A' : Option Addr) (c' : Nat), Vz w A la C lb W → Vals W W.heap.size A' (la ++ lb) → Calls Tryd.prog 20 #[.slice A' n c', .slice A n c] W fun e w' => e = .returned (.bool true) ∧ Below W.heap.size W w' := fun W A' c' h hv =>
    same_any A' A ((la ++ lb).take n) la n c' n c true W (vals_take hv n) h.1 (by rw [List.length_take, List.length_append]; omega) hn (by unfold maxLen; omega) (by unfold maxLen; omega) (by rw [hn, List.take_left]; simp)
  have hs2 : ∀ (W : World) (A' : Option Addr) (c' : Nat), Vz w A la C lb W → Vals W W.heap.size A' lb → Calls Tryd.prog 20 #[.slice A' k c', .slice C k d] W fun e w' => e = .returned (.bool true) ∧ Below W.heap.size W w' := fun W A' c' h hv =>
    same_any A' C lb lb k c' k d true W hv h.2.1 hn' hn' (by unfold maxLen; omega) (by unfold maxLen; omega) (by simp)
  have hfi : ∀ x r, la = x :: r → ∀ W, Calls Tryd.prog 13 #[.string (bstr (keyL la) ++ bstr (keyL lb))] W fun e w' => e = .returned (.tuple #[.int .i64 ((bstr (oneK x)).size : Nat), .int .i64 0]) ∧ Below W.heap.size W w' := fun x r e W => by
    have h := kfirst_any (bstr (keyL la) ++ bstr (keyL lb)) W (by rw [ByteArray.size_append]; omega)
    have e2 : keyL (la ++ lb) = oneK x ++ keyL (r ++ lb) := by rw [e, List.cons_append, keyL_cons]
    rw [btsAB, e2, firstZ_put (hf x (by rw [e]; simp)) (ca x (by rw [e]; simp))] at h
    rw [bstr_size]
    exact h
  have hp1 : ∀ x r, la = x :: r → ∀ (W : World) (g : Nat), Below w.heap.size w W → Blk W g 26 (valC x) → Calls Tryd.prog 10 #[.slice (some ⟨g, 0, none⟩) 1 1] W fun e w' => e = .returned (.tuple #[.string (bstr (oneK x)), .int .i64 0]) ∧ Below W.heap.size W w' := fun x r e W g hb hB => by
    have h := kput_row (some ⟨g, 0, none⟩) [x] 1 1 m W (vals_blk hB (fun j y hy => by
      match j, hy with
      | 0, hy => simp at hy; subst hy; exact ⟨rfl, rfl, rfl⟩
      | j + 1, hy => simp at hy)) rfl (by omega) (fun y hy => by rw [List.mem_singleton.1 hy]; exact hf x (by rw [e]; simp)) (hM W hb)
    have ek : kputS [x] = (bstr (oneK x), 0) := by
      unfold kputS
      rw [if_pos (chkL_zero (fun y hy => by rw [List.mem_singleton.1 hy]; exact ca x (by rw [e]; simp)))]
      simp [keyL]
    rw [ek] at h
    exact h
  have htp := fun W (hb : Below w.heap.size w W) => ktake_put s hsz m W (hM W hb)
  have H0 : Hid (Vz w A la C lb w) := Lib.hid ⟨hV, hV', Below.refl _ _⟩
  obtain ⟨iv, hv1, hv2, hv3, hv4⟩ := info_parts (show (Tryd.prog.info? 26).map (fun i => (i.zero, i.size, i.bytes)) = some (some (.agg #[.int .u8 0, .int .i64 0, .string ⟨#[]⟩]), 3, 32) by kernel_rfl)
  generalize bstr (keyL la) = X at *
  generalize bstr (keyL lb) = Y at *
  have hsI : (s.size : Int) ≤ 8192 := by omega
  have HPA := Lib.hid hpa
  have HPB := Lib.hid hpb
  have HPALL := Lib.hid hpall
  have HTA := Lib.hid hta
  have HS1 := Lib.hid hs1
  have HS2 := Lib.hid hs2
  have HFI := Lib.hid hfi
  have HP1 := Lib.hid hp1
  have HTP := Lib.hid htp
  have HLS := Lib.hid (fun W => (long_any s W).mono (R' := fun e w' => e = .returned (.bool false) ∧ W = w') fun e w' he => ⟨by rw [he.1, decide_eq_false (by omega)], he.2.symm⟩)
  have HN := Lib.hid (And.intro hn hn')
  have hnI : (n : Int) ≤ 60 := by omega
  have hkI : (k : Int) ≤ 60 := by omega
  clear hpa hpb hpall hta hs1 hs2 hfi hp1 htp hf hf' ca cb fAB cAB eA eB eAB lA lB btsAB hM hlt0 hc0 hV hV' hsz hn hn'
  go_enter Tryd.func7, Tryd.ntmps7
  go_wp2_with fail
  refine (HWK.out _ H0.out).mono ?_
  rintro e w1 ⟨rfl, hb1⟩
  have h1 := vz_step H0.out hb1
  clear hb1
  go_wp2_with fail
  refine (HGA.out _ h1).mono ?_
  rintro e w2 ⟨rfl, hb2⟩
  replace h1 := vz_step h1 hb2
  clear hb2
  go_wp2_with fail
  refine (HGB.out _ h1).mono ?_
  rintro e w3 ⟨rfl, hb3⟩
  replace h1 := vz_step h1 hb3
  clear hb3
  go_wp2_with fail
  refine (HLS.out _).mono ?_
  rintro e w4 ⟨rfl, rfl⟩
  go_wp2_with fail
  refine (HPA.out _ h1).mono ?_
  rintro e w5 ⟨rfl, hb5⟩
  replace h1 := vz_step h1 hb5
  clear hb5
  go_wp2_with fail
  refine (HPB.out _ h1).mono ?_
  rintro e w6 ⟨rfl, hb6⟩
  replace h1 := vz_step h1 hb6
  have H6 := Lib.hid h1
  have E6 := Lib.hid (own_e0 (base := w.heap.size) (Blk.new w6 26 #[]) h1.2.2.size)
  have R6 := Lib.hid (vals_reads (vals_step h1.1 ((Below.refl w6.heap.size w6).alloc (Nat.le_refl _) (.cells #[] 26))) HN.out.1)
  have B6 := Lib.hid (h1.2.2.alloc h1.2.2.size (.cells #[] 26))
  have S6 := Lib.hid (show w.heap.size ≤ (w6.alloc (.cells #[] 26)).heap.size from B6.out.size)
  clear hb6 h1
  go_wp2_with (first
    | (at_builtin; refine wpList_append_any _ rfl (.tmp 50) (.tmp 51) 28 rfl w.heap.size 26 iv _ 3 32 Tryd.underlying28 hv1 hv2 hv3 hv4 rfl (by omega) _ 0 [] rfl E6.out _ A n c (valCs la) rfl R6.out (valCs_one la) (by simp only [maxLen]; omega) (by omega) S6.out ?_; intro v1 w7 hown1 hg1 hat1; (simp only [Nat.zero_add, List.nil_append] at hown1); obtain ⟨A1, c1, rfl⟩ := own_form hown1; (have hB7 := B6.out.grown hg1 S6.out (fun z hz => (E6.out.lt z hz).1)); (have H7 := Lib.hid (vz_of H0.out hB7)); (have HO7 := Lib.hid hown1); (have R7 := Lib.hid (vals_reads H7.out.2.1 HN.out.2)); clear hB7 hown1 hg1 hat1)
    | (at_builtin; refine wpList_append_any _ rfl (.tmp 52) (.tmp 53) 28 rfl w.heap.size 26 iv _ 3 32 Tryd.underlying28 hv1 hv2 hv3 hv4 rfl (by omega) _ n (valCs la) rfl HO7.out _ C k d (valCs lb) rfl R7.out (valCs_one lb) (by simp only [maxLen]; omega) (by omega) H7.out.2.2.size ?_; intro v2 w8 hown2 hg2 hat2; obtain ⟨A2, c2, rfl⟩ := own_form hown2; (have hB8 := H7.out.2.2.grown hg2 H7.out.2.2.size (fun z hz => (HO7.out.lt z hz).1)); (have H8 := Lib.hid (vz_of H0.out hB8)); (have HO8 := Lib.hid hown2); clear hB8 hown2 hg2 hat2))
  refine (HPALL.out _ _ _ H8.out.2.2 HO8.out).mono ?_
  rintro e w9 ⟨rfl, hb9⟩
  have H9 := Lib.hid (vz_step H8.out hb9)
  clear hb9
  go_wp2_with fail
  refine (HTA.out _).mono ?_
  rintro e w10 ⟨A9, c9, rfl, hV9, hcap9, hb10⟩
  have H10 := Lib.hid (vz_step H9.out hb10)
  have HV9 := Lib.hid hV9
  have hmn : min (n : Int) ((n : Int) + k) = n := by omega
  have hc9I : (n : Int) + k ≤ c9 := by omega
  have hc9J : (n : Int) ≤ c9 := by omega
  clear hb10 hV9
  go_wp2_with fail
  refine (HS1.out _ _ _ H10.out HV9.out).mono ?_
  rintro e w11 ⟨rfl, hb11⟩
  have H11 := Lib.hid (vz_step H10.out hb11)
  have HV11 := Lib.hid (vals_step HV9.out hb11)
  have hmx : (n : Int) + k - n = k := by omega
  have hmt : ((n : Int) + k).toNat = n + k := by omega
  have hmu : ((n : Int) + k - n).toNat = k := by omega
  have hmz : (n : Int) ≤ (n : Int) + k := by omega
  have HD := Lib.hid (show (la ++ lb).drop n = lb by rw [HN.out.1, List.drop_left])
  clear hb11
  go_wp2_with fail
  all_goals
    first
      | refine (HS2.out _ _ _ H11.out (.inl (List.eq_nil_of_length_eq_zero (by have := HN.out.2; omega)))).mono ?_
      | refine (HS2.out _ _ _ H11.out (by have h := vals_dropm (n := n) HV11.out; rw [HD.out] at h; exact h)).mono ?_
    rintro e w12 ⟨rfl, hb12⟩
    have H12 := Lib.hid (vz_step H11.out hb12)
    clear hb12 hmn hc9I hc9J hmx hmt hmu hmz hcap9
    by_cases hn0 : n = 0
    · have q0 : (n : Int) ≤ 0 := by omega
      clear hn0
      go_wp2_with fail
      refine (HTP.out _ H12.out.2.2).mono ?_
      rintro e w13 ⟨A3, n3, c3, er, T, rfl, hb13, hcase, hput⟩
      have HB13 := Lib.hid (bj H12.out.2.2 hb13)
      have HPT := Lib.hid hput
      clear hb13 hput
      rcases hcase with ⟨rfl, rfl⟩ | ⟨rfl, rfl⟩
      all_goals
        go_wp2_with fail
        refine (HPT.out).mono ?_
        rintro e w14 ⟨rfl, hb14⟩
        go_wp2
        go_ret
        exact ⟨rfl, bj HB13.out hb14⟩
    · have q0 : (0 : Int) < n := by omega
      obtain ⟨x, r, hla⟩ : ∃ x r, la = x :: r := by
        have := HN.out.1
        cases la with
        | nil => simp at this; omega
        | cons x r => exact ⟨x, r, rfl⟩
      obtain ⟨b, o, rfl, hbl, hcs⟩ := vals_get H12.out.1 (by rw [hla]; simp)
      obtain ⟨c0, c1', c2'⟩ := hcs 0 x (by rw [hla]; rfl)
      simp only [Nat.zero_mul, Nat.add_zero] at c0 c1' c2'
      have hp1 := HP1.out x r hla
      have hf1 := HFI.out x r hla
      generalize bstr (oneK x) = Z at *
      obtain ⟨p, q, y⟩ := x
      simp only at c0 c1' c2'
      have HP1' := Lib.hid hp1
      have HF1' := Lib.hid hf1
      clear hp1 hf1 hcs hla hn0
      go_wp2_with fail
      refine (HP1'.out _ _ (H12.out.2.2.alloc H12.out.2.2.size _) (blk_new _ _ _ _ rfl)).mono ?_
      rintro e w15 ⟨rfl, hb15⟩
      have H15 := Lib.hid (vz_of H0.out (bja _ H12.out.2.2 hb15))
      clear hb15
      go_wp2_with fail
      refine (HF1'.out _).mono ?_
      rintro e w16 ⟨rfl, hb16⟩
      have H16 := Lib.hid (vz_step H15.out hb16)
      clear hb16
      go_wp2_with fail
      refine (HTP.out _ H16.out.2.2).mono ?_
      rintro e w13 ⟨A3, n3, c3, er, T, rfl, hb13, hcase, hput⟩
      have HB13 := Lib.hid (bj H16.out.2.2 hb13)
      have HPT := Lib.hid hput
      clear hb13 hput
      rcases hcase with ⟨rfl, rfl⟩ | ⟨rfl, rfl⟩
      all_goals
        go_wp2_with fail
        refine (HPT.out).mono ?_
        rintro e w14 ⟨rfl, hb14⟩
        go_wp2
        go_ret
        exact ⟨rfl, bj HB13.out hb14⟩
theorem eq0_no {E : Int} (h : E ≠ 0) : (E == 0) = false := by rw [beq_eq_false_iff_ne]; exact h
set_option maxRecDepth 100000 in
set_option maxHeartbeats 8000000 in
theorem keyBack_walk (A : Option Addr) (la : List Val) (n c : Nat) (C : Option Addr) (lb : List Val) (k d : Nat) (s : ByteArray) (hn : n = la.length) (hm : n ≤ maxLen) (hf : ∀ x ∈ la, Fits x) (hn' : k = lb.length) (hm' : k ≤ maxLen) (hf' : ∀ x ∈ lb, Fits x) (hs : s.size ≤ 140737488351232) (w : World) (hV : Vals w w.heap.size A la) (hV' : Vals w w.heap.size C lb) (m : Int) (hc0 : w.cell? ⟨0, 0, none⟩ = some (.int .i64 m)) :
    Calls Tryd.prog 7 #[.slice A n c, .slice C k d, .string s] w fun e w' => e = .returned (.bool true) ∧ Below w.heap.size w w' := by
  have hlt0 := lt_of_cell hc0
  have hM : ∀ W, Below w.heap.size w W → W.cell? ⟨0, 0, none⟩ = some (.int .i64 m) := fun W hb => (hb.cell (p := ⟨0, 0, none⟩) hlt0).trans hc0
  have hga := fun W (h : Vz w A la C lb W) => great_any A la n c W h.1 hn hm
  have hgb := fun W (h : Vz w A la C lb W) => great_any C lb k d W h.2.1 hn' hm'
  have hwk := fun W (h : Vz w A la C lb W) => works_any m W (hM W h.2.2)
  have H0 : Hid (Vz w A la C lb w) := Lib.hid ⟨hV, hV', Below.refl _ _⟩
  have HWK := Lib.hid hwk
  cases hga' : greatB la
  · cases hgb' : greatB lb
    · rw [hga'] at hga
      rw [hgb'] at hgb
      have HGA := Lib.hid hga
      have HGB := Lib.hid hgb
      have hl : n ≤ 60 := by have := great_len hga'; omega
      have hl' : k ≤ 60 := by have := great_len hgb'; omega
      by_cases hbig : 8192 < s.size
      · have HLS := Lib.hid (fun W => (long_any s W).mono (R' := fun e w' => e = .returned (.bool true) ∧ W = w') fun e w' he => ⟨by rw [he.1, decide_eq_true hbig], he.2.symm⟩)
        clear hga hgb hwk hga' hgb' hM hlt0 hc0 hV hV' hm hm' hn hn' hf hf' hl hl' hs hbig
        go_enter Tryd.func7, Tryd.ntmps7
        go_wp2_with fail
        refine (HWK.out _ H0.out).mono ?_
        rintro e w1 ⟨rfl, hb1⟩
        have h1 := vz_step H0.out hb1
        clear hb1
        go_wp2_with fail
        refine (HGA.out _ h1).mono ?_
        rintro e w2 ⟨rfl, hb2⟩
        replace h1 := vz_step h1 hb2
        clear hb2
        go_wp2_with fail
        refine (HGB.out _ h1).mono ?_
        rintro e w3 ⟨rfl, hb3⟩
        replace h1 := vz_step h1 hb3
        clear hb3
        go_wp2_with fail
        refine (HLS.out _).mono ?_
        rintro e w4 ⟨rfl, rfl⟩
        replace h1 := Lib.hid h1
        go_wp2
        go_ret
        exact ⟨rfl, h1.out.2.2⟩
      · have hpa := fun W (h : Vz w A la C lb W) => kput_row A la n c m W h.1 hn (by omega) hf (hM W h.2.2)
        have hpb := fun W (h : Vz w A la C lb W) => kput_row C lb k d m W h.2.1 hn' (by omega) hf' (hM W h.2.2)
        have HTP := Lib.hid (fun W (hb : Below w.heap.size w W) => ktake_put s (by omega) m W (hM W hb))
        have HLS := Lib.hid (fun W => (long_any s W).mono (R' := fun e w' => e = .returned (.bool false) ∧ W = w') fun e w' he => ⟨by rw [he.1, decide_eq_false hbig], he.2.symm⟩)
        have hcA := kputS_cases la
        have hcB := kputS_cases lb
        rcases hcA with ⟨ca, ea⟩ | ⟨E, hE, ea⟩
        · rcases hcB with ⟨cb, eb⟩ | ⟨F, hF, eb⟩
          · exact keyBack_main A la n c C lb k d s hn hl hf ca hn' hl' hf' cb (by omega) w hV hV' m hc0 HWK HGA HGB
          · have hFe := eq0_no hF
            rw [ea] at hpa
            rw [eb] at hpb
            generalize bstr (keyL la) = X at *
            have HPA := Lib.hid hpa
            have HPB := Lib.hid hpb
            clear hpa hpb ca ea eb hF hga hgb hwk hga' hgb' hM hlt0 hc0 hV hV' hm hm' hn hn' hf hf' hl hl' hs hbig
            go_enter Tryd.func7, Tryd.ntmps7
            go_wp2_with fail
            refine (HWK.out _ H0.out).mono ?_
            rintro e w1 ⟨rfl, hb1⟩
            have h1 := vz_step H0.out hb1
            clear hb1
            go_wp2_with fail
            refine (HGA.out _ h1).mono ?_
            rintro e w2 ⟨rfl, hb2⟩
            replace h1 := vz_step h1 hb2
            clear hb2
            go_wp2_with fail
            refine (HGB.out _ h1).mono ?_
            rintro e w3 ⟨rfl, hb3⟩
            replace h1 := vz_step h1 hb3
            clear hb3
            go_wp2_with fail
            refine (HLS.out _).mono ?_
            rintro e w4 ⟨rfl, rfl⟩
            go_wp2_with fail
            refine (HPA.out _ h1).mono ?_
            rintro e w5 ⟨rfl, hb5⟩
            replace h1 := vz_step h1 hb5
            clear hb5
            go_wp2_with fail
            refine (HPB.out _ h1).mono ?_
            rintro e w6 ⟨rfl, hb6⟩
            replace h1 := vz_step h1 hb6
            clear hb6
            replace h1 := Lib.hid h1
            go_wp2_with fail
            refine (HTP.out _ h1.out.2.2).mono ?_
            rintro e w13 ⟨A3, n3, c3, er, T, rfl, hb13, hcase, hput⟩
            have HB13 := Lib.hid (bj h1.out.2.2 hb13)
            have HPT := Lib.hid hput
            clear hb13 hput
            rcases hcase with ⟨rfl, rfl⟩ | ⟨rfl, rfl⟩
            all_goals
              go_wp2_with fail
              refine (HPT.out).mono ?_
              rintro e w14 ⟨rfl, hb14⟩
              go_wp2
              go_ret
              exact ⟨rfl, bj HB13.out hb14⟩
        · have hEe := eq0_no hE
          rw [ea] at hpa
          generalize kputS lb = P at *
          obtain ⟨PX, PE⟩ := P
          simp only at hpb
          have HPA := Lib.hid hpa
          have HPB := Lib.hid hpb
          clear hpa hpb ea hcB hE hga hgb hwk hga' hgb' hM hlt0 hc0 hV hV' hm hm' hn hn' hf hf' hl hl' hs hbig
          go_enter Tryd.func7, Tryd.ntmps7
          go_wp2_with fail
          refine (HWK.out _ H0.out).mono ?_
          rintro e w1 ⟨rfl, hb1⟩
          have h1 := vz_step H0.out hb1
          clear hb1
          go_wp2_with fail
          refine (HGA.out _ h1).mono ?_
          rintro e w2 ⟨rfl, hb2⟩
          replace h1 := vz_step h1 hb2
          clear hb2
          go_wp2_with fail
          refine (HGB.out _ h1).mono ?_
          rintro e w3 ⟨rfl, hb3⟩
          replace h1 := vz_step h1 hb3
          clear hb3
          go_wp2_with fail
          refine (HLS.out _).mono ?_
          rintro e w4 ⟨rfl, rfl⟩
          go_wp2_with fail
          refine (HPA.out _ h1).mono ?_
          rintro e w5 ⟨rfl, hb5⟩
          replace h1 := vz_step h1 hb5
          clear hb5
          go_wp2_with fail
          refine (HPB.out _ h1).mono ?_
          rintro e w6 ⟨rfl, hb6⟩
          replace h1 := vz_step h1 hb6
          clear hb6
          replace h1 := Lib.hid h1
          go_wp2_with fail
          refine (HTP.out _ h1.out.2.2).mono ?_
          rintro e w13 ⟨A3, n3, c3, er, T, rfl, hb13, hcase, hput⟩
          have HB13 := Lib.hid (bj h1.out.2.2 hb13)
          have HPT := Lib.hid hput
          clear hb13 hput
          rcases hcase with ⟨rfl, rfl⟩ | ⟨rfl, rfl⟩
          all_goals
            go_wp2_with fail
            refine (HPT.out).mono ?_
            rintro e w14 ⟨rfl, hb14⟩
            go_wp2
            go_ret
            exact ⟨rfl, bj HB13.out hb14⟩
    · rw [hga'] at hga
      rw [hgb'] at hgb
      have HGA := Lib.hid hga
      have HGB := Lib.hid hgb
      clear hga hgb hwk hga' hgb' hM hlt0 hc0 hV hV' hm hm' hn hn' hf hf' hs
      go_enter Tryd.func7, Tryd.ntmps7
      go_wp2_with fail
      refine (HWK.out _ H0.out).mono ?_
      rintro e w1 ⟨rfl, hb1⟩
      have h1 := vz_step H0.out hb1
      clear hb1
      go_wp2_with fail
      refine (HGA.out _ h1).mono ?_
      rintro e w2 ⟨rfl, hb2⟩
      replace h1 := vz_step h1 hb2
      clear hb2
      go_wp2_with fail
      refine (HGB.out _ h1).mono ?_
      rintro e w3 ⟨rfl, hb3⟩
      replace h1 := vz_step h1 hb3
      clear hb3
      replace h1 := Lib.hid h1
      go_wp2
      go_ret
      exact ⟨rfl, h1.out.2.2⟩
  · rw [hga'] at hga
    have HGA := Lib.hid hga
    clear hga hgb hwk hga' hM hlt0 hc0 hV hV' hm hm' hn hn' hf hf' hs
    go_enter Tryd.func7, Tryd.ntmps7
    go_wp2_with fail
    refine (HWK.out _ H0.out).mono ?_
    rintro e w1 ⟨rfl, hb1⟩
    have h1 := vz_step H0.out hb1
    clear hb1
    go_wp2_with fail
    refine (HGA.out _ h1).mono ?_
    rintro e w2 ⟨rfl, hb2⟩
    replace h1 := vz_step h1 hb2
    clear hb2
    replace h1 := Lib.hid h1
    go_wp2
    go_ret
    exact ⟨rfl, h1.out.2.2⟩
end Go.Proofs.YtfdiopjmohhejaaDoor
