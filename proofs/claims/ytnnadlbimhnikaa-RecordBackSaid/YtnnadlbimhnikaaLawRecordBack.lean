/- The walk of RecordBack. Conditions: the numbers fit their kinds, the text is no longer than a machine has addresses. -/
import Derived.Test.YtnnadlbimhnikaaRecW
import Derived.Test.YtnnadlbimhnikaaRec5
namespace Go.Proofs.Ytnnadlbimhnikaa
open Go.RowKit
set_option linter.unusedVariables false
theorem putS_cases (l : List Val) : (chkR l = 0 ∧ (recL l).length ≤ 4000 ∧ putS l = (bstr (recL l), 0)) ∨ (∃ E, E ≠ 0 ∧ putS l = (⟨#[]⟩, E)) := by
  by_cases hc : chkR l = 0
  · by_cases h4 : 4000 < (recL l).length
    · exact .inr ⟨3, by omega, putS_long hc h4⟩
    · exact .inl ⟨hc, by omega, putS_ok hc (by omega)⟩
  · exact .inr ⟨_, hc, putS_bad hc⟩
theorem hp_iff (s p : ByteArray) : Lib.hasPrefix s.data.toList p.data.toList = true → ∃ more, bts s = bts p ++ more := by
  intro h
  have h2 : p.data.toList <+: s.data.toList := List.isPrefixOf_iff_prefix.1 h
  obtain ⟨t, ht⟩ := h2
  exact ⟨t.map UInt8.toNat, by unfold bts; rw [← ht, List.map_append]⟩
def Vz (w : World) (A : Option Addr) (l : List Val) (C : Option Addr) (m : List Val) (W : World) : Prop := Vals W W.heap.size A l ∧ Vals W W.heap.size C m ∧ Below w.heap.size w W
theorem vz_step {w W W' : World} {A C : Option Addr} {l m : List Val} (h : Vz w A l C m W) (hb : Below W.heap.size W W') : Vz w A l C m W' := ⟨vals_step h.1 hb, vals_step h.2.1 hb, bj h.2.2 hb⟩
/-- what Take makes of a text, and Put of that -/
theorem take_put (s : ByteArray) (w : World) : Calls Try.prog 9 #[.string s] w fun e w' => ∃ (A : Option Addr) (n c : Nat) (er : Int) (T : ByteArray),
    e = .returned (.tuple #[.slice A n c, .int .i64 er]) ∧ Below w.heap.size w w' ∧ (er = 0 ∧ T = s ∨ er = 7 ∧ n = 0) ∧
    Calls Try.prog 8 #[.slice A n c] w' fun e w2 => e = .returned (.tuple #[.string T, .int .i64 0]) ∧ Below w'.heap.size w' w2 := by
  refine (rtake_any s w).mono ?_
  rintro e w' ⟨A, n, c, er, l, rfl, hV, hn, h16, hf, hb, hh⟩
  have hp := put_row A l n c w' hV hn hf
  rcases hh with ⟨h, rfl, rfl⟩ | ⟨h, rfl⟩
  · refine ⟨A, n, c, 7, (putS []).1, rfl, hb, .inr ⟨rfl, hn⟩, ?_⟩
    exact hp
  · obtain ⟨h1, h2, h3, h4⟩ := takeR_some (bts_lt s) h
    rw [putS_ok h2 (by rw [h1]; exact h3), h1, bstr_bts] at hp
    exact ⟨A, n, c, 0, s, rfl, hb, .inl ⟨rfl, rfl⟩, hp⟩
/-- a record that was put is taken as the row that it was -/
theorem take_back (l : List Val) (A : Option Addr) (n c : Nat) (w : World) (hn : n = l.length) (hm : n ≤ maxLen) (hf : ∀ x ∈ l, Fits x) (hc : chkR l = 0) (h4 : (recL l).length ≤ 4000) : Calls Try.prog 9 #[.string (bstr (recL l))] w fun e w' => ∃ (A' : Option Addr) (n' c' : Nat),
    e = .returned (.tuple #[.slice A' n' c', .int .i64 0]) ∧ Below w.heap.size w w' ∧ (Vals w' w'.heap.size A l →
    Calls Try.prog 19 #[.slice A' n' c', .slice A n c] w' fun e w2 => e = .returned (.bool true) ∧ Below w'.heap.size w' w2) := by
  refine (rtake_any _ w).mono ?_
  rintro e w' ⟨A', n', c', er, l', rfl, hV, hn', h16, hf', hb, hh⟩
  rw [bts_bstr _ (recL_lt l (by have := chkR_len hc; omega)), takeR_put l hf hc h4] at hh
  rcases hh with ⟨h, _⟩ | ⟨h, rfl⟩
  · cases h
  · injection h with h
    subst h
    exact ⟨A', n', c', rfl, hb, fun hA => same_any A' A l l n' c' n c true w' hV hA hn' hn (by unfold maxLen; omega) hm (by simp)⟩
set_option maxRecDepth 100000 in
set_option maxHeartbeats 8000000 in
theorem recordBack_walk (A : Option Addr) (la : List Val) (n c : Nat) (C : Option Addr) (lb : List Val) (m d : Nat) (s : ByteArray) (hn : n = la.length) (hm : n ≤ maxLen) (hf : ∀ x ∈ la, Fits x) (hn' : m = lb.length) (hm' : m ≤ maxLen) (hf' : ∀ x ∈ lb, Fits x) (hs : s.size ≤ 140737488351232) (w : World) (hV : Vals w w.heap.size A la) (hV' : Vals w w.heap.size C lb) :
    Calls Try.prog 6 #[.slice A n c, .slice C m d, .string s] w fun e w' => e = .returned (.bool true) ∧ Below w.heap.size w w' := by
  have hga := fun W (h : Vz w A la C lb W) => great_any A la n c W h.1 hn hm
  have hgb := fun W (h : Vz w A la C lb W) => great_any C lb m d W h.2.1 hn' hm'
  have hpa := fun W (h : Vz w A la C lb W) => put_row A la n c W h.1 hn hf
  have hpb := fun W (h : Vz w A la C lb W) => put_row C lb m d W h.2.1 hn' hf'
  have htb := fun W => take_back la A n c W hn hm hf
  have htp := fun W => take_put s W
  have hcA := putS_cases la
  have hcB := putS_cases lb
  have hpre := fun (h1 : chkR la = 0) (h2 : chkR lb = 0) (more : List Nat) => rec_prefix (more := more) hf hf' h1 h2
  have la16 := fun (h : chkR la = 0) => recL_lt la (by have := chkR_len h; omega)
  have lb16 := fun (h : chkR lb = 0) => recL_lt lb (by have := chkR_len h; omega)
  have H0 : Hid (Vz w A la C lb w) := Lib.hid ⟨hV, hV', Below.refl _ _⟩
  generalize hga' : greatB la = ga at *
  generalize hgb' : greatB lb = gb at *
  have HGA := Lib.hid hga
  have HGB := Lib.hid hgb
  have HTP := Lib.hid htp
  clear hga hgb htp hV hV' hga' hgb' hn hm hf hn' hm' hf'
  cases ga
  · cases gb
    · by_cases hbig : (8192 : Int) < s.size
      · clear hpa hpb htb hcA hcB hpre la16 lb16 hs
        go_enter Try.func6, Try.ntmps6
        go_wp2_with fail
        refine (works_any _).mono ?_
        rintro e w1 ⟨rfl, hb1⟩
        have h1 := vz_step H0.out hb1
        clear hb1
        go_wp2_with fail
        refine (HGA.out _ h1).mono ?_
        rintro e w2 ⟨rfl, hb2⟩
        replace h1 := vz_step h1 hb2
        clear hb2
        go_wp2_with fail
        refine (HGB.out _ h1).mono ?_
        rintro e w3 ⟨rfl, hb3⟩
        replace h1 := vz_step h1 hb3
        clear hb3
        go_wp2
        go_ret
        exact ⟨rfl, h1.2.2⟩
      · have hsI : (s.size : Int) ≤ 8192 := by omega
        clear hbig hs
        rcases hcA with ⟨a1, a2, a3⟩ | ⟨E, a1, a2⟩
        · rw [a3] at hpa
          have HPA := Lib.hid hpa
          have HTB := Lib.hid (fun W => htb W a1 a2)
          rcases hcB with ⟨b1, b2, b3⟩ | ⟨F, b1, b2⟩
          · rw [b3] at hpb
            have HPB := Lib.hid hpb
            have hhp := fun W => Try.strings_HasPrefix (bstr (recL lb)) (bstr (recL la)) W
            have hHP := fun W => (hhp W).mono (R' := fun e w' => e = .returned (.bool (Lib.hasPrefix (bstr (recL lb)).data.toList (bstr (recL la)).data.toList)) ∧ W = w') fun e w' he => ⟨he.1, he.2.symm⟩
            have himp : Lib.hasPrefix (bstr (recL lb)).data.toList (bstr (recL la)).data.toList = true → bstr (recL la) = bstr (recL lb) := fun h => by
              obtain ⟨more, hm⟩ := hp_iff _ _ h
              rw [bts_bstr _ (la16 a1), bts_bstr _ (lb16 b1)] at hm
              have h0 := hpre a1 b1 more hm
              rw [h0, List.append_nil] at hm
              rw [hm]
            generalize bstr (recL la) = X at *
            generalize bstr (recL lb) = Y at *
            generalize Lib.hasPrefix Y.data.toList X.data.toList = hp at *
            have HHP := Lib.hid hHP
            clear hpa hpb htb hpre la16 lb16 a1 a2 a3 b1 b2 b3 hhp hHP
            cases hp
            · clear himp
              go_enter Try.func6, Try.ntmps6
              go_wp2_with fail
              refine (works_any _).mono ?_
              rintro e w1 ⟨rfl, hb1⟩
              have h1 := vz_step H0.out hb1
              clear hb1
              go_wp2_with fail
              refine (HGA.out _ h1).mono ?_
              rintro e w2 ⟨rfl, hb2⟩
              replace h1 := vz_step h1 hb2
              clear hb2
              go_wp2_with fail
              refine (HGB.out _ h1).mono ?_
              rintro e w3 ⟨rfl, hb3⟩
              replace h1 := vz_step h1 hb3
              clear hb3
              go_wp2_with fail
              refine (HPA.out _ h1).mono ?_
              rintro e w4 ⟨rfl, hb4⟩
              replace h1 := vz_step h1 hb4
              clear hb4
              go_wp2_with fail
              refine (HPB.out _ h1).mono ?_
              rintro e w5 ⟨rfl, hb5⟩
              replace h1 := vz_step h1 hb5
              clear hb5
              go_wp2_with fail
              refine (HTB.out _).mono ?_
              rintro e w6 ⟨A', n', c', rfl, hb6, hsm⟩
              replace h1 := vz_step h1 hb6
              have HSM := Lib.hid (hsm h1.1)
              clear hb6 hsm
              go_wp2_with fail
              refine (HSM.out).mono ?_
              rintro e w7 ⟨rfl, hb7⟩
              replace h1 := vz_step h1 hb7
              clear hb7 HSM
              go_wp2_with fail
              refine (HHP.out _).mono ?_
              rintro e w8 ⟨rfl, rfl⟩
              go_wp2_with fail
              refine (HTP.out _).mono ?_
              rintro e w9 ⟨A9, n9, c9, er, T, rfl, hb9, hcase, hpc⟩
              replace h1 := vz_step h1 hb9
              have HPC := Lib.hid hpc
              have HZ := Lib.hid h1.2.2
              clear hb9 hpc h1
              rcases hcase with ⟨rfl, rfl⟩ | ⟨rfl, rfl⟩
              all_goals
                go_wp2_with fail
                refine (HPC.out).mono ?_
                rintro e w10 ⟨rfl, hb10⟩
                go_wp2
                go_ret
                exact ⟨rfl, bj HZ.out hb10⟩
            · obtain rfl := himp rfl
              clear himp
              go_enter Try.func6, Try.ntmps6
              go_wp2_with fail
              refine (works_any _).mono ?_
              rintro e w1 ⟨rfl, hb1⟩
              have h1 := vz_step H0.out hb1
              clear hb1
              go_wp2_with fail
              refine (HGA.out _ h1).mono ?_
              rintro e w2 ⟨rfl, hb2⟩
              replace h1 := vz_step h1 hb2
              clear hb2
              go_wp2_with fail
              refine (HGB.out _ h1).mono ?_
              rintro e w3 ⟨rfl, hb3⟩
              replace h1 := vz_step h1 hb3
              clear hb3
              go_wp2_with fail
              refine (HPA.out _ h1).mono ?_
              rintro e w4 ⟨rfl, hb4⟩
              replace h1 := vz_step h1 hb4
              clear hb4
              go_wp2_with fail
              refine (HPB.out _ h1).mono ?_
              rintro e w5 ⟨rfl, hb5⟩
              replace h1 := vz_step h1 hb5
              clear hb5
              go_wp2_with fail
              refine (HTB.out _).mono ?_
              rintro e w6 ⟨A', n', c', rfl, hb6, hsm⟩
              replace h1 := vz_step h1 hb6
              have HSM := Lib.hid (hsm h1.1)
              clear hb6 hsm
              go_wp2_with fail
              refine (HSM.out).mono ?_
              rintro e w7 ⟨rfl, hb7⟩
              replace h1 := vz_step h1 hb7
              clear hb7 HSM
              go_wp2_with fail
              refine (HHP.out _).mono ?_
              rintro e w8 ⟨rfl, rfl⟩
              go_wp2_with fail
              refine (HTP.out _).mono ?_
              rintro e w9 ⟨A9, n9, c9, er, T, rfl, hb9, hcase, hpc⟩
              replace h1 := vz_step h1 hb9
              have HPC := Lib.hid hpc
              have HZ := Lib.hid h1.2.2
              clear hb9 hpc h1
              rcases hcase with ⟨rfl, rfl⟩ | ⟨rfl, rfl⟩
              all_goals
                go_wp2_with fail
                refine (HPC.out).mono ?_
                rintro e w10 ⟨rfl, hb10⟩
                go_wp2
                go_ret
                exact ⟨rfl, bj HZ.out hb10⟩
          · rw [b2] at hpb
            have HPB := Lib.hid hpb
            have e1 : (F == 0) = false := by rw [beq_eq_false_iff_ne]; exact b1
            generalize bstr (recL la) = X at *
            clear hpa hpb htb hpre la16 lb16 a1 a2 a3 b1 b2
            go_enter Try.func6, Try.ntmps6
            go_wp2_with fail
            refine (works_any _).mono ?_
            rintro e w1 ⟨rfl, hb1⟩
            have h1 := vz_step H0.out hb1
            clear hb1
            go_wp2_with fail
            refine (HGA.out _ h1).mono ?_
            rintro e w2 ⟨rfl, hb2⟩
            replace h1 := vz_step h1 hb2
            clear hb2
            go_wp2_with fail
            refine (HGB.out _ h1).mono ?_
            rintro e w3 ⟨rfl, hb3⟩
            replace h1 := vz_step h1 hb3
            clear hb3
            go_wp2_with fail
            refine (HPA.out _ h1).mono ?_
            rintro e w4 ⟨rfl, hb4⟩
            replace h1 := vz_step h1 hb4
            clear hb4
            go_wp2_with fail
            refine (HPB.out _ h1).mono ?_
            rintro e w5 ⟨rfl, hb5⟩
            replace h1 := vz_step h1 hb5
            clear hb5
            go_wp2_with fail
            refine (HTB.out _).mono ?_
            rintro e w6 ⟨A', n', c', rfl, hb6, hsm⟩
            replace h1 := vz_step h1 hb6
            have HSM := Lib.hid (hsm h1.1)
            clear hb6 hsm
            go_wp2_with fail
            refine (HSM.out).mono ?_
            rintro e w7 ⟨rfl, hb7⟩
            replace h1 := vz_step h1 hb7
            clear hb7 HSM
            go_wp2_with fail
            refine (HTP.out _).mono ?_
            rintro e w9 ⟨A9, n9, c9, er, T, rfl, hb9, hcase, hpc⟩
            replace h1 := vz_step h1 hb9
            have HPC := Lib.hid hpc
            have HZ := Lib.hid h1.2.2
            clear hb9 hpc h1
            rcases hcase with ⟨rfl, rfl⟩ | ⟨rfl, rfl⟩
            all_goals
              go_wp2_with fail
              refine (HPC.out).mono ?_
              rintro e w10 ⟨rfl, hb10⟩
              go_wp2
              go_ret
              exact ⟨rfl, bj HZ.out hb10⟩
        · rw [a2] at hpa
          have HPA := Lib.hid hpa
          have HPB := Lib.hid hpb
          have e1 : (E == 0) = false := by rw [beq_eq_false_iff_ne]; exact a1
          generalize putS lb = PB at *
          obtain ⟨Y, F⟩ := PB
          simp only at HPB
          clear hpa hpb htb hpre la16 lb16 a1 a2 hcB
          go_enter Try.func6, Try.ntmps6
          go_wp2_with fail
          refine (works_any _).mono ?_
          rintro e w1 ⟨rfl, hb1⟩
          have h1 := vz_step H0.out hb1
          clear hb1
          go_wp2_with fail
          refine (HGA.out _ h1).mono ?_
          rintro e w2 ⟨rfl, hb2⟩
          replace h1 := vz_step h1 hb2
          clear hb2
          go_wp2_with fail
          refine (HGB.out _ h1).mono ?_
          rintro e w3 ⟨rfl, hb3⟩
          replace h1 := vz_step h1 hb3
          clear hb3
          go_wp2_with fail
          refine (HPA.out _ h1).mono ?_
          rintro e w4 ⟨rfl, hb4⟩
          replace h1 := vz_step h1 hb4
          clear hb4
          go_wp2_with fail
          refine (HPB.out _ h1).mono ?_
          rintro e w5 ⟨rfl, hb5⟩
          replace h1 := vz_step h1 hb5
          clear hb5
          go_wp2_with fail
          refine (HTP.out _).mono ?_
          rintro e w9 ⟨A9, n9, c9, er, T, rfl, hb9, hcase, hpc⟩
          replace h1 := vz_step h1 hb9
          have HPC := Lib.hid hpc
          have HZ := Lib.hid h1.2.2
          clear hb9 hpc h1
          rcases hcase with ⟨rfl, rfl⟩ | ⟨rfl, rfl⟩
          all_goals
            go_wp2_with fail
            refine (HPC.out).mono ?_
            rintro e w10 ⟨rfl, hb10⟩
            go_wp2
            go_ret
            exact ⟨rfl, bj HZ.out hb10⟩
    · clear hpa hpb htb hcA hcB hpre la16 lb16 hs
      go_enter Try.func6, Try.ntmps6
      go_wp2_with fail
      refine (works_any _).mono ?_
      rintro e w1 ⟨rfl, hb1⟩
      have h1 := vz_step H0.out hb1
      clear hb1
      go_wp2_with fail
      refine (HGA.out _ h1).mono ?_
      rintro e w2 ⟨rfl, hb2⟩
      replace h1 := vz_step h1 hb2
      clear hb2
      go_wp2_with fail
      refine (HGB.out _ h1).mono ?_
      rintro e w3 ⟨rfl, hb3⟩
      replace h1 := vz_step h1 hb3
      clear hb3
      go_wp2
      go_ret
      exact ⟨rfl, h1.2.2⟩
  · clear hpa hpb htb hcA hcB hpre la16 lb16 hs
    go_enter Try.func6, Try.ntmps6
    go_wp2_with fail
    refine (works_any _).mono ?_
    rintro e w1 ⟨rfl, hb1⟩
    have h1 := vz_step H0.out hb1
    clear hb1
    go_wp2_with fail
    refine (HGA.out _ h1).mono ?_
    rintro e w2 ⟨rfl, hb2⟩
    replace h1 := vz_step h1 hb2
    clear hb2
    go_wp2
    go_ret
    exact ⟨rfl, h1.2.2⟩
end Go.Proofs.Ytnnadlbimhnikaa
