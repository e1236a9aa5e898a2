/- The walk of NetTells. Conditions: the script fits its kinds. -/
import Derived.Test.YtndlcjpkpkfcpaaNt10
namespace Go.Proofs.Ytndlcjpkpkfcpaa
open Go.RowKit Go Go.Maps
set_option linter.unusedVariables false
set_option linter.unusedSimpArgs false
theorem beq_noI {a b : Int} (h : a ≠ b) : (a == b) = false := by simp [h]
theorem opsl_step {w W : World} {A : Option Addr} {l : List Opx} (h : Opsl w w.heap.size A l) (hb : Below w.heap.size w W) : Opsl W W.heap.size A l := by
  rcases h with h | ⟨b, o, hA, hlt, hc⟩
  · exact .inl h
  · refine .inr ⟨b, o, hA, Nat.lt_of_lt_of_le hlt hb.size, fun j x hx => ?_⟩
    obtain ⟨h0, h1, h2, h3, h4⟩ := hc j x hx
    exact ⟨(hb.cell (p := ⟨b, o + j * 5, none⟩) hlt).trans h0, (hb.cell (p := ⟨b, o + j * 5 + 1, none⟩) hlt).trans h1, (hb.cell (p := ⟨b, o + j * 5 + 2, none⟩) hlt).trans h2, (hb.cell (p := ⟨b, o + j * 5 + 3, none⟩) hlt).trans h3, (hb.cell (p := ⟨b, o + j * 5 + 4, none⟩) hlt).trans h4⟩
set_option maxRecDepth 100000 in
set_option maxHeartbeats 16000000 in
theorem tells_heavy (A : Option Addr) (l : List Opx) (n c : Nat) (w : World) (hO : Opsl w w.heap.size A l) (hn : n = l.length) (hm : n ≤ maxLen) (hh : heavyB l = true) :
    Calls Try.prog 5 #[.slice A n c] w fun e w' => e = .returned (.bool true) ∧ Below w.heap.size w w' := by
  have HH := Lib.hid (fun (W : World) (hb : Below w.heap.size w W) => (by
    have h := heavy_any A l n c W (opsl_step hO hb) hn hm
    rw [hh] at h
    exact h : Calls Try.prog 15 #[.slice A n c] W fun e w' => e = .returned (.bool true) ∧ Below W.heap.size W w'))
  clear hO hn hm hh
  go_enter Try.func5, Try.ntmps5
  go_wp2_with fail
  refine (works25 _).mono ?_
  rintro e w1 ⟨rfl, hb1⟩
  go_wp2_with fail
  refine (HH.out _ hb1).mono ?_
  rintro e w2 ⟨rfl, hb2⟩
  have HB := Lib.hid (bj hb1 hb2)
  clear hb1 hb2
  go_wp2
  go_ret
  exact ⟨rfl, HB.out⟩
set_option maxRecDepth 100000 in
set_option maxHeartbeats 16000000 in
theorem tells_empty (c : Nat) (A : Option Addr) (w : World) :
    Calls Try.prog 5 #[.slice A 0 c] w fun e w' => e = .returned (.bool true) ∧ Below w.heap.size w w' := by
  have hO : Opsl w w.heap.size A [] := .inl rfl
  have hn : 0 = ([] : List Opx).length := rfl
  have hm : 0 ≤ maxLen := Nat.zero_le _
  have hh : heavyB [] = false := rfl
  have HH := Lib.hid (fun (W : World) (hb : Below w.heap.size w W) => (by
    have h := heavy_any A [] 0 c W (opsl_step hO hb) hn hm
    rw [hh] at h
    exact h : Calls Try.prog 15 #[.slice A 0 c] W fun e w' => e = .returned (.bool false) ∧ Below W.heap.size W w'))
  clear hO hn hm hh
  go_enter Try.func5, Try.ntmps5
  go_wp2_with fail
  refine (works25 _).mono ?_
  rintro e w1 ⟨rfl, hb1⟩
  go_wp2_with fail
  refine (HH.out _ hb1).mono ?_
  rintro e w2 ⟨rfl, hb2⟩
  have HB := Lib.hid (bj hb1 hb2)
  clear hb1 hb2
  have hmm := @run_makeMap Try.prog
  go_wp2_with fail
  refine (new_any _).mono ?_
  rintro e w3 ⟨gn, gm, rfl, hn3, h1, h2, hb3⟩
  obtain ⟨gs, hgs⟩ : ∃ gs, w3.heap.size = gs := ⟨_, rfl⟩
  have HTS : Hid (Ts w gn gm gs [] 0 [] (w3.alloc (.map #[] 0))) := Lib.hid (by
    have hl1 := hn3.1.lt
    have hl2 := hn3.2.1.lt
    have hs2 := HB.out.size
    have hs3 := hb3.size
    refine ⟨net_step hn3 one_alloc, ?_, by omega, by omega, by omega, by omega, by omega, bj (bj HB.out hb3) one_alloc⟩
    rw [← hgs]
    exact World.ownsMap_made w3 Try.prog 3 heldR)
  have HI00 : Hid (Inv [] 0 [] 0) := Lib.hid ⟨by simp, rfl, rfl, by omega, by simp⟩
  clear hn3 h1 h2 hb3 HB HH
  go_wp2
  clear hmm hgs
  go_loopw [26] (fun i wr => i = .int .i64 0 ∧ Ts w gn gm gs [] 0 [] wr) (fun _ _ => 0)
  case atStart => exact ⟨rfl, HTS.out⟩
  case round =>
    obtain ⟨rfl, hts⟩ := hrel
    go_wp2
    go_ret
    exact ⟨rfl, hts.2.2.2.2.2.2.2⟩
set_option maxRecDepth 100000 in
set_option maxHeartbeats 16000000 in
theorem tells_main (l : List Opx) (b o n c : Nat) (w : World) (hO : Opsl w w.heap.size (some ⟨b, o, none⟩) l) (hn : n = l.length) (hn0 : 0 < n) (hm : n ≤ maxLen) (hh : heavyB l = false) (hF : ∀ x ∈ l, FitO x) :
    Calls Try.prog 5 #[.slice (some ⟨b, o, none⟩) n c] w fun e w' => e = .returned (.bool true) ∧ Below w.heap.size w w' := by
  have HH := Lib.hid (fun (W : World) (hb : Below w.heap.size w W) => (by
    have h := heavy_any (some ⟨b, o, none⟩) l n c W (opsl_step hO hb) hn hm
    rw [hh] at h
    exact h : Calls Try.prog 15 #[.slice (some ⟨b, o, none⟩) n c] W fun e w' => e = .returned (.bool false) ∧ Below W.heap.size W w'))
  obtain ⟨b', o', hA, hlt, hc⟩ := ops_get hO (fun e => by rw [e] at hn; simp at hn; omega)
  obtain ⟨rfl, rfl⟩ : b = b' ∧ o = o' := by simpa using hA
  have HC := Lib.hid hc
  have HN := Lib.hid hn
  have HF := Lib.hid hF
  have HL := Lib.hid (light hh)
  have HJ : Hid (n ≤ 300) := Lib.hid (by have := light hh; omega)
  clear hO hn hm hh hA hc hF hlt hn0
  go_enter Try.func5, Try.ntmps5
  go_wp2_with fail
  refine (works25 _).mono ?_
  rintro e w1 ⟨rfl, hb1⟩
  go_wp2_with fail
  refine (HH.out _ hb1).mono ?_
  rintro e w2 ⟨rfl, hb2⟩
  have HB := Lib.hid (bj hb1 hb2)
  clear hb1 hb2
  have hmm := @run_makeMap Try.prog
  go_wp2_with fail
  refine (new_any _).mono ?_
  rintro e w3 ⟨gn, gm, rfl, hn3, h1, h2, hb3⟩
  obtain ⟨gs, hgs⟩ : ∃ gs, w3.heap.size = gs := ⟨_, rfl⟩
  have HTS : Hid (Ts w gn gm gs [] 0 [] (w3.alloc (.map #[] 0))) := Lib.hid (by
    have hl1 := hn3.1.lt
    have hl2 := hn3.2.1.lt
    have hs2 := HB.out.size
    have hs3 := hb3.size
    refine ⟨net_step hn3 one_alloc, ?_, by omega, by omega, by omega, by omega, by omega, bj (bj HB.out hb3) one_alloc⟩
    rw [← hgs]
    exact World.ownsMap_made w3 Try.prog 3 heldR)
  have HI00 : Hid (Inv [] 0 [] 0) := Lib.hid ⟨by simp, rfl, rfl, by omega, by simp⟩
  clear hn3 h1 h2 hb3 HB HH
  go_wp2
  clear hmm hgs
  go_loopw [5, 26] (fun cm i wr => ∃ (j : Nat) (L : List Lt) (N : Int) (es : List (Int × Lt)) (came : Int), j ≤ n ∧ i = .int .i64 j ∧ cm = .int .i64 came ∧ N ≤ j ∧ Inv L N es came ∧ Ts w gn gm gs L N es wr) (fun _ i _ => n - (intOf i).toNat)
  case atStart => exact ⟨0, [], 0, [], 0, by omega, rfl, rfl, by omega, HI00.out, HTS.out⟩
  case round =>
    clear HTS HI00
    obtain ⟨j, L, N, es, came, hj, rfl, rfl, hnj, hinv, hts⟩ := hrel
    have HI0 := Lib.hid hinv
    have HTS := Lib.hid hts
    have HNJ0 := Lib.hid (show N ≤ (j : Int) ∧ (j : Int) ≤ n by omega)
    by_cases hjn : j < n
    · have hjl : j < l.length := by have := HN.out; omega
      obtain ⟨a0, a1, a2, a3, a4⟩ := HC.out _ HTS.out.2.2.2.2.2.2.2 j l[j] (List.getElem?_eq_getElem hjl)
      have hfit := HF.out l[j] (List.getElem_mem hjl)
      have HT0 := tb_new HTS.out l[j]
      generalize l[j] = xx at *
      obtain ⟨xk, xa, xb, xs, xy⟩ := xx
      simp only at a0 a1 a2 a3 a4
      have HXA := Lib.hid hfit.2.1
      have HXY := Lib.hid (show 0 ≤ xy ∧ xy < 256 from hfit.2.2.2)
      have HN0 : Hid (0 ≤ N) := Lib.hid HTS.out.1.2.2.2.2.2.2
      have HT := Lib.hid HT0
      have hjI : (j : Int) < n := by omega
      have hj3 : (j : Int) < 300 := by have := HJ.out; omega
      clear hinv hts hnj HT0 hfit
      obtain ⟨o0, o1, o2, o3, o4⟩ := cell5 HT.out.2.1
      by_cases hk0 : xk = 0
      · obtain rfl := hk0
        have HIL := Lib.hid (⟨by have := HI0.out.2.1; have := HNJ0.out.1; have := HNJ0.out.2; have := HJ.out; omega, fun x hx => by have := HI0.out.1 x hx; omega⟩ : es.length ≤ 1000 ∧ ∀ x ∈ es, x.1 < N + 1)
        by_cases hE : sendE xa xb xs = 0
        · by_cases hful : 64 ≤ L.length
          · go_wp2_with fail
            refine (send_ok xa xb xs gn gm L N _ HT.out.1.1 (by have := HNJ0.out.1; have := HNJ0.out.2; have := HJ.out; omega) hE 0 8 L N (if_pos hful) (if_pos hful) (if_pos hful) (if_pos hful)).mono ?_
            rintro e w3 ⟨rfl, hn3, hb3⟩
            have HT3 := Lib.hid (tb_but HT.out hn3 hb3)
            clear hn3 hb3 HT
            have HT := HT3
            clear HT3
            clear o0 o1 o2 o3 o4
            obtain ⟨o0, o1, o2, o3, o4⟩ := cell5 HT.out.2.1
            have hT := HT.out
            have hI := HI0.out
            have hNJ : N ≤ (j : Int) + 1 := by have := HNJ0.out.1; have := HNJ0.out.2; omega
            clear HT
            obtain ⟨L2, hL2⟩ : ∃ L2, L = L2 := ⟨_, rfl⟩
            obtain ⟨N2, hN2⟩ : ∃ N2 : Int, N = N2 := ⟨_, rfl⟩
            obtain ⟨es2, hes2⟩ : ∃ es2, es = es2 := ⟨_, rfl⟩
            rw [hL2, hN2, hes2] at hT hI
            rw [hN2] at hNJ
            have HT := Lib.hid hT
            have HI := Lib.hid hI
            have HNJ := Lib.hid hNJ
            clear hT hI hNJ
            clear hL2 hN2 hes2
            have hw2 : IntKind.i64.wrap (came + (L2.length : Int)) = (es2.length : Int) := by have h := HI.out; obtain ⟨_, g1, g2, _, _⟩ := h; have := HNJ.out; rw [IntKind.wrap_i64]; omega
            have hsz : Maps.size (mapE es2) = es2.length := mape_size es2
            go_wp2_with fail
            refine (flight_any gn gm L2 N2 _ HT.out.1.1 (by have := HNJ.out; omega)).mono ?_
            rintro e wf ⟨vf, rfl, hof, _, hbf⟩
            obtain ⟨Af, cf, rfl⟩ := own_form hof
            have HT2 := Lib.hid (tb_step HT.out hbf)
            clear hof hbf HT
            go_wp2_with (at_len; refine wpList_len_own _ rfl (.tmp 169) 46 rfl 3 31 Try.underlying46 heldR gs es2.length (mapE es2) rfl HT2.out.1.2.1 ?_)
            go_roundw
            case rel => exact ⟨j + 1, L2, N2, es2, came, by omega, by go_num, rfl, HNJ.out, HI.out, HT2.out.1⟩
            case measure => simp only [intOf]; omega
          · have HSZ := Lib.hid (send_size hE)
            go_wp2_with fail
            refine (send_ok xa xb xs gn gm L N _ HT.out.1.1 (by have := HNJ0.out.1; have := HNJ0.out.2; have := HJ.out; omega) hE (N + 1) 0 (L ++ [⟨N + 1, xa, xb, xs, false⟩]) (N + 1) (if_neg hful) (if_neg hful) (if_neg hful) (if_neg hful)).mono ?_
            rintro e w3 ⟨rfl, hn3, hb3⟩
            have HT3 := Lib.hid (tb_but HT.out hn3 hb3)
            clear hn3 hb3 HT
            have HT := HT3
            clear HT3
            clear o0 o1 o2 o3 o4
            obtain ⟨o0, o1, o2, o3, o4⟩ := cell5 HT.out.2.1
            obtain ⟨w4, hrun, hts, hgr⟩ := ts_put HT.out.1 (N + 1) ⟨0, xa, xb, xs, false⟩ (by have := HNJ0.out.1; have := HNJ0.out.2; have := HJ.out; have := HN0.out; unfold I64'; omega) HIL.out.2 HIL.out.1
            have hT : Tb w gn gm gs (L ++ [⟨N + 1, xa, xb, xs, false⟩]) (N + 1) (es ++ [(N + 1, ⟨0, xa, xb, xs, false⟩)]) wr.heap.size ⟨0, xa, xb, xs, xy⟩ w4 := ⟨hts, HT.out.2.1.grown hgr (fun e => HT.out.2.2.2.2 (Option.some.inj e)), HT.out.2.2⟩
            have hI := inv_new HI0.out ⟨N + 1, xa, xb, xs, false⟩ ⟨0, xa, xb, xs, false⟩ rfl HSZ.out ⟨rfl, rfl, rfl, diff_self _ _, fun _ => rfl⟩
            have hNJ : N + 1 ≤ (j : Int) + 1 := by have := HNJ0.out.1; have := HNJ0.out.2; omega
            clear hts hgr HT
            obtain ⟨L2, hL2⟩ : ∃ L2, L ++ [⟨N + 1, xa, xb, xs, false⟩] = L2 := ⟨_, rfl⟩
            obtain ⟨N2, hN2⟩ : ∃ N2 : Int, N + 1 = N2 := ⟨_, rfl⟩
            obtain ⟨es2, hes2⟩ : ∃ es2, es ++ [(N + 1, ⟨0, xa, xb, xs, false⟩)] = es2 := ⟨_, rfl⟩
            rw [hL2, hes2, hN2] at hT hI
            rw [hN2] at hNJ
            have HT := Lib.hid hT
            have HI := Lib.hid hI
            have HNJ := Lib.hid hNJ
            clear hT hI hNJ hL2 hN2 hes2
            have hw2 : IntKind.i64.wrap (came + (L2.length : Int)) = (es2.length : Int) := by have h := HI.out; obtain ⟨_, g1, g2, _, _⟩ := h; have := HNJ.out; rw [IntKind.wrap_i64]; omega
            have hsz : Maps.size (mapE es2) = es2.length := mape_size es2
            go_wp2_with fail
            refine (flight_any gn gm L2 N2 _ HT.out.1.1 (by have := HNJ.out; omega)).mono ?_
            rintro e wf ⟨vf, rfl, hof, _, hbf⟩
            obtain ⟨Af, cf, rfl⟩ := own_form hof
            have HT2 := Lib.hid (tb_step HT.out hbf)
            clear hof hbf HT
            go_wp2_with (at_len; refine wpList_len_own _ rfl (.tmp 169) 46 rfl 3 31 Try.underlying46 heldR gs es2.length (mapE es2) rfl HT2.out.1.2.1 ?_)
            go_roundw
            case rel => exact ⟨j + 1, L2, N2, es2, came, by omega, by go_num, rfl, HNJ.out, HI.out, HT2.out.1⟩
            case measure => simp only [intOf]; omega
        · obtain ⟨E, hEE⟩ : ∃ E, sendE xa xb xs = E := ⟨_, rfl⟩
          rw [hEE] at hE
          have hEb := beq_noI hE
          go_wp2_with fail
          refine (send_bad xa xb xs gn gm _ E hEE hE).mono ?_
          rintro e w3 ⟨rfl, rfl⟩
          have hT := HT.out
          have hI := HI0.out
          have hNJ : N ≤ (j : Int) + 1 := by have := HNJ0.out.1; have := HNJ0.out.2; omega
          clear HT
          obtain ⟨L2, hL2⟩ : ∃ L2, L = L2 := ⟨_, rfl⟩
          obtain ⟨N2, hN2⟩ : ∃ N2 : Int, N = N2 := ⟨_, rfl⟩
          obtain ⟨es2, hes2⟩ : ∃ es2, es = es2 := ⟨_, rfl⟩
          rw [hL2, hN2, hes2] at hT hI
          rw [hN2] at hNJ
          have HT := Lib.hid hT
          have HI := Lib.hid hI
          have HNJ := Lib.hid hNJ
          clear hT hI hNJ
          clear hL2 hN2 hes2
          have hw2 : IntKind.i64.wrap (came + (L2.length : Int)) = (es2.length : Int) := by have h := HI.out; obtain ⟨_, g1, g2, _, _⟩ := h; have := HNJ.out; rw [IntKind.wrap_i64]; omega
          have hsz : Maps.size (mapE es2) = es2.length := mape_size es2
          go_wp2_with fail
          refine (flight_any gn gm L2 N2 _ HT.out.1.1 (by have := HNJ.out; omega)).mono ?_
          rintro e wf ⟨vf, rfl, hof, _, hbf⟩
          obtain ⟨Af, cf, rfl⟩ := own_form hof
          have HT2 := Lib.hid (tb_step HT.out hbf)
          clear hof hbf HT
          go_wp2_with (at_len; refine wpList_len_own _ rfl (.tmp 169) 46 rfl 3 31 Try.underlying46 heldR gs es2.length (mapE es2) rfl HT2.out.1.2.1 ?_)
          go_roundw
          case rel => exact ⟨j + 1, L2, N2, es2, came, by omega, by go_num, rfl, HNJ.out, HI.out, HT2.out.1⟩
          case measure => simp only [intOf]; omega
      have hb0 := beq_noI hk0
      clear hk0
      by_cases hk1 : xk = 1
      · obtain rfl := hk1
        rcases Option.eq_none_or_eq_some (findL L xa) with hf | ⟨x, hf⟩
        · go_wp2_with fail
          refine (deliver_none xa gn gm L N _ HT.out.1.1 HXA.out hf).mono ?_
          rintro e w3 ⟨rfl, hb3⟩
          have HT3 := Lib.hid (ts_step (ts_step HT.out.1 hb3) (one_alloc (o := .cells (ltC zL) 31)))
          clear hb3 HT
          clear o0 o1 o2 o3 o4
          go_wp2
          go_roundw
          case rel => exact ⟨j + 1, L, N, es, came, by omega, by go_num, rfl, by have := HNJ0.out.1; have := HNJ0.out.2; omega, HI0.out, HT3.out⟩
          case measure => simp only [intOf]; omega
        · obtain ⟨o, hgo, hnr⟩ := (inv_find HI0.out hf).2
          have HSZ := Lib.hid (inv_find HI0.out hf).1
          have hxid := (find_id hf).1
          have HDR := Lib.hid (inv_drop HI0.out HT.out.1.1.2.2.2.1 ⟨x, (find_id hf).2, hxid⟩)
          obtain ⟨xi, lf, lt, lb, ls⟩ := x
          obtain ⟨oi, of_, ot, ob, os⟩ := o
          obtain ⟨rfl, rfl, hbs, hdf, hbe⟩ := hnr
          obtain rfl : xi = xa := hxid
          simp only at hbs hdf HSZ
          go_wp2_with fail
          refine (deliver_some xi gn gm L N _ HT.out.1.1 HXA.out ⟨xi, of_, ot, lb, ls⟩ hf).mono ?_
          rintro e w3 ⟨rfl, hn3, hb3⟩
          have hT3 := tb_step (tb_but HT.out hn3 hb3) (one_alloc (o := .cells (ltC ⟨xi, of_, ot, lb, ls⟩) 31))
          have hl3 := Blk.new w3 31 (ltC ⟨xi, of_, ot, lb, ls⟩)
          have hrun := lookE_ok hT3.1.2.1 HXA.out hgo
          have HDF := Lib.hid hdf
          have HBS := Lib.hid hbs
          have hwc : IntKind.i64.wrap (came + 1) = came + 1 := by have := HI0.out.2.2.1; have := HI0.out.2.2.2.1; have := HNJ0.out.1; have := HNJ0.out.2; have := HJ.out; rw [IntKind.wrap_i64]; omega
          obtain ⟨L2, hL2⟩ : ∃ L2, L.filter (fun x => decide (x.id ≠ xi)) = L2 := ⟨_, rfl⟩
          rw [hL2] at hT3 HDR
          have HT3 := Lib.hid hT3
          have HL3 := Lib.hid hl3
          have hbsI : (ob.size : Int) = (lb.size : Int) := by omega
          clear o0 o1 o2 o3 o4
          obtain ⟨o0, o1, o2, o3, o4⟩ := cell5 HT3.out.2.1
          obtain ⟨l0, l1, l2, l3, l4⟩ := cell5 HL3.out
          clear hn3 hb3 hT3 hl3 HT hdf hbs hL2 hgo hf hbe
          have HLO : Hid (Tl w gn gm gs L2 N es wr.heap.size ⟨1, xi, xb, xs, xy⟩ w3.heap.size (w3.heap.size + 1) ⟨xi, of_, ot, lb, ls⟩ ⟨oi, of_, ot, ob, os⟩ ((w3.alloc (.cells (ltC ⟨xi, of_, ot, lb, ls⟩) 31)).alloc (.cells (ltC ⟨oi, of_, ot, ob, os⟩) 31))) := Lib.hid ⟨tb_step HT3.out one_alloc, blk_step HL3.out one_alloc, blk_new _ _ _ _ (by simp)⟩
          go_wp2
          go_loopw [14, 104] (fun ov qv wq => ∃ q : Nat, q ≤ lb.size ∧ qv = .int .i64 q ∧ ov = .int .i64 (diffN ob lb q : Nat) ∧ Tl w gn gm gs L2 N es wr.heap.size ⟨1, xi, xb, xs, xy⟩ w3.heap.size (w3.heap.size + 1) ⟨xi, of_, ot, lb, ls⟩ ⟨oi, of_, ot, ob, os⟩ wq) (fun _ qv _ => lb.size - (intOf qv).toNat)
          case atStart => exact ⟨0, by omega, rfl, rfl, HLO.out⟩
          case round =>
            clear HLO HT3 HL3 o0 o1 o2 o3 o4 l0 l1 l2 l3 l4 hrun
            obtain ⟨q, hq, rfl, rfl, htl⟩ := hrel
            have HTL := Lib.hid htl
            clear htl
            by_cases hql : q < lb.size
            · have HQD := Lib.hid (tl_drew HTL.out)
              obtain ⟨l0, l1, l2, l3, l4⟩ := cell5 HTL.out.2.1
              obtain ⟨m0, m1, m2, m3, m4⟩ := cell5 HTL.out.2.2
              obtain ⟨p0, p1, p2, p3, p4⟩ := cell5 HQD.out.2.1
              obtain ⟨r0, r1, r2, r3, r4⟩ := cell5 HQD.out.2.2
              have hqo : q < ob.size := by have := HBS.out; omega
              have hqI : (q : Int) < lb.size := by omega
              have hqoI : (q : Int) < ob.size := by omega
              have hb1' := byte_at lb q hql
              have hb2' := byte_at ob q hqo
              have hds : diffN ob lb (q + 1) = diffN ob lb q + (if (bts lb).getD q 0 = (bts ob).getD q 0 then 0 else 1) := rfl
              have hdl := diff_le ob lb q
              have hlz := HSZ.out
              have hwq : IntKind.i64.wrap ((q : Int) + 1) = q + 1 := by rw [IntKind.wrap_i64]; omega
              obtain ⟨D, hD⟩ : ∃ D : Int, ((diffN ob lb q : Nat) : Int) = D := ⟨_, rfl⟩
              have hwD : IntKind.i64.wrap (D + 1) = D + 1 := by rw [IntKind.wrap_i64]; omega
              obtain ⟨bl, hbl⟩ : ∃ bl : Int, ((lb[q].toNat : Nat) : Int) = bl := ⟨_, rfl⟩
              obtain ⟨bo, hbo⟩ : ∃ bo : Int, ((ob[q].toNat : Nat) : Int) = bo := ⟨_, rfl⟩
              by_cases hsm : (bts lb).getD q 0 = (bts ob).getD q 0
              · have e1 : bl = bo := by omega
                subst e1
                have HQ2 := Lib.hid (show diffN ob lb (q + 1) = diffN ob lb q by rw [hds, if_pos hsm]; rfl)
                clear hds hsm hb1' hb2' hdl hlz hD hwD hbsI
                go_wp2_with fail
                go_quiet (fail)
                all_goals
                  go_wp2
                  go_roundw
                  case rel => exact ⟨q + 1, by omega, by go_num, by rw [HQ2.out], tl_drewN HTL.out _⟩
                  case measure => simp only [intOf]; omega
              · have e1 : bl ≠ bo := by omega
                have e2 : (bl == bo) = false := beq_noI e1
                have e3 : (bl != bo) = true := by simp [bne, e2]
                have HQ2 := Lib.hid (show ((diffN ob lb (q + 1) : Nat) : Int) = D + 1 by rw [hds, if_neg hsm]; omega)
                have HDD := Lib.hid hD
                clear hds hsm hb1' hb2' hdl hlz e1
                go_wp2_with fail
                go_quiet (fail)
                all_goals
                  go_wp2
                  go_roundw
                  case rel => exact ⟨q + 1, by omega, by go_num, by rw [HQ2.out], tl_drewN HTL.out _⟩
                  case measure => simp only [intOf]; omega
            · obtain rfl : q = lb.size := by omega
              have hI := HDR.out
              have hNJ : N ≤ (j : Int) + 1 := by have := HNJ0.out.1; have := HNJ0.out.2; omega
              have hT := HTL.out.1
              have HL4 := Lib.hid HTL.out.2.1
              obtain ⟨l0, l1, l2, l3, l4⟩ := cell5 HTL.out.2.1
              obtain ⟨N2, hN2⟩ : ∃ N2 : Int, N = N2 := ⟨_, rfl⟩
              obtain ⟨es2, hes2⟩ : ∃ es2, es = es2 := ⟨_, rfl⟩
              rw [hN2, hes2] at hT hI
              rw [hN2] at hNJ
              have HT := Lib.hid hT
              have HI := Lib.hid hI
              have HNJ := Lib.hid hNJ
              have hdf := HDF.out
              clear hT hI hNJ hN2 hes2 HTL hql hq
              cases ls
              · rw [show diffN ob lb lb.size = 0 by simpa using hdf]
                clear hdf
                have hw2 : IntKind.i64.wrap ((came + 1) + (L2.length : Int)) = (es2.length : Int) := by have h := HI.out; obtain ⟨_, g1, g2, _, _⟩ := h; have := HNJ.out; rw [IntKind.wrap_i64]; omega
                have hsz : Maps.size (mapE es2) = es2.length := mape_size es2
                go_wp2_with fail
                refine (flight_any gn gm L2 N2 _ HT.out.1.1 (by have := HNJ.out; omega)).mono ?_
                rintro e wf ⟨vf, rfl, hof, _, hbf⟩
                obtain ⟨Af, cf, rfl⟩ := own_form hof
                have HT2 := Lib.hid (tb_step HT.out hbf)
                clear hof hbf HT
                go_wp2_with (at_len; refine wpList_len_own _ rfl (.tmp 169) 46 rfl 3 31 Try.underlying46 heldR gs es2.length (mapE es2) rfl HT2.out.1.2.1 ?_)
                go_roundw
                case rel => exact ⟨j + 1, L2, N2, es2, (came + 1), by omega, by go_num, rfl, HNJ.out, HI.out, HT2.out.1⟩
                case measure => simp only [intOf]; omega
              · rw [show diffN ob lb lb.size = 1 by simpa using hdf]
                clear hdf
                have hw2 : IntKind.i64.wrap ((came + 1) + (L2.length : Int)) = (es2.length : Int) := by have h := HI.out; obtain ⟨_, g1, g2, _, _⟩ := h; have := HNJ.out; rw [IntKind.wrap_i64]; omega
                have hsz : Maps.size (mapE es2) = es2.length := mape_size es2
                go_wp2_with fail
                refine (flight_any gn gm L2 N2 _ HT.out.1.1 (by have := HNJ.out; omega)).mono ?_
                rintro e wf ⟨vf, rfl, hof, _, hbf⟩
                obtain ⟨Af, cf, rfl⟩ := own_form hof
                have HT2 := Lib.hid (tb_step HT.out hbf)
                clear hof hbf HT
                go_wp2_with (at_len; refine wpList_len_own _ rfl (.tmp 169) 46 rfl 3 31 Try.underlying46 heldR gs es2.length (mapE es2) rfl HT2.out.1.2.1 ?_)
                go_roundw
                case rel => exact ⟨j + 1, L2, N2, es2, (came + 1), by omega, by go_num, rfl, HNJ.out, HI.out, HT2.out.1⟩
                case measure => simp only [intOf]; omega
      have hb1 := beq_noI hk1
      clear hk1
      by_cases hk2 : xk = 2
      · obtain rfl := hk2
        rcases Option.eq_none_or_eq_some (findL L xa) with hf | ⟨x, hf⟩
        · go_wp2_with fail
          refine (drop_none xa gn gm L N _ HT.out.1.1 HXA.out hf).mono ?_
          rintro e w3 ⟨rfl, hb3⟩
          have HT3 := Lib.hid (tb_step HT.out hb3)
          clear hb3 HT
          have HT := HT3
          clear HT3
          clear o0 o1 o2 o3 o4
          obtain ⟨o0, o1, o2, o3, o4⟩ := cell5 HT.out.2.1
          have hT := HT.out
          have hI := HI0.out
          have hNJ : N ≤ (j : Int) + 1 := by have := HNJ0.out.1; have := HNJ0.out.2; omega
          clear HT
          obtain ⟨L2, hL2⟩ : ∃ L2, L = L2 := ⟨_, rfl⟩
          obtain ⟨N2, hN2⟩ : ∃ N2 : Int, N = N2 := ⟨_, rfl⟩
          obtain ⟨es2, hes2⟩ : ∃ es2, es = es2 := ⟨_, rfl⟩
          rw [hL2, hN2, hes2] at hT hI
          rw [hN2] at hNJ
          have HT := Lib.hid hT
          have HI := Lib.hid hI
          have HNJ := Lib.hid hNJ
          clear hT hI hNJ
          clear hL2 hN2 hes2
          have hw2 : IntKind.i64.wrap (came + (L2.length : Int)) = (es2.length : Int) := by have h := HI.out; obtain ⟨_, g1, g2, _, _⟩ := h; have := HNJ.out; rw [IntKind.wrap_i64]; omega
          have hsz : Maps.size (mapE es2) = es2.length := mape_size es2
          go_wp2_with fail
          refine (flight_any gn gm L2 N2 _ HT.out.1.1 (by have := HNJ.out; omega)).mono ?_
          rintro e wf ⟨vf, rfl, hof, _, hbf⟩
          obtain ⟨Af, cf, rfl⟩ := own_form hof
          have HT2 := Lib.hid (tb_step HT.out hbf)
          clear hof hbf HT
          go_wp2_with (at_len; refine wpList_len_own _ rfl (.tmp 169) 46 rfl 3 31 Try.underlying46 heldR gs es2.length (mapE es2) rfl HT2.out.1.2.1 ?_)
          go_roundw
          case rel => exact ⟨j + 1, L2, N2, es2, came, by omega, by go_num, rfl, HNJ.out, HI.out, HT2.out.1⟩
          case measure => simp only [intOf]; omega
        · have HDR := Lib.hid (inv_drop HI0.out HT.out.1.1.2.2.2.1 ⟨x, (find_id hf).2, (find_id hf).1⟩)
          have hwc : IntKind.i64.wrap (came + 1) = came + 1 := by have := HI0.out.2.2.1; have := HI0.out.2.2.2.1; have := HNJ0.out.1; have := HNJ0.out.2; have := HJ.out; rw [IntKind.wrap_i64]; omega
          go_wp2_with fail
          refine (drop_some xa gn gm L N _ HT.out.1.1 HXA.out x hf).mono ?_
          rintro e w3 ⟨rfl, hn3, hb3⟩
          have hT := tb_but HT.out hn3 hb3
          have hI := HDR.out
          have hNJ : N ≤ (j : Int) + 1 := by have := HNJ0.out.1; have := HNJ0.out.2; omega
          clear o0 o1 o2 o3 o4
          clear hn3 hb3 HT HDR
          obtain ⟨L2, hL2⟩ : ∃ L2, L.filter (fun x => decide (x.id ≠ xa)) = L2 := ⟨_, rfl⟩
          rw [hL2] at hT hI
          obtain ⟨N2, hN2⟩ : ∃ N2 : Int, N = N2 := ⟨_, rfl⟩
          obtain ⟨es2, hes2⟩ : ∃ es2, es = es2 := ⟨_, rfl⟩
          rw [hN2, hes2] at hT hI
          rw [hN2] at hNJ
          have HT := Lib.hid hT
          have HI := Lib.hid hI
          have HNJ := Lib.hid hNJ
          clear hT hI hNJ hL2 hN2 hes2
          have hw2 : IntKind.i64.wrap ((came + 1) + (L2.length : Int)) = (es2.length : Int) := by have h := HI.out; obtain ⟨_, g1, g2, _, _⟩ := h; have := HNJ.out; rw [IntKind.wrap_i64]; omega
          have hsz : Maps.size (mapE es2) = es2.length := mape_size es2
          go_wp2_with fail
          refine (flight_any gn gm L2 N2 _ HT.out.1.1 (by have := HNJ.out; omega)).mono ?_
          rintro e wf ⟨vf, rfl, hof, _, hbf⟩
          obtain ⟨Af, cf, rfl⟩ := own_form hof
          have HT2 := Lib.hid (tb_step HT.out hbf)
          clear hof hbf HT
          go_wp2_with (at_len; refine wpList_len_own _ rfl (.tmp 169) 46 rfl 3 31 Try.underlying46 heldR gs es2.length (mapE es2) rfl HT2.out.1.2.1 ?_)
          go_roundw
          case rel => exact ⟨j + 1, L2, N2, es2, (came + 1), by omega, by go_num, rfl, HNJ.out, HI.out, HT2.out.1⟩
          case measure => simp only [intOf]; omega
      have hb2 := beq_noI hk2
      clear hk2
      by_cases hk3 : xk = 3
      · obtain rfl := hk3
        have HIL := Lib.hid (⟨by have := HI0.out.2.1; have := HNJ0.out.1; have := HNJ0.out.2; have := HJ.out; omega, fun x hx => by have := HI0.out.1 x hx; omega⟩ : es.length ≤ 1000 ∧ ∀ x ∈ es, x.1 < N + 1)
        rcases Option.eq_none_or_eq_some (findL L xa) with hf | ⟨x, hf⟩
        · go_wp2_with fail
          refine (twice_none xa gn gm L N _ HT.out.1.1 HXA.out hf).mono ?_
          rintro e w3 ⟨rfl, hb3⟩
          have HT3 := Lib.hid (tb_step HT.out hb3)
          clear hb3 HT
          have HT := HT3
          clear HT3
          clear o0 o1 o2 o3 o4
          obtain ⟨o0, o1, o2, o3, o4⟩ := cell5 HT.out.2.1
          have hT := HT.out
          have hI := HI0.out
          have hNJ : N ≤ (j : Int) + 1 := by have := HNJ0.out.1; have := HNJ0.out.2; omega
          clear HT
          obtain ⟨L2, hL2⟩ : ∃ L2, L = L2 := ⟨_, rfl⟩
          obtain ⟨N2, hN2⟩ : ∃ N2 : Int, N = N2 := ⟨_, rfl⟩
          obtain ⟨es2, hes2⟩ : ∃ es2, es = es2 := ⟨_, rfl⟩
          rw [hL2, hN2, hes2] at hT hI
          rw [hN2] at hNJ
          have HT := Lib.hid hT
          have HI := Lib.hid hI
          have HNJ := Lib.hid hNJ
          clear hT hI hNJ
          clear hL2 hN2 hes2
          have hw2 : IntKind.i64.wrap (came + (L2.length : Int)) = (es2.length : Int) := by have h := HI.out; obtain ⟨_, g1, g2, _, _⟩ := h; have := HNJ.out; rw [IntKind.wrap_i64]; omega
          have hsz : Maps.size (mapE es2) = es2.length := mape_size es2
          go_wp2_with fail
          refine (flight_any gn gm L2 N2 _ HT.out.1.1 (by have := HNJ.out; omega)).mono ?_
          rintro e wf ⟨vf, rfl, hof, _, hbf⟩
          obtain ⟨Af, cf, rfl⟩ := own_form hof
          have HT2 := Lib.hid (tb_step HT.out hbf)
          clear hof hbf HT
          go_wp2_with (at_len; refine wpList_len_own _ rfl (.tmp 169) 46 rfl 3 31 Try.underlying46 heldR gs es2.length (mapE es2) rfl HT2.out.1.2.1 ?_)
          go_roundw
          case rel => exact ⟨j + 1, L2, N2, es2, came, by omega, by go_num, rfl, HNJ.out, HI.out, HT2.out.1⟩
          case measure => simp only [intOf]; omega
        · by_cases hful : 64 ≤ L.length
          · go_wp2_with fail
            refine (twice_some xa gn gm L N _ HT.out.1.1 (by have := HNJ0.out.1; have := HNJ0.out.2; have := HJ.out; omega) HXA.out x hf 0 8 L N (if_pos hful) (if_pos hful) (if_pos hful) (if_pos hful)).mono ?_
            rintro e w3 ⟨rfl, hn3, hb3⟩
            have HT3 := Lib.hid (tb_but HT.out hn3 hb3)
            clear hn3 hb3 HT
            have HT := HT3
            clear HT3
            clear o0 o1 o2 o3 o4
            obtain ⟨o0, o1, o2, o3, o4⟩ := cell5 HT.out.2.1
            have hT := HT.out
            have hI := HI0.out
            have hNJ : N ≤ (j : Int) + 1 := by have := HNJ0.out.1; have := HNJ0.out.2; omega
            clear HT
            obtain ⟨L2, hL2⟩ : ∃ L2, L = L2 := ⟨_, rfl⟩
            obtain ⟨N2, hN2⟩ : ∃ N2 : Int, N = N2 := ⟨_, rfl⟩
            obtain ⟨es2, hes2⟩ : ∃ es2, es = es2 := ⟨_, rfl⟩
            rw [hL2, hN2, hes2] at hT hI
            rw [hN2] at hNJ
            have HT := Lib.hid hT
            have HI := Lib.hid hI
            have HNJ := Lib.hid hNJ
            clear hT hI hNJ
            clear hL2 hN2 hes2
            have hw2 : IntKind.i64.wrap (came + (L2.length : Int)) = (es2.length : Int) := by have h := HI.out; obtain ⟨_, g1, g2, _, _⟩ := h; have := HNJ.out; rw [IntKind.wrap_i64]; omega
            have hsz : Maps.size (mapE es2) = es2.length := mape_size es2
            go_wp2_with fail
            refine (flight_any gn gm L2 N2 _ HT.out.1.1 (by have := HNJ.out; omega)).mono ?_
            rintro e wf ⟨vf, rfl, hof, _, hbf⟩
            obtain ⟨Af, cf, rfl⟩ := own_form hof
            have HT2 := Lib.hid (tb_step HT.out hbf)
            clear hof hbf HT
            go_wp2_with (at_len; refine wpList_len_own _ rfl (.tmp 169) 46 rfl 3 31 Try.underlying46 heldR gs es2.length (mapE es2) rfl HT2.out.1.2.1 ?_)
            go_roundw
            case rel => exact ⟨j + 1, L2, N2, es2, came, by omega, by go_num, rfl, HNJ.out, HI.out, HT2.out.1⟩
            case measure => simp only [intOf]; omega
          · obtain ⟨hsz0, o, hgo, hnr⟩ := inv_find HI0.out hf
            go_wp2_with fail
            refine (twice_some xa gn gm L N _ HT.out.1.1 (by have := HNJ0.out.1; have := HNJ0.out.2; have := HJ.out; omega) HXA.out x hf (N + 1) 0 (L ++ [newL x N]) (N + 1) (if_neg hful) (if_neg hful) (if_neg hful) (if_neg hful)).mono ?_
            rintro e w3 ⟨rfl, hn3, hb3⟩
            have HT3 := Lib.hid (tb_but HT.out hn3 hb3)
            clear hn3 hb3 HT
            have HT := HT3
            clear HT3
            clear o0 o1 o2 o3 o4
            obtain ⟨o0, o1, o2, o3, o4⟩ := cell5 HT.out.2.1
            have hlk := lookE_one HT.out.1.2.1 HXA.out hgo
            obtain ⟨w4, hrun, hts, hgr⟩ := ts_put HT.out.1 (N + 1) o (by have := HNJ0.out.1; have := HNJ0.out.2; have := HJ.out; have := HN0.out; unfold I64'; omega) HIL.out.2 HIL.out.1
            have hT : Tb w gn gm gs (L ++ [newL x N]) (N + 1) (es ++ [(N + 1, o)]) wr.heap.size ⟨3, xa, xb, xs, xy⟩ w4 := ⟨hts, HT.out.2.1.grown hgr (fun e => HT.out.2.2.2.2 (Option.some.inj e)), HT.out.2.2⟩
            have hI := inv_new HI0.out (newL x N) o rfl hsz0 (near_new hnr (N + 1))
            have hNJ : N + 1 ≤ (j : Int) + 1 := by have := HNJ0.out.1; have := HNJ0.out.2; omega
            clear hts hgr HT
            obtain ⟨L2, hL2⟩ : ∃ L2, L ++ [newL x N] = L2 := ⟨_, rfl⟩
            obtain ⟨N2, hN2⟩ : ∃ N2 : Int, N + 1 = N2 := ⟨_, rfl⟩
            obtain ⟨es2, hes2⟩ : ∃ es2, es ++ [(N + 1, o)] = es2 := ⟨_, rfl⟩
            rw [hL2, hes2, hN2] at hT hI
            rw [hN2] at hNJ
            have HT := Lib.hid hT
            have HI := Lib.hid hI
            have HNJ := Lib.hid hNJ
            clear hT hI hNJ hL2 hN2 hes2
            clear hnr hgo hsz0 hf
            have hw2 : IntKind.i64.wrap (came + (L2.length : Int)) = (es2.length : Int) := by have h := HI.out; obtain ⟨_, g1, g2, _, _⟩ := h; have := HNJ.out; rw [IntKind.wrap_i64]; omega
            have hsz : Maps.size (mapE es2) = es2.length := mape_size es2
            go_wp2_with fail
            refine (flight_any gn gm L2 N2 _ HT.out.1.1 (by have := HNJ.out; omega)).mono ?_
            rintro e wf ⟨vf, rfl, hof, _, hbf⟩
            obtain ⟨Af, cf, rfl⟩ := own_form hof
            have HT2 := Lib.hid (tb_step HT.out hbf)
            clear hof hbf HT
            go_wp2_with (at_len; refine wpList_len_own _ rfl (.tmp 169) 46 rfl 3 31 Try.underlying46 heldR gs es2.length (mapE es2) rfl HT2.out.1.2.1 ?_)
            go_roundw
            case rel => exact ⟨j + 1, L2, N2, es2, came, by omega, by go_num, rfl, HNJ.out, HI.out, HT2.out.1⟩
            case measure => simp only [intOf]; omega
      have hb3 := beq_noI hk3
      clear hk3
      by_cases hk4 : xk = 4
      · obtain rfl := hk4
        rcases Option.eq_none_or_eq_some (findL L xa) with hf | ⟨x, hf⟩
        · go_wp2_with fail
          refine (spoil_none xa xb xy gn gm L N _ HT.out.1.1 HXA.out hf).mono ?_
          rintro e w3 ⟨rfl, hb3⟩
          have HT3 := Lib.hid (tb_step HT.out hb3)
          clear hb3 HT
          have HT := HT3
          clear HT3
          clear o0 o1 o2 o3 o4
          obtain ⟨o0, o1, o2, o3, o4⟩ := cell5 HT.out.2.1
          have hT := HT.out
          have hI := HI0.out
          have hNJ : N ≤ (j : Int) + 1 := by have := HNJ0.out.1; have := HNJ0.out.2; omega
          clear HT
          obtain ⟨L2, hL2⟩ : ∃ L2, L = L2 := ⟨_, rfl⟩
          obtain ⟨N2, hN2⟩ : ∃ N2 : Int, N = N2 := ⟨_, rfl⟩
          obtain ⟨es2, hes2⟩ : ∃ es2, es = es2 := ⟨_, rfl⟩
          rw [hL2, hN2, hes2] at hT hI
          rw [hN2] at hNJ
          have HT := Lib.hid hT
          have HI := Lib.hid hI
          have HNJ := Lib.hid hNJ
          clear hT hI hNJ
          clear hL2 hN2 hes2
          have hw2 : IntKind.i64.wrap (came + (L2.length : Int)) = (es2.length : Int) := by have h := HI.out; obtain ⟨_, g1, g2, _, _⟩ := h; have := HNJ.out; rw [IntKind.wrap_i64]; omega
          have hsz : Maps.size (mapE es2) = es2.length := mape_size es2
          go_wp2_with fail
          refine (flight_any gn gm L2 N2 _ HT.out.1.1 (by have := HNJ.out; omega)).mono ?_
          rintro e wf ⟨vf, rfl, hof, _, hbf⟩
          obtain ⟨Af, cf, rfl⟩ := own_form hof
          have HT2 := Lib.hid (tb_step HT.out hbf)
          clear hof hbf HT
          go_wp2_with (at_len; refine wpList_len_own _ rfl (.tmp 169) 46 rfl 3 31 Try.underlying46 heldR gs es2.length (mapE es2) rfl HT2.out.1.2.1 ?_)
          go_roundw
          case rel => exact ⟨j + 1, L2, N2, es2, came, by omega, by go_num, rfl, HNJ.out, HI.out, HT2.out.1⟩
          case measure => simp only [intOf]; omega
        · by_cases hE : spoilE x xb xy = 0
          · obtain ⟨xi, lf, lt, lb, ls⟩ := x
            obtain rfl : xi = xa := (find_id hf).1
            obtain ⟨hls, hb0, hb1, hy0⟩ : ls = false ∧ 0 ≤ xb ∧ xb < (lb.size : Int) ∧ xy ≠ 0 := by
              unfold spoilE at hE
              cases ls
              · rw [if_neg (by simp)] at hE
                by_cases h1 : xb < 0 ∨ (lb.size : Int) ≤ xb
                · rw [if_pos h1] at hE; cases hE
                · rw [if_neg h1] at hE
                  by_cases h2 : xy = 0
                  · rw [if_pos h2] at hE; cases hE
                  · exact ⟨rfl, by omega, by omega, h2⟩
              · cases hE
            subst hls
            obtain ⟨p, rfl⟩ := Int.eq_ofNat_of_zero_le hb0
            have hy := HXY.out
            have hsz0 := (inv_find HI0.out hf).1
            go_wp2_with fail
            refine (spoil_ok xi p xy gn gm L N _ HT.out.1.1 HXA.out lf lt lb hf (by omega) hsz0 (by omega) (by omega)).mono ?_
            rintro e w3 ⟨rfl, hn3, hb3⟩
            have hT := tb_but HT.out hn3 hb3
            have hI := inv_spoil HI0.out hf (p := p) (y := xy) (by omega) (by omega) (by omega)
            have hNJ : N ≤ (j : Int) + 1 := by have := HNJ0.out.1; have := HNJ0.out.2; omega
            clear o0 o1 o2 o3 o4
            clear hn3 hb3 HT
            obtain ⟨L2, hL2⟩ : ∃ L2, setLt L xi ⟨xi, lf, lt, spoilB lb p (xorB lb p xy), true⟩ = L2 := ⟨_, rfl⟩
            rw [hL2] at hT hI
            obtain ⟨N2, hN2⟩ : ∃ N2 : Int, N = N2 := ⟨_, rfl⟩
            obtain ⟨es2, hes2⟩ : ∃ es2, es = es2 := ⟨_, rfl⟩
            rw [hN2, hes2] at hT hI
            rw [hN2] at hNJ
            have HT := Lib.hid hT
            have HI := Lib.hid hI
            have HNJ := Lib.hid hNJ
            clear hT hI hNJ hL2 hN2 hes2 hf hsz0 hy hy0 hb1 hE
            have hw2 : IntKind.i64.wrap (came + (L2.length : Int)) = (es2.length : Int) := by have h := HI.out; obtain ⟨_, g1, g2, _, _⟩ := h; have := HNJ.out; rw [IntKind.wrap_i64]; omega
            have hsz : Maps.size (mapE es2) = es2.length := mape_size es2
            go_wp2_with fail
            refine (flight_any gn gm L2 N2 _ HT.out.1.1 (by have := HNJ.out; omega)).mono ?_
            rintro e wf ⟨vf, rfl, hof, _, hbf⟩
            obtain ⟨Af, cf, rfl⟩ := own_form hof
            have HT2 := Lib.hid (tb_step HT.out hbf)
            clear hof hbf HT
            go_wp2_with (at_len; refine wpList_len_own _ rfl (.tmp 169) 46 rfl 3 31 Try.underlying46 heldR gs es2.length (mapE es2) rfl HT2.out.1.2.1 ?_)
            go_roundw
            case rel => exact ⟨j + 1, L2, N2, es2, came, by omega, by go_num, rfl, HNJ.out, HI.out, HT2.out.1⟩
            case measure => simp only [intOf]; omega
          · obtain ⟨E, hEE⟩ : ∃ E, spoilE x xb xy = E := ⟨_, rfl⟩
            rw [hEE] at hE
            go_wp2_with fail
            refine (spoil_err xa xb xy gn gm L N _ HT.out.1.1 HXA.out x hf E hEE hE).mono ?_
            rintro e w3 ⟨rfl, hb3⟩
            have HT3 := Lib.hid (tb_step HT.out hb3)
            clear hb3 HT hEE hE
            have HT := HT3
            clear HT3
            clear o0 o1 o2 o3 o4
            obtain ⟨o0, o1, o2, o3, o4⟩ := cell5 HT.out.2.1
            have hT := HT.out
            have hI := HI0.out
            have hNJ : N ≤ (j : Int) + 1 := by have := HNJ0.out.1; have := HNJ0.out.2; omega
            clear HT
            obtain ⟨L2, hL2⟩ : ∃ L2, L = L2 := ⟨_, rfl⟩
            obtain ⟨N2, hN2⟩ : ∃ N2 : Int, N = N2 := ⟨_, rfl⟩
            obtain ⟨es2, hes2⟩ : ∃ es2, es = es2 := ⟨_, rfl⟩
            rw [hL2, hN2, hes2] at hT hI
            rw [hN2] at hNJ
            have HT := Lib.hid hT
            have HI := Lib.hid hI
            have HNJ := Lib.hid hNJ
            clear hT hI hNJ
            clear hL2 hN2 hes2
            have hw2 : IntKind.i64.wrap (came + (L2.length : Int)) = (es2.length : Int) := by have h := HI.out; obtain ⟨_, g1, g2, _, _⟩ := h; have := HNJ.out; rw [IntKind.wrap_i64]; omega
            have hsz : Maps.size (mapE es2) = es2.length := mape_size es2
            go_wp2_with fail
            refine (flight_any gn gm L2 N2 _ HT.out.1.1 (by have := HNJ.out; omega)).mono ?_
            rintro e wf ⟨vf, rfl, hof, _, hbf⟩
            obtain ⟨Af, cf, rfl⟩ := own_form hof
            have HT2 := Lib.hid (tb_step HT.out hbf)
            clear hof hbf HT
            go_wp2_with (at_len; refine wpList_len_own _ rfl (.tmp 169) 46 rfl 3 31 Try.underlying46 heldR gs es2.length (mapE es2) rfl HT2.out.1.2.1 ?_)
            go_roundw
            case rel => exact ⟨j + 1, L2, N2, es2, came, by omega, by go_num, rfl, HNJ.out, HI.out, HT2.out.1⟩
            case measure => simp only [intOf]; omega
      have hb4 := beq_noI hk4
      clear hk4
      have hT := HT.out
      have hI := HI0.out
      have hNJ : N ≤ (j : Int) + 1 := by have := HNJ0.out.1; have := HNJ0.out.2; omega
      clear HT
      obtain ⟨L2, hL2⟩ : ∃ L2, L = L2 := ⟨_, rfl⟩
      obtain ⟨N2, hN2⟩ : ∃ N2 : Int, N = N2 := ⟨_, rfl⟩
      obtain ⟨es2, hes2⟩ : ∃ es2, es = es2 := ⟨_, rfl⟩
      rw [hL2, hN2, hes2] at hT hI
      rw [hN2] at hNJ
      have HT := Lib.hid hT
      have HI := Lib.hid hI
      have HNJ := Lib.hid hNJ
      clear hT hI hNJ
      clear hL2 hN2 hes2
      have hw2 : IntKind.i64.wrap (came + (L2.length : Int)) = (es2.length : Int) := by have h := HI.out; obtain ⟨_, g1, g2, _, _⟩ := h; have := HNJ.out; rw [IntKind.wrap_i64]; omega
      have hsz : Maps.size (mapE es2) = es2.length := mape_size es2
      go_wp2_with fail
      refine (flight_any gn gm L2 N2 _ HT.out.1.1 (by have := HNJ.out; omega)).mono ?_
      rintro e wf ⟨vf, rfl, hof, _, hbf⟩
      obtain ⟨Af, cf, rfl⟩ := own_form hof
      have HT2 := Lib.hid (tb_step HT.out hbf)
      clear hof hbf HT
      go_wp2_with (at_len; refine wpList_len_own _ rfl (.tmp 169) 46 rfl 3 31 Try.underlying46 heldR gs es2.length (mapE es2) rfl HT2.out.1.2.1 ?_)
      go_roundw
      case rel => exact ⟨j + 1, L2, N2, es2, came, by omega, by go_num, rfl, HNJ.out, HI.out, HT2.out.1⟩
      case measure => simp only [intOf]; omega
    · obtain rfl : j = n := by omega
      go_wp2
      go_ret
      exact ⟨rfl, HTS.out.2.2.2.2.2.2.2⟩
theorem netTells_walk (A0 : Option Addr) (l0 : List Opx) (n0 k0_ : Nat) (hn0 : n0 = l0.length) (hm0 : n0 ≤ maxLen) (hx0 : ∀ x ∈ l0, FitO x) (w : World) (I0 : Opsl w w.heap.size A0 l0) :
    Calls Try.prog 5 #[.slice A0 n0 k0_] w fun e w' => e = .returned (.bool true) ∧ Below w.heap.size w w' := by
  by_cases h0 : n0 = 0
  · subst h0
    exact tells_empty k0_ A0 w
  cases hh : heavyB l0
  case true => exact tells_heavy A0 l0 n0 k0_ w I0 hn0 hm0 hh
  obtain ⟨b, o, rfl, _, _⟩ := ops_get I0 (fun e => by rw [e] at hn0; exact h0 hn0)
  exact tells_main l0 b o n0 k0_ w I0 hn0 (by omega) hm0 hh hx0
end Go.Proofs.Ytndlcjpkpkfcpaa
