/- Layer 13: the walk of LexBack. Conditions: those of each lemma. -/
import Derived.Test.YtibnmkjabpoppaaDoorLx34
import Derived.Test.YtibnmkjabpoppaaDoorOpenToks
namespace Go.Proofs.YtibnmkjabpoppaaDoor
open Go Go.RowKit
set_option linter.unusedVariables false
set_option linter.unusedSimpArgs false
theorem wrR_form (R : Option (List Nat)) : ∃ (x : ByteArray) (c : Nat), wrR R = .tuple #[.string x, .int .i64 c] ∧ (c = 0 → ∃ L, R = some L ∧ x = bstr L ∧ x.size = L.length) := by
  cases R with
  | none => exact ⟨_, 2, rfl, fun h => absurd h (by decide)⟩
  | some L => exact ⟨_, 0, rfl, fun _ => ⟨L, rfl, rfl, bstr_size L⟩⟩
theorem own_far {w : World} {base : Nat} {e : TypeId} {size : Nat} {v : Value} {n : Nat} {xs : List Value} (h : w.ownsRow base e size v n xs) {p : Addr} (hp : p.block < base) (u : Value) : (w.setCell p u).ownsRow base e size v n xs := by
  refine ⟨h.1, ?_⟩
  rcases h.2 with hn | ⟨g, cap, cur, hv, hb, hg, rest⟩
  · exact .inl hn
  · exact .inr ⟨g, cap, cur, hv, hb, (Below.heap_setCell w p u g (by omega)).trans hg, rest⟩
/-- what comes in, read back -/
theorem back_in {l : List TI} {x : ByteArray} {R : Option (List Nat)} (hR : wrJ true l = R) (h : ∃ L, R = some L ∧ x = bstr L ∧ x.size = L.length) (hx : x.size ≤ 4096) : ∃ m : List TK, tokensA x = .ok m ∧ (m.map toI).map strp = l.map strp := by
  obtain ⟨L, rfl, rfl, hs⟩ := h
  exact back_join hR (by omega)
theorem same_back {A C : Option Addr} {l : List TI} {m : List TK} {c c' : Nat} {w : World} (hI : TksI w A (m.map toI)) (hJ : TksI w C l) (hs : (m.map toI).map strp = l.map strp) (hl : m.length ≤ 100000) (n : Nat) (hn : n = l.length) :
    Calls Tryd.prog 10 #[.slice A m.length c, .slice C n c'] w fun e w' => e = .returned (.bool true) ∧ Below w.heap.size w w' := by
  subst hn
  have := same_any A C (m.map toI) l c c' w hI hJ hs (by rw [List.length_map]; exact hl)
  rwa [List.length_map] at this
theorem write_toks {S : ByteArray} {m : List TK} (hE : tokensA S = .ok m) {W : World} {A : Option Addr} (c : Nat) (hI : TksI W A (m.map toI)) (hG : Gv W) :
    ∃ L, wrJ true (m.map toI) = some L ∧ Calls Tryd.prog 12 #[.slice A m.length c] W fun e w' => e = .returned (.tuple #[.string (bstr L), .int .i64 0]) ∧ Below W.heap.size W w' := by
  have hw := tokens_wr hE
  obtain ⟨h1, _⟩ := itms_ok true (m.map toI) (fun t ht => by
    obtain ⟨t0, ht0, rfl⟩ := List.mem_map.1 ht
    exact (hw t0 ht0).1)
  have h := write_any A (m.map toI) c W hI hG (fun t ht => by
    obtain ⟨t0, ht0, rfl⟩ := List.mem_map.1 ht
    exact (hw t0 ht0).2) (by rw [List.length_map]; have := (tokensA_len hE).2; omega)
  rw [List.length_map, h1] at h
  exact ⟨_, h1, h⟩
set_option maxRecDepth 100000 in
set_option maxHeartbeats 8000000 in
theorem lexBack_walk (A0 : Option Addr) (l0 : List TI) (n0 k0_ : Nat) (a1 : ByteArray) (hn0 : n0 = l0.length) (hm0 : n0 ≤ maxLen) (hx0 : ∀ x ∈ l0, FitT x) (w1 : a1.size ≤ 140737488351232) (w : World) (I0 : Toksl w w.heap.size A0 l0) (hG : Gv w) :
    Calls Tryd.prog 5 #[.slice A0 n0 k0_, .string a1] w fun e w' => e = .returned (.bool true) ∧ Below w.heap.size w w' := by
  have HW := Lib.hid (works13_any w hG.1)
  have HG := Lib.hid hG
  have HI := Lib.hid (show TksI w A0 l0 from I0)
  have HN := Lib.hid hn0
  have HLG := Lib.hid (fun W (h : TksI W A0 l0) => long_any A0 l0 k0_ W h)
  rw [← hn0] at HLG
  obtain ⟨b, hb⟩ : ∃ b, lgB l0 = b := ⟨_, rfl⟩
  rw [hb] at HLG
  have HB := Lib.hid hb
  have HX := Lib.hid hx0
  clear hb hx0 I0 hG hm0 hn0 w1
  by_cases hbig : b = true ∨ 8192 < a1.size
  · cases b with
    | true =>
      clear hbig
      go_enter Tryd.func5, Tryd.ntmps5
      go_wp2_with fail
      refine (HW.out).mono ?_
      rintro e w1 ⟨rfl, hb1⟩
      have HB1 := Lib.hid hb1
      have HI1 := Lib.hid (tki_step HI.out hb1)
      clear hb1
      go_wp2_with fail
      refine (HLG.out _ HI1.out).mono ?_
      rintro e w2 ⟨rfl, hb2⟩
      have HB2 := Lib.hid (bj13 HB1.out hb2)
      clear hb2
      go_wp2
      go_ret
      exact ⟨rfl, HB2.out⟩
    | false =>
      have hI : (8192 : Int) < a1.size := by rcases hbig with h | h; cases h; omega
      clear hbig
      go_enter Tryd.func5, Tryd.ntmps5
      go_wp2_with fail
      refine (HW.out).mono ?_
      rintro e w1 ⟨rfl, hb1⟩
      have HB1 := Lib.hid hb1
      have HI1 := Lib.hid (tki_step HI.out hb1)
      clear hb1
      go_wp2_with fail
      refine (HLG.out _ HI1.out).mono ?_
      rintro e w2 ⟨rfl, hb2⟩
      have HB2 := Lib.hid (bj13 HB1.out hb2)
      clear hb2
      go_wp2
      go_ret
      exact ⟨rfl, HB2.out⟩
  obtain rfl : b = false := by cases b with | true => exact absurd (Or.inl rfl) hbig | false => rfl
  have hI : ¬ (8192 : Int) < a1.size := by intro h; exact hbig (Or.inr (by omega))
  clear hbig
  obtain ⟨R, hR⟩ : ∃ R, wrJ true l0 = R := ⟨_, rfl⟩
  obtain ⟨x, c, hxc, hx⟩ := wrR_form R
  have HWR := Lib.hid (fun W (h : TksI W A0 l0) (hG : Gv W) => write_any A0 l0 k0_ W h hG (fun t ht => ⟨HX.out t ht, by have := (lg_no HB.out).2 t ht; omega⟩) (by have := (lg_no HB.out).1; omega))
  rw [← HN.out, hR, hxc] at HWR
  have HR := Lib.hid hR
  have HXC := Lib.hid hx
  clear hR hxc hx
  go_enter Tryd.func5, Tryd.ntmps5
  go_wp2_with fail
  refine (HW.out).mono ?_
  rintro e w1 ⟨rfl, hb1⟩
  have HB1 := Lib.hid hb1
  have HI1 := Lib.hid (tki_step HI.out hb1)
  clear hb1
  go_wp2_with fail
  refine (HLG.out _ HI1.out).mono ?_
  rintro e w2 ⟨rfl, hb2⟩
  have HB2 := Lib.hid (bj13 HB1.out hb2)
  have HI2 := Lib.hid (tki_step HI1.out hb2)
  clear hb2
  go_wp2_with fail
  refine (HWR.out _ HI2.out (gv_step HG.out HB2.out)).mono ?_
  rintro e w3 ⟨rfl, hb3⟩
  have HB3 := Lib.hid (bj13 HB2.out hb3)
  have HI3 := Lib.hid (tki_step HI2.out hb3)
  clear hb3
  go_upto_region 6 with fail
  go_cut [32] (fun v wx => v = .bool (decide (c = 0 ∧ x.size ≤ 4096)) ∧ wx = w3)
  case first =>
    by_cases hc : c = 0
    · subst hc
      by_cases hx4 : x.size ≤ 4096
      · have hxI : (x.size : Int) ≤ 4096 := by omega
        have hd : decide (0 = 0 ∧ x.size ≤ 4096) = true := decide_eq_true ⟨rfl, hx4⟩
        have HD := Lib.hid hd
        clear hd
        go_wp2_with fail
        go_meet
        exact ⟨congrArg Value.bool HD.out.symm, rfl⟩
      · have hxI : ¬ (x.size : Int) ≤ 4096 := by omega
        have hd : decide (0 = 0 ∧ x.size ≤ 4096) = false := decide_eq_false (fun h => hx4 h.2)
        have HD := Lib.hid hd
        clear hd hx4
        go_wp2_with fail
        go_meet
        exact ⟨congrArg Value.bool HD.out.symm, rfl⟩
    · have hcb : ((c : Int) == 0) = false := beq_no13 (by omega)
      have hcI : ¬ (c : Int) = 0 := by omega
      have hd : decide (c = 0 ∧ x.size ≤ 4096) = false := decide_eq_false (fun h => hc h.1)
      have HD := Lib.hid hd
      clear hd hc
      go_wp2_with fail
      go_meet
      exact ⟨congrArg Value.bool HD.out.symm, rfl⟩
  case rest =>
  obtain ⟨rfl, rfl⟩ := hcut
  obtain ⟨q, hq⟩ : ∃ q, decide (c = 0 ∧ x.size ≤ 4096) = q := ⟨_, rfl⟩
  rw [hq]
  have HQ := Lib.hid hq
  clear hq
  go_upto_if 32 with fail
  go_cut [32] (fun _ wx => Below w.heap.size w wx)
  case first =>
    cases q with
    | true =>
        obtain ⟨rfl, hx4⟩ := of_decide_eq_true HQ.out
        obtain ⟨m, hm, hmap⟩ := back_in HR.out (HXC.out rfl) hx4
        have HM := Lib.hid hm
        have HMAP := Lib.hid hmap
        clear hm hmap hx4 HQ
        have HT := Lib.hid (tokens_any x _ (gv_step HG.out HB3.out).1.1 (gv_step HG.out HB3.out).1.2)
        go_wp2_with fail
        refine (HT.out).mono ?_
        rintro e w4 ⟨hb4, ⟨e1, q1, hF, rfl⟩ | ⟨m', A', c', hF, rfl, ho4⟩⟩
        · rw [HM.out] at hF; cases hF
        rw [HM.out] at hF
        injection hF with hF
        subst hF
        unfold spotV
        obtain ⟨s0, s1, _, _⟩ := cell2b (Blk.new w4 26 #[.int .i64 0, .int .i64 0])
        have hb5 := bj13 hb4 (one_alloc (o := .cells #[.int .i64 0, .int .i64 0] 26))
        have HB5 := Lib.hid (bj13 HB3.out hb5)
        have HS := Lib.hid (same_back (c := c') (c' := k0_) (tki_of (tks_step (tks_own ho4) (one_alloc (o := .cells #[.int .i64 0, .int .i64 0] 26)))) (tki_step HI3.out hb5) HMAP.out (by have := (tokensA_len HM.out).2; omega) n0 HN.out)
        clear hb4 hb5 ho4
        go_wp2_with fail
        refine (HS.out).mono ?_
        rintro e w6 ⟨rfl, hb6⟩
        have HB6 := Lib.hid (bj13 HB5.out hb6)
        clear hb6 s0 s1
        go_wp2_with fail
        go_meet
        exact HB6.out
    | false =>
      go_wp2_with fail
      go_meet
      exact HB3.out
  case rest =>
    have HBC := Lib.hid hcut
    clear hcut
    rename World => wx
    have HT := Lib.hid (tokens_any a1 _ (gv_step HG.out HBC.out).1.1 (gv_step HG.out HBC.out).1.2)
    go_wp2_with fail
    refine (HT.out).mono ?_
    rintro e w4 ⟨hb4, h4⟩
    have HB4 := Lib.hid (bj13 HBC.out hb4)
    clear hb4
    rcases h4 with ⟨e1, q1, hE, rfl⟩ | ⟨m, A, ca, hE, rfl, ho⟩
    · obtain ⟨he0, hq0⟩ := tokensA_err hE
      have heb : ((e1 : Int) == 0) = false := beq_no13 (by omega)
      have heb2 : ((e1 : Int) != 0) = true := by rw [bne_iff_ne]; omega
      unfold spotV
      obtain ⟨s0, s1, _, _⟩ := cell2b (Blk.new w4 26 #[.int .i64 e1, .int .i64 q1])
      have HB5 := Lib.hid (bj13 HB4.out (one_alloc (o := .cells #[.int .i64 e1, .int .i64 q1] 26)))
      clear hE
      go_wp2
      go_ret
      exact ⟨rfl, HB5.out⟩
    · unfold spotV
      have h5 := Blk.new w4 26 #[.int .i64 0, .int .i64 0]
      have H5 := Lib.hid h5
      obtain ⟨s0, s1, _, _⟩ := cell2b h5
      have hb5 := one_alloc (w := w4) (o := .cells #[.int .i64 0, .int .i64 0] 26)
      have HB5 := Lib.hid (bj13 HB4.out hb5)
      have HI4 := Lib.hid (tki_of (tks_own ho))
      have HML := Lib.hid (show m.length = (m.map toI).length by rw [List.length_map])
      have hi5 := tki_of (tks_step (tks_own ho) hb5)
      have HB45 := Lib.hid hb5
      have HI5 := Lib.hid hi5
      obtain ⟨L, hL, hwr⟩ := write_toks hE ca hi5 (gv_step HG.out HB5.out)
      have HWM := Lib.hid hwr
      have HL := Lib.hid hL
      have HE := Lib.hid hE
      have hgb : w.heap.size ≤ w4.heap.size := HB4.out.size
      have HGB := Lib.hid hgb
      clear h5 hb5 hi5 hwr hL hE ho hgb
      go_wp2_with fail
      refine (HWM.out).mono ?_
      rintro e w6 ⟨rfl, hb6⟩
      have HB6 := Lib.hid (bj13 HB5.out hb6)
      have HB46 := Lib.hid (bj13 HB45.out hb6)
      have h6 := Blk.below H5.out hb6 (Blk.lt H5.out)
      have H6 := Lib.hid h6
      obtain ⟨g, hg⟩ : ∃ g, g = w4.heap.size := ⟨_, rfl⟩
      have HG4 := Lib.hid hg
      clear hb6 s0 s1 H5 HI5 HB5
      obtain ⟨s0, s1, _, _⟩ := cell2b h6
      clear h6
      by_cases hL4 : L.length ≤ 4096
      · have hLI : ¬ (4096 : Int) < (bstr L).size := by rw [bstr_size]; omega
        obtain ⟨m2, hm2, hmap⟩ := back_join HL.out hL4
        have HM := Lib.hid hm2
        have HMAP := Lib.hid hmap
        have HT2 := Lib.hid (tokens_any (bstr L) _ (gv_step HG.out HB6.out).1.1 (gv_step HG.out HB6.out).1.2)
        clear hm2 hmap hL4 hg
        go_wp2_with fail
        refine (HT2.out).mono ?_
        rintro e w7 ⟨hb7, ⟨e1, q1, hF, rfl⟩ | ⟨m', A', c', hF, rfl, ho7⟩⟩
        · rw [HM.out] at hF; cases hF
        rw [HM.out] at hF
        injection hF with hF
        subst hF
        unfold spotV
        have h7 := Blk.below H6.out hb7 (Blk.lt H6.out)
        have h71 : Blk (w7.setCell ⟨w4.heap.size, 0, none⟩ (.int .i64 0)) w4.heap.size 26 #[.int .i64 0, .int .i64 0] := h7.set_ 0 _
        obtain ⟨p0, p1, f0, f1⟩ := cell2b h7
        obtain ⟨r0, r1, f2, f3⟩ := cell2b h71
        have h8 : Blk ((w7.setCell ⟨w4.heap.size, 0, none⟩ (.int .i64 0)).setCell ⟨w4.heap.size, 1, none⟩ (.int .i64 0)) w4.heap.size 26 #[.int .i64 0, .int .i64 0] := (h7.set_ 0 _).set_ 1 _
        clear s0 s1
        obtain ⟨s0, s1, _, _⟩ := cell2b h8
        have hb8 := bj13 HB6.out hb7
        have HB8 := Lib.hid ((hb8.setCell (p := ⟨w4.heap.size, 0, none⟩) HGB.out (.int .i64 0)).setCell (p := ⟨w4.heap.size, 1, none⟩) HGB.out (.int .i64 0))
        have hk7 : w4.heap.size < w6.heap.size := Blk.lt H6.out
        have HM2 := Lib.hid (tki_of (tks_own (own_far (own_far ho7 (p := ⟨w4.heap.size, 0, none⟩) hk7 (.int .i64 0)) (p := ⟨w4.heap.size, 1, none⟩) hk7 (.int .i64 0))))
        have HM4 := Lib.hid (tki_step HI4.out (((bj13 (HB46.out) hb7).setCell (p := ⟨w4.heap.size, 0, none⟩) (Nat.le_refl _) (.int .i64 0)).setCell (p := ⟨w4.heap.size, 1, none⟩) (Nat.le_refl _) (.int .i64 0)))
        have HS := Lib.hid (same_back (c := c') (c' := ca) HM2.out HM4.out HMAP.out (by have := (tokensA_len HM.out).2; omega) m.length HML.out)
        clear hb7 ho7 hb8 hk7 h7 h8 h71
        go_wp2_with fail
        refine (HS.out).mono ?_
        rintro e w8 ⟨rfl, hb9⟩
        have HB9 := Lib.hid (bj13 HB8.out hb9)
        clear hb9 s0 s1
        go_wp2
        go_ret
        exact ⟨rfl, HB9.out⟩
      · have hLI : (4096 : Int) < (bstr L).size := by rw [bstr_size]; omega
        clear hL4 hg
        go_wp2
        go_ret
        exact ⟨rfl, HB6.out⟩
end Go.Proofs.YtibnmkjabpoppaaDoor
