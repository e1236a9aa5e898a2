/- Layer 13: ref13.blob. Conditions: those of each lemma. -/
import Derived.Test.YtibnmkjabpoppaaGreatDoorLx22
import Derived.Deep.RegionLaw
import Derived.Deep.AppendLies
namespace Go.Proofs.YtibnmkjabpoppaaGreatDoor
open Go Go.RowKit
set_option linter.unusedVariables false
set_option linter.unusedSimpArgs false

theorem step_append_any {P : Program} (w : World) {ops : Array Oper} {o : Oper} {a : Act} {K : Act → World → Prop} {Q : Exit → Act → World → Prop} {E : Prop} (hgd : o.guard = none) (s x : Operand) (t : TypeId)
    (ho : o.op = .call { callee := .builtin .append, args := #[s, x], argTypes := #[t, t] })
    (base : Nat) (e : TypeId) (i : TypeInfo) (z : Value) (size bytes : Nat) (ht : P.underlying t = some (.slice e)) (hi : P.info? e = some i) (hz : i.zero = some z)
    (hsize : i.size = size) (hby : i.bytes = bytes) (hzs : z.cells.size = size) (hsz : 0 < size)
    (v : Value) (n : Nat) (xs : List Value) (hs : a.eval s = v) (hown : w.ownsRow base e size v n xs)
    (B : Nat) (A : Option Addr) (m c : Nat) (news : List Value) (hx : a.eval x = .slice A m c) (hr : Reads w B size A m news) (h1 : ∀ u ∈ news, u.oneCell' = true)
    (h63 : n + m ≤ maxLen) (hbytes : (n + m) * bytes ≤ 140737488355328) (hbase : base ≤ w.heap.size)
    (h : ∀ A' c' w', w'.ownsRow base e size (.slice A' (n + m) c') (n + m) (xs ++ news) → w.grownBy w' v.ownBlock → K (a.put o.dst (.slice A' (n + m) c')) w') :
    if Region.wanted o (yielded ops a.tmps) = true then Oper.wp P o a w K Q else E := by
  have hw : Region.wanted o (yielded ops a.tmps) = true := by simp [Region.wanted, hgd]
  rw [if_pos hw]
  refine wp_append_any w s x t ho base e i z size bytes ht hi hz hsize hby hzs hsz v n xs hs hown B A m c news hx hr h1 h63 hbytes hbase fun v' w' h2 h3 h4 => ?_
  obtain ⟨A', c', rfl⟩ := own_form h2
  exact h A' c' w' h2 h3
theorem rhexI (c : Nat) (hc : c < 256) (w : World) : Calls Tryz.prog 56 #[.int .u8 c] w fun r w' => r = .returned (.int .i64 (hexI c)) ∧ w = w' := by
  refine (rhex_any c hc w).mono ?_
  rintro r w' ⟨rfl, h⟩
  refine ⟨?_, h⟩
  have e : (if digB (c : Int) = true then (c : Int) - 48 else if 97 ≤ c ∧ c ≤ 102 then (c : Int) - 87 else -1) = hexI c := by
    unfold hexI hexd digB
    by_cases h1 : 48 ≤ c ∧ c ≤ 57
    · rw [if_pos h1]
      have : (decide (48 ≤ (c : Int)) && decide ((c : Int) ≤ 57)) = true := by simp; omega
      rw [if_pos this]
      simp only
      omega
    · rw [if_neg h1]
      have : ¬ (decide (48 ≤ (c : Int)) && decide ((c : Int) ≤ 57)) = true := by simp; omega
      rw [if_neg this]
      by_cases h2 : 97 ≤ c ∧ c ≤ 102
      · rw [if_pos h2, if_pos h2]
        simp only
        omega
      · rw [if_neg h2, if_neg h2]
  rw [e]
theorem reads1d (W : World) (g : Nat) (x : Value) (t : TypeId) (hg : W.heap.size = g) : Reads (W.alloc (.cells #[x] t)).drew (g + 1) 1 (some ⟨g, 0, none⟩) 1 [x] := by
  subst hg
  exact ⟨rfl, fun _ => ⟨_, rfl, by simp, fun j u hj => by
    match j, hj with
    | 0, hj => simp at hj; subst hj; simp [Addr.add]
    | j + 1, hj => simp at hj⟩⟩
set_option maxRecDepth 100000 in
set_option maxHeartbeats 8000000 in
theorem rblob_any (S : ByteArray) (p : Nat) (w : World) (hp : p + 1 < S.size) (hS : S.size ≤ 140737488351232) : Calls Tryz.prog 29 #[.string S, .int .i64 p] w fun r w' => r = .returned (anR (blobA S p)) ∧ Below w.heap.size w w' := by
  obtain ⟨iv, hv1, hv2, hv3, hv4⟩ := info_parts u8_info
  unfold blobA
  obtain ⟨R, hR⟩ : ∃ R, ubj [] (p + 2) (ubl ((bts S).drop (p + 2))) = R := ⟨_, rfl⟩
  have HR := Lib.hid hR
  rw [hR]
  clear hR
  have hSI : (S.size : Int) ≤ 140737488351232 := by omega
  have hpI : (p : Int) + 1 < S.size := by omega
  have HN := Lib.hid (rq_new w)
  have HAT := Lib.hid (fun q W => rAt_any S q W)
  have HHX := Lib.hid rhexI
  go_enter Tryz.func29, Tryz.ntmps29
  go_wp2
  go_loopw [7, 8] (fun v i wr => ∃ (q : Nat) (acc : List Nat), i = .int .i64 q ∧ q ≤ S.size ∧ acc.length ≤ q ∧ ubj acc q (ubl ((bts S).drop q)) = R ∧ Rq w acc v wr) (fun _ i _ => S.size - (intOf i).toNat)
  case atStart => exact ⟨p + 2, [], by go_num, hp, Nat.zero_le _, HR.out, HN.out⟩
  case round =>
    clear HR HN
    obtain ⟨q, acc, rfl, hq2, hal, hE, hQ⟩ := hrel
    obtain ⟨A, c, rfl⟩ := own_form hQ.1
    have HE := Lib.hid hE
    have HQ := Lib.hid hQ
    have HAL := Lib.hid hal
    clear hE hQ
    have hc := atB_lt S q
    have haq : ∀ W, Calls Tryz.prog 28 #[.string S, .int .i64 (q : Int)] W fun e w' => e = .returned (.int .u8 (atB S q)) ∧ W = w' := fun W => HAT.out q W
    by_cases h39 : atB S q = 39
    · have hqs : q < S.size := in_of_39 h39
      have HRR := Lib.hid (show (.ok (acc, q + 1) : Except Nat (List Nat × Nat)) = R by
        rw [← HE.out, drop_at S q hqs, h39, ubl_end]
        simp [ubj])
      have hqI : (q : Int) < S.size := by omega
      rw [h39] at haq
      have HAQ := Lib.hid haq
      have hcv := conv_own HQ.out.1
      have HA8 := Lib.hid HQ.out.2.1
      have HB8 := Lib.hid HQ.out.2.2.1
      have HX8 := Lib.hid HQ.out.2.2.2.1
      clear HE h39 hc haq
      go_wp2_with fail
      refine (HAQ.out _).mono ?_
      rintro e w3 ⟨rfl, rfl⟩
      by_cases hbig : 1000 < (bstr acc).size
      · have hbI : (1000 : Int) < acc.length := by rw [bstr_size] at hbig; omega
        have HRES := Lib.hid (show anR (blobR p R) = .tuple #[tokV 0 ⟨#[]⟩ 0 0, .int .i64 0, spotV 3 p] by rw [← HRR.out]; simp only [textR, blobR, longA, if_pos hbig]; rfl)
        clear hbig
        go_wp2_with fail
        refine (rbad_any 3 p _).mono ?_
        rintro e w9 ⟨rfl, hb9⟩
        have HA9 := Lib.hid (Blk.below HA8.out hb9 (Blk.lt HA8.out))
        have HB9 := Lib.hid (Blk.below HB8.out hb9 (Blk.lt HB8.out))
        have HX9 := Lib.hid (below_low HX8.out HX8.out.size hb9)
        clear hb9
        obtain ⟨d0, d1, d2, d3⟩ := cell2b HB9.out
        obtain ⟨b0, b1, b2, b3⟩ := cell4b HA9.out
        have e0 := (HA9.out).frozen 0
        have e1 := (HA9.out).frozen 1
        have e2 := (HA9.out).frozen 2
        have e3 := (HA9.out).frozen 3
        unfold tokV spotV
        go_wp2
        obtain ⟨hA, hB⟩ := two_set HA9.out HB9.out (by omega) (.int .u8 0) (.string ⟨#[]⟩) (.int .u64 0) (.int .i64 0) (.int .i64 3) (.int .i64 p)
        have HB6 := Lib.hid (two_below (g := w.heap.size) (h := w.heap.size + 1) HX9.out (Nat.le_refl _) (Nat.le_succ _) (.int .u8 0) (.string ⟨#[]⟩) (.int .u64 0) (.int .i64 0) (.int .i64 3) (.int .i64 p))
        clear d0 d1 d2 d3 b0 b1 b2 b3 e0 e1 e2 e3
        obtain ⟨d0, d1, _, _⟩ := cell2b hB
        obtain ⟨c0, c1, c2, c3⟩ := cell4b hA
        refine bodyPost_ret (v := .tuple #[tokV 0 ⟨#[]⟩ 0 0, .int .i64 0, spotV 3 p]) ?_ rfl ?_
        · simp [results, Tryz.results29, go_sem, c0, c1, c2, c3, d0, d1, tokV, spotV]
        · exact ⟨by rw [HRES.out], HB6.out⟩
      · have hbI : ¬ (1000 : Int) < acc.length := by rw [bstr_size] at hbig; omega
        have HRES := Lib.hid (show anR (blobR p R) = .tuple #[tokV 5 (bstr acc) 0 p, .int .i64 ((q : Int) + 1), spotV 0 0] by rw [← HRR.out]; simp only [textR, blobR, longA, if_neg hbig]; rfl)
        clear hbig
        obtain ⟨d0, d1, d2, d3⟩ := cell2b HB8.out
        obtain ⟨b0, b1, b2, b3⟩ := cell4b HA8.out
        have e0 := (HA8.out).frozen 0
        have e1 := (HA8.out).frozen 1
        have e2 := (HA8.out).frozen 2
        have e3 := (HA8.out).frozen 3

        go_wp2
        obtain ⟨hA, hB⟩ := two_set HA8.out HB8.out (by omega) (.int .u8 5) (.string (bstr acc)) (.int .u64 0) (.int .i64 p) (.int .i64 0) (.int .i64 0)
        have HB6 := Lib.hid (two_below (g := w.heap.size) (h := w.heap.size + 1) HX8.out (Nat.le_refl _) (Nat.le_succ _) (.int .u8 5) (.string (bstr acc)) (.int .u64 0) (.int .i64 p) (.int .i64 0) (.int .i64 0))
        clear d0 d1 d2 d3 b0 b1 b2 b3 e0 e1 e2 e3
        obtain ⟨d0, d1, _, _⟩ := cell2b hB
        obtain ⟨c0, c1, c2, c3⟩ := cell4b hA
        refine bodyPost_ret (v := .tuple #[tokV 5 (bstr acc) 0 p, .int .i64 ((q : Int) + 1), spotV 0 0]) ?_ rfl ?_
        · simp [results, Tryz.results29, go_sem, c0, c1, c2, c3, d0, d1, tokV, spotV]
        · exact ⟨by rw [HRES.out], HB6.out⟩

    · have hcb : ((atB S q : Int) != 39) = true := by rw [bne_iff_ne]; omega
      have HAQ := Lib.hid haq
      clear haq
      cases hx : hexd (atB S q) with
      | none =>
        have HRR := Lib.hid (show (.error q : Except Nat (List Nat × Nat)) = R by rw [← HE.out, ubl_at0 h39 hx]; rfl)
        have HRES := Lib.hid (show anR (blobR p R) = .tuple #[tokV 0 ⟨#[]⟩ 0 0, .int .i64 0, spotV 6 q] by rw [← HRR.out]; rfl)
        have HA8 := Lib.hid HQ.out.2.1
        have HB8 := Lib.hid HQ.out.2.2.1
        have HX8 := Lib.hid HQ.out.2.2.2.1
        by_cases hqs : q < S.size
        · have hqI : (q : Int) < S.size := by omega
          have hix := fun W => rhexI (atB S q) hc W
          rw [hexI_none hx] at hix
          have HIX := Lib.hid hix
          have hy := atB_at S q hqs
          clear HE hix hx h39 hq2
          generalize atB S q = c0 at *
          go_wp2_with fail
          refine (HAQ.out _).mono ?_
          rintro e w3 ⟨rfl, rfl⟩
          go_wp2_with fail
          refine (HIX.out _).mono ?_
          rintro e w3 ⟨rfl, rfl⟩
          go_wp2_with fail
          refine (rbad_any 6 q _).mono ?_
          rintro e w9 ⟨rfl, hb9⟩
          have HA9 := Lib.hid (Blk.below HA8.out hb9 (Blk.lt HA8.out))
          have HB9 := Lib.hid (Blk.below HB8.out hb9 (Blk.lt HB8.out))
          have HX9 := Lib.hid (below_low HX8.out HX8.out.size hb9)
          clear hb9
          obtain ⟨d0, d1, d2, d3⟩ := cell2b HB9.out
          obtain ⟨b0, b1, b2, b3⟩ := cell4b HA9.out
          have e0 := (HA9.out).frozen 0
          have e1 := (HA9.out).frozen 1
          have e2 := (HA9.out).frozen 2
          have e3 := (HA9.out).frozen 3
          unfold tokV spotV
          go_wp2
          obtain ⟨hA, hB⟩ := two_set HA9.out HB9.out (by omega) (.int .u8 0) (.string ⟨#[]⟩) (.int .u64 0) (.int .i64 0) (.int .i64 6) (.int .i64 q)
          have HB6 := Lib.hid (two_below (g := w.heap.size) (h := w.heap.size + 1) HX9.out (Nat.le_refl _) (Nat.le_succ _) (.int .u8 0) (.string ⟨#[]⟩) (.int .u64 0) (.int .i64 0) (.int .i64 6) (.int .i64 q))
          clear d0 d1 d2 d3 b0 b1 b2 b3 e0 e1 e2 e3
          obtain ⟨d0, d1, _, _⟩ := cell2b hB
          obtain ⟨c0, c1, c2, c3⟩ := cell4b hA
          refine bodyPost_ret (v := .tuple #[tokV 0 ⟨#[]⟩ 0 0, .int .i64 0, spotV 6 q]) ?_ rfl ?_
          · simp [results, Tryz.results29, go_sem, c0, c1, c2, c3, d0, d1, tokV, spotV]
          · exact ⟨by rw [HRES.out], HB6.out⟩

        · have hqI : (S.size : Int) ≤ q := by omega
          clear HE hx h39 hq2 hqs
          generalize atB S q = c0 at *
          go_wp2_with fail
          refine (HAQ.out _).mono ?_
          rintro e w3 ⟨rfl, rfl⟩
          go_wp2_with fail
          refine (rbad_any 6 q _).mono ?_
          rintro e w9 ⟨rfl, hb9⟩
          have HA9 := Lib.hid (Blk.below HA8.out hb9 (Blk.lt HA8.out))
          have HB9 := Lib.hid (Blk.below HB8.out hb9 (Blk.lt HB8.out))
          have HX9 := Lib.hid (below_low HX8.out HX8.out.size hb9)
          clear hb9
          obtain ⟨d0, d1, d2, d3⟩ := cell2b HB9.out
          obtain ⟨b0, b1, b2, b3⟩ := cell4b HA9.out
          have e0 := (HA9.out).frozen 0
          have e1 := (HA9.out).frozen 1
          have e2 := (HA9.out).frozen 2
          have e3 := (HA9.out).frozen 3
          unfold tokV spotV
          go_wp2
          obtain ⟨hA, hB⟩ := two_set HA9.out HB9.out (by omega) (.int .u8 0) (.string ⟨#[]⟩) (.int .u64 0) (.int .i64 0) (.int .i64 6) (.int .i64 q)
          have HB6 := Lib.hid (two_below (g := w.heap.size) (h := w.heap.size + 1) HX9.out (Nat.le_refl _) (Nat.le_succ _) (.int .u8 0) (.string ⟨#[]⟩) (.int .u64 0) (.int .i64 0) (.int .i64 6) (.int .i64 q))
          clear d0 d1 d2 d3 b0 b1 b2 b3 e0 e1 e2 e3
          obtain ⟨d0, d1, _, _⟩ := cell2b hB
          obtain ⟨c0, c1, c2, c3⟩ := cell4b hA
          refine bodyPost_ret (v := .tuple #[tokV 0 ⟨#[]⟩ 0 0, .int .i64 0, spotV 6 q]) ?_ rfl ?_
          · simp [results, Tryz.results29, go_sem, c0, c1, c2, c3, d0, d1, tokV, spotV]
          · exact ⟨by rw [HRES.out], HB6.out⟩

      | some a =>
        have hqs := hex_in hx
        have ha16 := (hexd_some hx).1
        have hqI : (q : Int) < S.size := by omega
        have hix := fun W => rhexI (atB S q) hc W
        rw [hexI_some hx] at hix
        have HIX := Lib.hid hix
        have hy := atB_at S q hqs
        have haI : (a : Int) < 16 := by omega
        have ha0 : (0 : Int) ≤ a := by omega
        have hd := atB_lt S (q + 1)
        have hdx := fun W => rhexI (atB S (q + 1)) hd W
        have had : ∀ W, Calls Tryz.prog 28 #[.string S, .int .i64 ((q : Int) + 1)] W fun e w' => e = .returned (.int .u8 (atB S (q + 1))) ∧ W = w' := fun W => HAT.out (q + 1) W
        have HAD := Lib.hid had
        cases hx2 : hexd (atB S (q + 1)) with
        | none =>
          have HRR := Lib.hid (show (.error (q + 1) : Except Nat (List Nat × Nat)) = R by rw [← HE.out, ubl_at1 h39 hx hx2]; rfl)
          have HRES := Lib.hid (show anR (blobR p R) = .tuple #[tokV 0 ⟨#[]⟩ 0 0, .int .i64 0, spotV 6 ((q : Int) + 1)] by rw [← HRR.out]; rfl)
          have HA8 := Lib.hid HQ.out.2.1
          have HB8 := Lib.hid HQ.out.2.2.1
          have HX8 := Lib.hid HQ.out.2.2.2.1
          rw [hexI_none hx2] at hdx
          have HDX := Lib.hid hdx
          clear HE hix hx h39 hq2 hx2 hdx had
          generalize atB S (q + 1) = d0 at *
          generalize atB S q = c0 at *
          go_wp2_with fail
          refine (HAQ.out _).mono ?_
          rintro e w3 ⟨rfl, rfl⟩
          go_wp2_with fail
          refine (HIX.out _).mono ?_
          rintro e w3 ⟨rfl, rfl⟩
          go_wp2_with fail
          refine (HAD.out _).mono ?_
          rintro e w3 ⟨rfl, rfl⟩
          go_wp2_with fail
          refine (HDX.out _).mono ?_
          rintro e w3 ⟨rfl, rfl⟩
          go_wp2_with fail
          refine (rbad_any 6 ((q : Int) + 1) _).mono ?_
          rintro e w9 ⟨rfl, hb9⟩
          have HA9 := Lib.hid (Blk.below HA8.out hb9 (Blk.lt HA8.out))
          have HB9 := Lib.hid (Blk.below HB8.out hb9 (Blk.lt HB8.out))
          have HX9 := Lib.hid (below_low HX8.out HX8.out.size hb9)
          clear hb9
          obtain ⟨d0, d1, d2, d3⟩ := cell2b HB9.out
          obtain ⟨b0, b1, b2, b3⟩ := cell4b HA9.out
          have e0 := (HA9.out).frozen 0
          have e1 := (HA9.out).frozen 1
          have e2 := (HA9.out).frozen 2
          have e3 := (HA9.out).frozen 3
          unfold tokV spotV
          go_wp2
          obtain ⟨hA, hB⟩ := two_set HA9.out HB9.out (by omega) (.int .u8 0) (.string ⟨#[]⟩) (.int .u64 0) (.int .i64 0) (.int .i64 6) (.int .i64 ((q : Int) + 1))
          have HB6 := Lib.hid (two_below (g := w.heap.size) (h := w.heap.size + 1) HX9.out (Nat.le_refl _) (Nat.le_succ _) (.int .u8 0) (.string ⟨#[]⟩) (.int .u64 0) (.int .i64 0) (.int .i64 6) (.int .i64 ((q : Int) + 1)))
          clear d0 d1 d2 d3 b0 b1 b2 b3 e0 e1 e2 e3
          obtain ⟨d0, d1, _, _⟩ := cell2b hB
          obtain ⟨c0, c1, c2, c3⟩ := cell4b hA
          refine bodyPost_ret (v := .tuple #[tokV 0 ⟨#[]⟩ 0 0, .int .i64 0, spotV 6 ((q : Int) + 1)]) ?_ rfl ?_
          · simp [results, Tryz.results29, go_sem, c0, c1, c2, c3, d0, d1, tokV, spotV]
          · exact ⟨by rw [HRES.out], HB6.out⟩

        | some b =>
          have hb16 := (hexd_some hx2).1
          have hqs2 := hex_in hx2
          have HQ2 := Lib.hid (show ubj (acc ++ [16 * a + b]) (q + 2) (ubl ((bts S).drop (q + 2))) = R by rw [← HE.out, ubl_at2 h39 hx hx2])
          rw [hexI_some hx2] at hdx
          have HDX := Lib.hid hdx
          have hbI : (b : Int) < 16 := by omega
          have hb0 : (0 : Int) ≤ b := by omega
          have hq2I : (q : Int) + 1 < S.size := by omega
          have hw1 : IntKind.i64.wrap ((q : Int) + 1) = (q : Int) + 1 := by simp [IntKind.wrap, IntKind.bits, IntKind.signed]; omega
          have hyd := atB_at S (q + 1) hqs2
          have htn : ((q : Int) + 1).toNat = q + 1 := by omega
          have hq01 : (0 : Int) ≤ (q : Int) + 1 := by omega
          obtain ⟨k, hk⟩ : ∃ k, 16 * a + b = k := ⟨_, rfl⟩
          have hk256 : k < 256 := by omega
          have q4 : IntKind.u8.wrap (16 * (a : Int) + b) = (k : Int) := by simp [IntKind.wrap, IntKind.bits, IntKind.signed]; omega
          have q5 : (16 * (a : Int) + b) % 256 = (k : Int) := by omega
          have q6 : IntKind.i64.wrap (16 * (a : Int)) = 16 * (a : Int) := by simp [IntKind.wrap, IntKind.bits, IntKind.signed]; omega
          have q7 : IntKind.i64.wrap (16 * (a : Int) + b) = 16 * (a : Int) + b := by simp [IntKind.wrap, IntKind.bits, IntKind.signed]; omega
          rw [hk] at HQ2
          have HLEN := Lib.hid (show (acc ++ [k]).length = acc.length + 1 by simp)
          have HS5 := Lib.hid (rq_step HQ.out (one_alloc (o := .cells #[.int .u8 (k : Int)] 5)).drew)
          have hrd := reads1d wr wr.heap.size (.int .u8 (k : Int)) 5 rfl
          have HRD := Lib.hid hrd
          clear HE hix hx h39 hx2 hdx had hk hrd
          generalize atB S (q + 1) = d0 at *
          generalize atB S q = c0 at *
          go_wp2_with fail
          refine (HAQ.out _).mono ?_
          rintro e w3 ⟨rfl, rfl⟩
          go_wp2_with fail
          refine (HIX.out _).mono ?_
          rintro e w3 ⟨rfl, rfl⟩
          go_wp2_with fail
          refine (HAD.out _).mono ?_
          rintro e w3 ⟨rfl, rfl⟩
          go_wp2_with fail
          refine (HDX.out _).mono ?_
          rintro e w3 ⟨rfl, rfl⟩
          go_wp2_with fail
          go_region_law (first
            | (go_simp; go_at_call 56; (first | (with_reducible refine (HIX.out _).mono ?_) | (with_reducible refine (HDX.out _).mono ?_)); rintro e w5 ⟨rfl, rfl⟩)
            | (refine step_append_any _ (by rfl) (.tmp 43) (.tmp 56) 36 (by rfl) (w.heap.size + 2) 5 iv _ 1 1 Tryz.underlying36 hv1 hv2 hv3 hv4 rfl (by omega) _ acc.length (vals8 acc) (by rfl) HS5.out.1 _ _ 1 1 [.int .u8 k] (by rfl) HRD.out (by intro u hu; simp at hu; subst hu; rfl) (by simp only [maxLen]; omega) (by omega) HS5.out.2.2.2.2 ?_; intro A1 k1 w4 hown1 hg1; (have HS6 := Lib.hid (rq_grown (acc' := acc ++ [k]) HS5.out (by rw [HLEN.out, ← vals8_snoc]; exact hown1) hg1)); clear hown1 hg1))
          all_goals
            go_wp2
            go_roundw
            case rel => exact ⟨q + 2, acc ++ [k], by go_num, by omega, by rw [HLEN.out]; omega, HQ2.out, HS6.out⟩
            case measure => simp [intOf]; omega
end Go.Proofs.YtibnmkjabpoppaaGreatDoor
