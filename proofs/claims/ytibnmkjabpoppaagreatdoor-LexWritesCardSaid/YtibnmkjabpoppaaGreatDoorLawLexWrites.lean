/- Layer 13: ref13.Write; the walk of LexWrites. Conditions: those of each lemma. -/
import Derived.Test.YtibnmkjabpoppaaGreatDoorLx38
import Derived.Test.YtibnmkjabpoppaaGreatDoorOpenToks
namespace Go.Proofs.YtibnmkjabpoppaaGreatDoor
open Go Go.RowKit
set_option linter.unusedVariables false
set_option linter.unusedSimpArgs false
theorem str_ext13 {x y : ByteArray} (h : x.toList = y.toList) : x = y := by
  rw [ByteArray.toList_eq, ByteArray.toList_eq] at h
  exact ByteArray.ext (Array.toList_inj.1 h)
theorem refY_size (k n : Nat) (x : ByteArray) (hx : x.size ≤ 100000) (hn : n < 18446744073709551616) : (refY k x n).size ≤ 300000 := by
  have h3 := wrT_size 3 n x hx hn
  have h4 := wrT_size 4 0 x hx (by omega)
  have h5 := wrT_size 5 0 x hx (by omega)
  unfold wrT at h3 h4 h5
  simp only [↓reduceIte] at h3
  simp at h4 h5
  unfold refY
  split
  · exact h3
  split
  · split
    · exact Nat.zero_le _
    · simpa using h4
  split
  · split
    · exact Nat.zero_le _
    · simpa using h5
  split
  · omega
  · exact Nat.zero_le _
set_option maxRecDepth 100000 in
set_option maxHeartbeats 8000000 in
theorem refWrite_any (A : Option Addr) (l : List TI) (c : Nat) (w : World) (hI : TksI w A l) (hf : ∀ t ∈ l, FitI t) (hl : l.length ≤ 100000) : Calls Tryz.prog 7 #[.slice A l.length c] w fun e w' => e = .returned (wrR (wrJ true l)) ∧ Below w.heap.size w w' := by
  obtain ⟨R, hR⟩ : ∃ R, wrO [] (wrJ true l) = R := ⟨_, rfl⟩
  have hR2 : wrJ true l = R := by rw [← hR]; cases wrJ true l <;> rfl
  rw [hR2]
  have HR := Lib.hid hR
  have HI := Lib.hid hI
  have HFT := Lib.hid hf
  obtain ⟨n, hn⟩ : ∃ n, l.length = n := ⟨_, rfl⟩
  have HN := Lib.hid hn
  rw [hn] at hl ⊢
  clear hR hR2 hI hf hn
  go_enter Tryz.func7, Tryz.ntmps7
  go_wp2
  go_loopw [4, 5] (fun s i wr => ∃ (j : Nat) (L : List Nat), j ≤ n ∧ i = .int .i64 j ∧ s = .string (bstr L) ∧ L.length ≤ 300001 * j ∧ wrO L (wrJ (decide (j = 0)) (l.drop j)) = R ∧ Below w.heap.size w wr) (fun _ i _ => n - (intOf i).toNat)
  case atStart => exact ⟨0, [], Nat.zero_le _, rfl, rfl, Nat.zero_le _, HR.out, Below.refl _ _⟩
  case round =>
    clear HR
    obtain ⟨j, L, hj, rfl, rfl, hL, hE, hB⟩ := hrel
    have HE := Lib.hid hE
    have HB := Lib.hid hB
    have HLL := Lib.hid hL
    clear hE hB hL
    by_cases hlt : j < n
    · obtain ⟨⟨k, x, v, p⟩, g1⟩ : ∃ t, l[j]? = some t := ⟨l[j]'(by rw [HN.out]; exact hlt), List.getElem?_eq_getElem _⟩
      have hdrop : l.drop j = (k, x, v, p) :: l.drop (j + 1) := by
        have hjl : j < l.length := by rw [HN.out]; exact hlt
        rw [List.drop_eq_getElem_cons hjl]
        rw [List.getElem?_eq_getElem hjl] at g1
        rw [Option.some.inj g1]
      obtain ⟨hv64, hxs⟩ := HFT.out _ (List.mem_of_getElem? g1)
      simp only at hv64 hxs
      obtain ⟨b1, o1, rfl, l1, hc⟩ := HI.out.resolve_left (by rintro rfl; simp at g1)
      obtain ⟨a1, a2, a3, a4⟩ := hc j k x v p g1
      have d1 := (HB.out.cell (p := ⟨b1, _, none⟩) l1).trans a1
      have d2 := (HB.out.cell (p := ⟨b1, _, none⟩) l1).trans a2
      have d3 := (HB.out.cell (p := ⟨b1, _, none⟩) l1).trans a3
      have d4 := (HB.out.cell (p := ⟨b1, _, none⟩) l1).trans a4
      have HTX := Lib.hid (txt_any k x v p wr hv64)
      obtain ⟨y, hy⟩ : ∃ y, refY k x v = y := ⟨_, rfl⟩
      rw [hy] at HTX
      have hsz := refY_size k v x hxs hv64
      rw [hy] at hsz
      have HY := Lib.hid hy
      have HSZ := Lib.hid hsz
      have hno := fun h => wrJ_no (f := decide (j = 0)) (t := (k, x, v, p)) (r := l.drop (j + 1)) h L
      have hyes := fun h => wrJ_yes (f := decide (j = 0)) (t := (k, x, v, p)) (r := l.drop (j + 1)) h L
      simp only at hno hyes
      rw [hdrop] at HE
      have jI : (j : Int) < n := by omega
      have HNO := Lib.hid (fun (h : (wrT k x v).2 = false) => (show none = R by rw [← HE.out, hno h]))
      have HYES := Lib.hid (fun (h : (wrT k x v).2 = true) => (show wrO (L ++ ((if decide (j = 0) = true then [] else [32]) ++ bts y)) (wrJ false (l.drop (j + 1))) = R by
        have := hyes h
        rw [← refY_wrT h, HY.out] at this
        rw [← HE.out, this]))
      clear a1 a2 a3 a4 hc g1 hdrop hno hyes hy hsz hv64 hxs
      go_wp2_with fail
      refine (HTX.out).mono ?_
      rintro e w2 ⟨rfl, hb2⟩
      have HB2 := Lib.hid (bj13 HB.out hb2)
      have e1 := (hb2.cell (p := ⟨b1, _, none⟩) (Nat.lt_of_lt_of_le l1 HB.out.size)).trans d1
      have e2 := (hb2.cell (p := ⟨b1, _, none⟩) (Nat.lt_of_lt_of_le l1 HB.out.size)).trans d2
      have e3 := (hb2.cell (p := ⟨b1, _, none⟩) (Nat.lt_of_lt_of_le l1 HB.out.size)).trans d3
      have e4 := (hb2.cell (p := ⟨b1, _, none⟩) (Nat.lt_of_lt_of_le l1 HB.out.size)).trans d4
      clear hb2 d1 d2 d3 d4
      by_cases hy0 : y.size = 0
      · obtain rfl := size_0 hy0
        have HRR := Lib.hid (HNO.out (by
          cases hb : (wrT k x v).2 with
          | false => rfl
          | true =>
            have := (ref_yes hb).1
            rw [HY.out] at this
            exact absurd this (by decide)))
        clear hy0
        go_wp2
        go_ret2
        exact ⟨by rw [← HRR.out]; rfl, HB2.out⟩
      · have hn1 := str_no hy0
        have hn2 := str_em hy0
        have hpos : 0 < y.size := by omega
        have hg := good_one y 0 hpos
        have HON := Lib.hid (rone_any y 0 w2 hpos (by have := HSZ.out; omega))
        go_wp2_with fail
        refine (HON.out).mono ?_
        rintro e w3 ⟨rfl, hb3⟩
        have HB3 := Lib.hid (bj13 HB2.out hb3)
        have hlb : b1 < w2.heap.size := Nat.lt_of_lt_of_le l1 HB2.out.size
        have f1 := (hb3.cell (p := ⟨b1, _, none⟩) hlb).trans e1
        have f2 := (hb3.cell (p := ⟨b1, _, none⟩) hlb).trans e2
        have f3 := (hb3.cell (p := ⟨b1, _, none⟩) hlb).trans e3
        have f4 := (hb3.cell (p := ⟨b1, _, none⟩) hlb).trans e4
        have hlc : b1 < w3.heap.size := Nat.lt_of_lt_of_le hlb hb3.size
        clear hb3 e1 e2 e3 e4 hlb
        cases hA : oneA y 0 with
        | bad e0 q0 =>
          have he0 : ((e0 : Int) != 0) = true := by rw [bne_iff_ne]; have := (hg.1 e0 q0 hA).1; omega
          have HRR := Lib.hid (HNO.out (by
            cases hb : (wrT k x v).2 with
            | false => rfl
            | true =>
              have := (ref_yes hb).2
              rw [HY.out, hA] at this
              cases this))
          have hbl := Below.setCell (Below.refl w3.heap.size w3 |>.alloc (Nat.le_refl _) (.cells #[.int .u8 0, .string ⟨#[]⟩, .int .u64 0, .int .i64 0] 34) |>.alloc (by simp) (.cells #[.int .i64 e0, .int .i64 q0] 29)) (p := ⟨w3.heap.size, 3, none⟩) (Nat.le_refl _) (.int .i64 p)
          have g1 := (hbl.cell (p := ⟨b1, _, none⟩) hlc).trans f1
          have g2 := (hbl.cell (p := ⟨b1, _, none⟩) hlc).trans f2
          have g3 := (hbl.cell (p := ⟨b1, _, none⟩) hlc).trans f3
          have g4 := (hbl.cell (p := ⟨b1, _, none⟩) hlc).trans f4
          have HBE := Lib.hid (bj13 HB3.out hbl)
          obtain ⟨h2, k2⟩ := two_blk w3 (.int .u8 0) (.string ⟨#[]⟩) (.int .u64 0) (.int .i64 0) (.int .i64 e0) (.int .i64 q0) 34 29
          obtain ⟨m0, m1, m2, m3⟩ := cell4b h2
          have m4 := h2.frozen 3
          obtain ⟨r0, r1, r2, r3⟩ := cell2b (k2.far (p := ⟨w3.heap.size, 3, none⟩) (by show w3.heap.size + 1 ≠ w3.heap.size; omega) (.int .i64 p))
          clear hbl h2 k2 hA hg
          unfold anR tokV spotV
          dsimp only
          go_wp2_with fail
          go_big_quiet (fail)
          rename_i nq
          have HF := Lib.hid (below_drewN (bj13 HB3.out (bj13 (one_alloc (w := w3) (o := .cells #[.int .u8 0, .string ⟨#[]⟩, .int .u64 0, .int .i64 p] 34)) (one_alloc (o := .cells #[.int .i64 e0, .int .i64 q0] 29)))) nq)
          go_wp2
          go_ret2
          exact ⟨by rw [← HRR.out]; rfl, HF.out⟩
        | ok k' x' n' a q =>
          obtain ⟨rfl, hq1, hq2⟩ := hg.2 _ _ _ _ _ hA
          have hNR : ¬ (k' = k ∧ x' = x ∧ n' = v ∧ q = y.size) → (wrT k x v).2 = false := fun hne => by
            cases hb : (wrT k x v).2 with
            | false => rfl
            | true =>
              have := (ref_yes hb).2
              rw [HY.out, hA] at this
              injection this with z1 z2 z3 z4 z5
              exact absurd ⟨z1, z2, z3, z5⟩ hne
          have hYR : (k' = k ∧ x' = x ∧ n' = v ∧ q = y.size) → (wrT k x v).2 = true := fun he => by
            obtain ⟨rfl, rfl, rfl, rfl⟩ := he
            cases hb : (wrT k' x' n').2 with
            | true => rfl
            | false => exact absurd (by rw [HY.out]; exact hA) (ref_no (a := 0) hb (by rw [HY.out]; exact hpos))
          have HNR := Lib.hid hNR
          have HYR := Lib.hid hYR
          have hbl := (Below.refl w3.heap.size w3 |>.alloc (Nat.le_refl _) (.cells #[.int .u8 k', .string x', .int .u64 n', .int .i64 p] 34) |>.alloc (by simp) (.cells #[.int .i64 0, .int .i64 0] 29))
          have hbl0 := (Below.refl w3.heap.size w3 |>.alloc (Nat.le_refl _) (.cells #[.int .u8 k', .string x', .int .u64 n', .int .i64 0] 34) |>.alloc (by simp) (.cells #[.int .i64 0, .int .i64 0] 29))
          have g1 := (hbl.cell (p := ⟨b1, _, none⟩) hlc).trans f1
          have g2 := (hbl.cell (p := ⟨b1, _, none⟩) hlc).trans f2
          have g3 := (hbl.cell (p := ⟨b1, _, none⟩) hlc).trans f3
          have g4 := (hbl.cell (p := ⟨b1, _, none⟩) hlc).trans f4
          have g5 := (hbl0.cell (p := ⟨b1, _, none⟩) hlc).trans f4
          have HBL := Lib.hid (bj13 HB3.out hbl)
          obtain ⟨h20, k20⟩ := two_blk w3 (.int .u8 k') (.string x') (.int .u64 n') (.int .i64 0) (.int .i64 0) (.int .i64 0) 34 29
          obtain ⟨h2, k2⟩ := two_blk w3 (.int .u8 k') (.string x') (.int .u64 n') (.int .i64 p) (.int .i64 0) (.int .i64 0) 34 29
          obtain ⟨m0, m1, m2, m3⟩ := cell4b h2
          have m4 := h20.frozen 3
          have m5 := h20.cell 3
          obtain ⟨r0, r1, r2, r3⟩ := cell2b k2
          clear hbl hbl0 h2 k2 h20 k20 hA hg hNR hYR
          unfold anR tokV spotV
          dsimp only
          by_cases hq : q = y.size
          · have hqI : ((q : Int) != y.size) = false := by rw [hq]; simp
            by_cases he : k' = k ∧ x' = x ∧ n' = v
            · obtain ⟨rfl, rfl, rfl⟩ := he
              have HEY := Lib.hid (HYES.out (HYR.out ⟨rfl, rfl, rfl, hq⟩))
              subst hq
              have hX : (bstr L).size ≤ 300001 * 100000 := by rw [bstr_size]; have := HLL.out; omega
              have hY : y.size ≤ 300000 := HSZ.out
              obtain ⟨X, hXX⟩ : ∃ X, bstr L = X := ⟨_, rfl⟩
              rw [hXX] at hX ⊢
              have HXX := Lib.hid hXX
              have z1 : ¬ (9223372036854775807 < X.size + 1) := by omega
              have z2 : X.size + 1 ≤ 9223372036854775807 := by omega
              have z3 : (X.size : Int) + 1 ≤ 9223372036854775807 := by omega
              have z4 : ¬ (9223372036854775807 < X.size + 1 + y.size) := by omega
              have z5 : X.size + 1 + y.size ≤ 9223372036854775807 := by omega
              have z6 : (X.size : Int) + 1 + y.size ≤ 9223372036854775807 := by omega
              have z7 : ¬ (9223372036854775807 < X.size + y.size) := by omega
              have z8 : X.size + y.size ≤ 9223372036854775807 := by omega
              have z9 : (X.size : Int) + y.size ≤ 9223372036854775807 := by omega
              have HYS := Lib.hid hY
              have jb : (j : Int) < 100000 := by omega
              clear hlt hX hY hXX
              go_wp2_with fail
              go_big_quiet (fail)
              rename_i nq
              have HF := Lib.hid (below_drewN HBL.out nq)
              clear g1 g2 g3 g4 g5 f1 f2 f3 f4 m0 m1 m2 m3 m4 m5 r0 r1 r2 r3
              by_cases hj0 : j = 0
              · subst hj0
                have HE2 := Lib.hid (show wrO (L ++ bts y) (wrJ (decide (1 = 0)) (l.drop 1)) = R by
                  have := HEY.out
                  simpa using this)
                go_wp2
                go_roundw
                case rel => exact ⟨1, L ++ bts y, by omega, rfl, by rw [← bstr_append, bstr_bts, HXX.out], by have := HLL.out; have := HYS.out; rw [List.length_append, bts_length]; omega, HE2.out, HF.out⟩
                case measure => simp [intOf]; omega
              · have hj0I : 0 < j := by omega
                have HE2 := Lib.hid (show wrO (L ++ [32] ++ bts y) (wrJ (decide (j + 1 = 0)) (l.drop (j + 1))) = R by
                  have := HEY.out
                  simpa [hj0] using this)
                go_wp2
                go_roundw
                case rel => exact ⟨j + 1, L ++ [32] ++ bts y, by omega, by go_num, by rw [← bstr_append, ← bstr_append, bstr_bts, HXX.out]; rfl, by have := HLL.out; have := HYS.out; rw [List.length_append, List.length_append, bts_length]; simp; omega, HE2.out, HF.out⟩
                case measure => simp [intOf]; omega
            · have HRR := Lib.hid (HNO.out (HNR.out (fun h => he ⟨h.1, h.2.1, h.2.2.1⟩)))
              by_cases hk : k' = k
              · subst hk
                by_cases hxx : x' = x
                · subst hxx
                  have hnn : ¬ n' = v := fun h => he ⟨rfl, rfl, h⟩
                  have hnb : ((n' : Int) == v) = false := beq_no13 (by omega)
                  clear he hq
                  go_wp2_with fail
                  go_big_quiet (fail)
                  rename_i nq
                  have HF := Lib.hid (below_drewN HBL.out nq)
                  go_wp2
                  go_ret2
                  exact ⟨by rw [← HRR.out]; rfl, HF.out⟩
                · have hxb : ¬ x'.toList = x.toList := fun e => hxx (str_ext13 e)
                  have hxc : (x'.toList == x.toList) = false := by rw [beq_eq_false_iff_ne]; exact hxb
                  clear he hq
                  go_wp2_with fail
                  go_big_quiet (fail)
                  rename_i nq
                  have HF := Lib.hid (below_drewN HBL.out nq)
                  go_wp2
                  go_ret2
                  exact ⟨by rw [← HRR.out]; rfl, HF.out⟩
              · have hkb : ((k' : Int) == k) = false := beq_no13 (by omega)
                clear he hq
                go_wp2_with fail
                go_big_quiet (fail)
                rename_i nq
                have HF := Lib.hid (below_drewN HBL.out nq)
                go_wp2
                go_ret2
                exact ⟨by rw [← HRR.out]; rfl, HF.out⟩
          · have hqI : ((q : Int) != y.size) = true := by rw [bne_iff_ne]; omega
            have HRR := Lib.hid (HNO.out (HNR.out (fun h => hq h.2.2.2)))
            clear hq
            go_wp2_with fail
            go_big_quiet (fail)
            rename_i nq
            have HF := Lib.hid (below_drewN HBL.out nq)
            go_wp2
            go_ret2
            exact ⟨by rw [← HRR.out]; rfl, HF.out⟩
    · obtain rfl : j = n := by omega
      have HRR := Lib.hid (show some L = R by
        rw [← HE.out, List.drop_of_length_le (by rw [HN.out]; exact Nat.le_refl _)]
        simp [wrJ, wrO])
      go_wp2
      go_ret2
      exact ⟨by rw [← HRR.out]; rfl, HB.out⟩
theorem wrR_form2 (R : Option (List Nat)) : ∃ (x : ByteArray) (c : Nat), wrR R = .tuple #[.string x, .int .i64 c] := by
  cases R with
  | none => exact ⟨_, 2, rfl⟩
  | some L => exact ⟨_, 0, rfl⟩
set_option maxRecDepth 100000 in
set_option maxHeartbeats 8000000 in
theorem lexWrites_walk (A0 : Option Addr) (l0 : List TI) (n0 k0_ : Nat) (hn0 : n0 = l0.length) (hm0 : n0 ≤ maxLen) (hx0 : ∀ x ∈ l0, FitT x) (w : World) (I0 : Toksl w w.heap.size A0 l0) (hG : Gv w) :
    Calls Tryz.prog 3 #[.slice A0 n0 k0_] w fun e w' => e = .returned (.bool true) ∧ Below w.heap.size w w' := by
  have HW := Lib.hid (works13_any w hG.1)
  have HG := Lib.hid hG
  have HI := Lib.hid (show TksI w A0 l0 from I0)
  have HN := Lib.hid hn0
  have HLG := Lib.hid (fun W (h : TksI W A0 l0) => long_any A0 l0 k0_ W h)
  rw [← hn0] at HLG
  obtain ⟨b, hb⟩ : ∃ b, lgB l0 = b := ⟨_, rfl⟩
  rw [hb] at HLG
  have HB := Lib.hid hb
  have HX := Lib.hid hx0
  clear hb hx0 I0 hG hm0 hn0
  cases b with
  | true =>
    go_enter Tryz.func3, Tryz.ntmps3
    go_wp2_with fail
    refine (HW.out).mono ?_
    rintro e w1 ⟨rfl, hb1⟩
    have HB1 := Lib.hid hb1
    have HI1 := Lib.hid (tki_step HI.out hb1)
    clear hb1
    go_wp2_with fail
    refine (HLG.out _ HI1.out).mono ?_
    rintro e w2 ⟨rfl, hb2⟩
    have HB2 := Lib.hid (bj13 HB1.out hb2)
    clear hb2
    go_wp2
    go_ret
    exact ⟨rfl, HB2.out⟩
  | false =>
  obtain ⟨R, hR⟩ : ∃ R, wrJ true l0 = R := ⟨_, rfl⟩
  obtain ⟨x, c, hxc⟩ := wrR_form2 R
  have HWR := Lib.hid (fun W (h : TksI W A0 l0) (hG : Gv W) => write_any A0 l0 k0_ W h hG (fun t ht => ⟨HX.out t ht, by have := (lg_no HB.out).2 t ht; omega⟩) (by have := (lg_no HB.out).1; omega))
  have HRW := Lib.hid (fun W (h : TksI W A0 l0) => refWrite_any A0 l0 k0_ W h (fun t ht => ⟨HX.out t ht, by have := (lg_no HB.out).2 t ht; omega⟩) (by have := (lg_no HB.out).1; omega))
  rw [← HN.out, hR, hxc] at HWR HRW
  clear hR hxc
  go_enter Tryz.func3, Tryz.ntmps3
  go_wp2_with fail
  refine (HW.out).mono ?_
  rintro e w1 ⟨rfl, hb1⟩
  have HB1 := Lib.hid hb1
  have HI1 := Lib.hid (tki_step HI.out hb1)
  clear hb1
  go_wp2_with fail
  refine (HLG.out _ HI1.out).mono ?_
  rintro e w2 ⟨rfl, hb2⟩
  have HB2 := Lib.hid (bj13 HB1.out hb2)
  have HI2 := Lib.hid (tki_step HI1.out hb2)
  clear hb2
  go_wp2_with fail
  refine (HWR.out _ HI2.out (gv_step HG.out HB2.out)).mono ?_
  rintro e w3 ⟨rfl, hb3⟩
  have HB3 := Lib.hid (bj13 HB2.out hb3)
  have HI3 := Lib.hid (tki_step HI2.out hb3)
  clear hb3
  go_wp2_with fail
  refine (HRW.out _ HI3.out).mono ?_
  rintro e w4 ⟨rfl, hb4⟩
  have HB4 := Lib.hid (bj13 HB3.out hb4)
  clear hb4
  go_wp2
  go_ret
  exact ⟨rfl, HB4.out⟩
end Go.Proofs.YtibnmkjabpoppaaGreatDoor
