/- Layer 13: name. Conditions: those of each lemma. -/
import Derived.Test.YtibnmkjabpoppaaGreatDoorLx9
import Derived.Lib.ConvBytes
namespace Go.Proofs.YtibnmkjabpoppaaGreatDoor
open Go Go.RowKit
set_option linter.unusedVariables false
set_option linter.unusedSimpArgs false
/-- where the first capital letter stands -/
def cpl (l : List Nat) : Nat := (l.takeWhile (fun c : Nat => !capB (c : Int))).length
def namT (p : Nat) (x : ByteArray) : Value := if cpl (bts x) < x.size then .tuple #[tokV 0 ⟨#[]⟩ 0 0, spotV 6 ((p : Int) + cpl (bts x))] else if 32 < x.size then .tuple #[tokV 0 ⟨#[]⟩ 0 0, spotV 3 p] else .tuple #[tokV 2 x 0 p, spotV 0 0]
theorem cpl_yes {c : Nat} {l : List Nat} (h : capB (c : Int) = true) : cpl (c :: l) = 0 := by
  unfold cpl
  rw [List.takeWhile_cons_of_neg (by simp [h])]
  rfl
theorem cpl_no {c : Nat} {l : List Nat} (h : capB (c : Int) = false) : cpl (c :: l) = 1 + cpl l := by
  unfold cpl
  rw [List.takeWhile_cons_of_pos (by simp [h]), List.length_cons]
  omega
theorem conv_any (x : ByteArray) (W : World) : ∃ (W2 : World) (C : Nat), (convert 9 36 (.string x)).run Tryz.prog W = .ok (.slice (some ⟨W.heap.size, 0, none⟩) x.size C) W2 ∧ Below W.heap.size W W2 ∧ (∀ j, j < x.size → W2.cell? ⟨W.heap.size, j, none⟩ = some (.int .u8 ((bts x).getD j 0))) := by
  refine ⟨_, _, Lib.run_convert_string_bytes W 9 36 5 x Tryz.underlying9 Tryz.underlying36 Tryz.underlying5, ⟨rfl, rfl, rfl, by rw [Lib.bytesWorld_size]; omega, fun k hk => Lib.bytesWorld_at_old W 5 x k hk⟩, fun j hj => ?_⟩
  rw [Lib.bytesWorld_cell W 5 x j hj]
  have e : (bts x).getD j 0 = (x.data.toList.getD j 0).toNat := by
    unfold bts
    rw [List.getD_eq_getElem?_getD, List.getD_eq_getElem?_getD, List.getElem?_map]
    cases x.data.toList[j]? <;> rfl
  rw [e]
set_option maxRecDepth 100000 in
set_option maxHeartbeats 8000000 in
theorem name_any (g : Nat) (S : ByteArray) (p : Nat) (w : World) (h : Rd w g S p) (hT : Tb w) (h0 : g ≠ 1) (h1 : g ≠ 0) (hp : p ≤ S.size) (hS : S.size ≤ 140737488351232) : Calls Tryz.prog 46 #[.pointer (some ⟨g, 0, none⟩)] w fun r w' => r = .returned (namT p (S.extract p (p + wl ((bts S).drop p)))) ∧ Rd w' g S (p + wl ((bts S).drop p)) ∧ Bx g w w' := by
  have HRUN := Lib.hid (fun W hr => run_any g S p W hr hp hS)
  generalize hn : p + wl ((bts S).drop p) = n at *
  have hxs : (S.extract p n).size ≤ S.size := by rw [ByteArray.size_extract]; omega
  generalize hx : S.extract p n = x at *
  clear hn hx
  have hlt := Blk.lt h
  have hne : w.heap.size ≠ g := by omega
  have hne2 : w.heap.size + 1 ≠ g := by omega
  have HD := Lib.hid (rd_step h (bj13 (one_alloc (o := tokA)) (one_alloc (o := spotA))))
  have HT := Lib.hid (tb_step hT (bj13 (one_alloc (o := tokA)) (one_alloc (o := spotA))))
  obtain ⟨hA, hB⟩ := two_blk w (.int .u8 0) (.string ⟨#[]⟩) (.int .u64 0) (.int .i64 0) (.int .i64 0) (.int .i64 0) 34 29
  have HA := Lib.hid hA
  have HB := Lib.hid hB
  have HW := Lib.hid (bj13 (one_alloc (w := w) (o := tokA)) (one_alloc (o := spotA)))
  obtain ⟨c0, c1, f0, f1⟩ := rd_cells HD.out
  clear hA hB h hT
  go_enter Tryz.func46, Tryz.ntmps46
  go_wp2_with fail
  refine (HRUN.out _ HD.out).mono ?_
  rintro e w1 ⟨rfl, hr1, hb1⟩
  have HD1 := Lib.hid hr1
  have HA1 := Lib.hid (bx_blk HA.out hb1 hne)
  have HB1 := Lib.hid (bx_blk HB.out hb1 hne2)
  have HT1 := Lib.hid (tb_bx HT.out hb1 h0 h1)
  have HX1 := Lib.hid (bx_trans (bx_of HW.out rfl) hb1)
  have hsz : w.heap.size ≤ w1.heap.size := HX1.out.2.2.2.1
  clear hr1 hb1 HD HA HB HT HW c0 c1 f0 f1 HRUN
  obtain ⟨w2, C, hcv, hb2, hcl⟩ := conv_any x w1
  have HD2 := Lib.hid (rd_step HD1.out hb2)
  have HA2 := Lib.hid (Blk.below HA1.out hb2 (Blk.lt HA1.out))
  have HB2 := Lib.hid (Blk.below HB1.out hb2 (Blk.lt HB1.out))
  have HX2 := Lib.hid (bx_later HX1.out hb2)
  have HCL := Lib.hid hcl
  have HBB := Lib.hid hb2
  clear hb2 hcl HD1 HA1 HB1 HX1 HT1
  go_wp2
  go_loopw [17] (fun i wr => ∃ j : Nat, j ≤ x.size ∧ i = .int .i64 j ∧ j + cpl ((bts x).drop j) = cpl (bts x) ∧ wr = w2) (fun i _ => x.size - (intOf i).toNat)
  case atStart => exact ⟨0, Nat.zero_le _, rfl, by rw [List.drop_zero, Nat.zero_add], rfl⟩
  case round =>
    clear hcv
    obtain ⟨j, hj, rfl, hE, rfl⟩ := hrel
    have HE := Lib.hid hE
    clear hE
    by_cases hjs : j < x.size
    · have hjI : (j : Int) < x.size := by omega
      have hcell := HCL.out j hjs
      have hdr := drop_at x j hjs
      have hat : (bts x).getD j 0 = atB x j := rfl
      rw [hat] at hcell
      generalize hc : atB x j = c at *
      clear hat hc
      obtain ⟨b, hb⟩ : ∃ b, capB (c : Int) = b := ⟨_, rfl⟩
      have hcap := fun W => lcap_any (c : Int) W
      rw [hb] at hcap
      have HCAP := Lib.hid hcap
      clear hcap
      go_wp2_with fail
      refine (HCAP.out _).mono ?_
      rintro e w4 ⟨rfl, rfl⟩
      cases b with
      | true =>
        have HJ := Lib.hid (show cpl (bts x) = j by rw [← HE.out, hdr, cpl_yes hb]; rfl)
        clear hb hdr hcell HCAP
        have HRES := Lib.hid (show namT p x = .tuple #[tokV 0 ⟨#[]⟩ 0 0, spotV 6 ((p : Int) + j)] from (by unfold namT; rw [if_pos (by rw [HJ.out]; exact hjs), HJ.out]))
        go_wp2_with fail
        refine (wrong_any 6 ((p : Int) + j) _).mono ?_
        rintro e w3 ⟨rfl, hb3⟩
        have HA3 := Lib.hid (Blk.below HA2.out hb3 (Blk.lt HA2.out))
        have HB3 := Lib.hid (Blk.below HB2.out hb3 (Blk.lt HB2.out))
        have HD3 := Lib.hid (rd_step HD2.out hb3)
        have HX3 := Lib.hid (bx_later HX2.out hb3)
        clear hb3
        obtain ⟨d0, d1, d2, d3⟩ := cell2b HB3.out
        obtain ⟨c0, c1, c2, c3⟩ := cell4b HA3.out
        have f0 := (HA3.out).frozen 0
        have f1 := (HA3.out).frozen 1
        have f2 := (HA3.out).frozen 2
        have f3 := (HA3.out).frozen 3
        unfold tokV spotV
        go_wp2
        obtain ⟨hA, hB⟩ := two_set HA3.out HB3.out (by omega) (.int .u8 0) (.string ⟨#[]⟩) (.int .u64 0) (.int .i64 0) (.int .i64 6) (.int .i64 ((p : Int) + j))
        have HB6 := two_below (g := w.heap.size) (h := w.heap.size + 1) (Below.refl w.heap.size w3) (Nat.le_refl _) (Nat.le_succ _) (.int .u8 0) (.string ⟨#[]⟩) (.int .u64 0) (.int .i64 0) (.int .i64 6) (.int .i64 ((p : Int) + j))
        clear c0 c1 c2 c3 d0 d1 d2 d3 f0 f1 f2 f3
        obtain ⟨d0, d1, _, _⟩ := cell2b hB
        obtain ⟨c0, c1, c2, c3⟩ := cell4b hA
        exact bodyPost_ret (v := .tuple #[tokV 0 ⟨#[]⟩ 0 0, spotV 6 ((p : Int) + j)]) (by simp [results, Tryz.results46, go_sem, c0, c1, c2, c3, d0, d1, tokV, spotV]) rfl ⟨by rw [HRES.out], Blk.below HD3.out HB6 hlt, bx_more HX3.out HB6⟩
      | false =>
        have HN := Lib.hid (show j + 1 + cpl ((bts x).drop (j + 1)) = cpl (bts x) by rw [← HE.out, hdr, cpl_no hb]; omega)
        clear hb hdr hcell HCAP
        go_wp2
        go_roundw
        case rel => exact ⟨j + 1, by omega, by go_num, HN.out, by trivial⟩
        case measure => simp [intOf]; omega
    · obtain rfl : j = x.size := by omega
      have hcp : cpl (bts x) = x.size := by
        have h1 := HE.out
        rw [List.drop_of_length_le (by rw [bts_length]; exact Nat.le_refl _)] at h1
        have h2 : cpl [] = 0 := rfl
        omega
      by_cases h32 : 32 < x.size
      · have hI : (32 : Int) < x.size := by omega
        have HRES := Lib.hid (show namT p x = .tuple #[tokV 0 ⟨#[]⟩ 0 0, spotV 3 p] from (by unfold namT; rw [if_neg (by omega), if_pos h32]))
        clear hcp h32
        go_wp2_with fail
        refine (wrong_any 3 p _).mono ?_
        rintro e w3 ⟨rfl, hb3⟩
        have HA3 := Lib.hid (Blk.below HA2.out hb3 (Blk.lt HA2.out))
        have HB3 := Lib.hid (Blk.below HB2.out hb3 (Blk.lt HB2.out))
        have HD3 := Lib.hid (rd_step HD2.out hb3)
        have HX3 := Lib.hid (bx_later HX2.out hb3)
        clear hb3
        obtain ⟨d0, d1, d2, d3⟩ := cell2b HB3.out
        obtain ⟨c0, c1, c2, c3⟩ := cell4b HA3.out
        have f0 := (HA3.out).frozen 0
        have f1 := (HA3.out).frozen 1
        have f2 := (HA3.out).frozen 2
        have f3 := (HA3.out).frozen 3
        unfold tokV spotV
        go_wp2
        obtain ⟨hA, hB⟩ := two_set HA3.out HB3.out (by omega) (.int .u8 0) (.string ⟨#[]⟩) (.int .u64 0) (.int .i64 0) (.int .i64 3) (.int .i64 p)
        have HB6 := two_below (g := w.heap.size) (h := w.heap.size + 1) (Below.refl w.heap.size w3) (Nat.le_refl _) (Nat.le_succ _) (.int .u8 0) (.string ⟨#[]⟩) (.int .u64 0) (.int .i64 0) (.int .i64 3) (.int .i64 p)
        clear c0 c1 c2 c3 d0 d1 d2 d3 f0 f1 f2 f3
        obtain ⟨d0, d1, _, _⟩ := cell2b hB
        obtain ⟨c0, c1, c2, c3⟩ := cell4b hA
        exact bodyPost_ret (v := .tuple #[tokV 0 ⟨#[]⟩ 0 0, spotV 3 p]) (by simp [results, Tryz.results46, go_sem, c0, c1, c2, c3, d0, d1, tokV, spotV]) rfl ⟨by rw [HRES.out], Blk.below HD3.out HB6 hlt, bx_more HX3.out HB6⟩
      · have hI : ¬ (32 : Int) < x.size := by omega
        have HRES := Lib.hid (show namT p x = .tuple #[tokV 2 x 0 p, spotV 0 0] from (by unfold namT; rw [if_neg (by omega), if_neg h32]))
        obtain ⟨d0, d1, d2, d3⟩ := cell2b HB2.out
        obtain ⟨b0, b1, b2, b3⟩ := cell4b HA2.out
        have e0 := (HA2.out).frozen 0
        have e1 := (HA2.out).frozen 1
        have e2 := (HA2.out).frozen 2
        have e3 := (HA2.out).frozen 3
        go_wp2
        obtain ⟨hA, hB⟩ := two_set HA2.out HB2.out (by omega) (.int .u8 2) (.string x) (.int .u64 0) (.int .i64 p) (.int .i64 0) (.int .i64 0)
        have HB6 := two_below (g := w.heap.size) (h := w.heap.size + 1) (Below.refl w.heap.size wr) (Nat.le_refl _) (Nat.le_succ _) (.int .u8 2) (.string x) (.int .u64 0) (.int .i64 p) (.int .i64 0) (.int .i64 0)
        clear d0 d1 d2 d3 b0 b1 b2 b3 e0 e1 e2 e3
        obtain ⟨d0, d1, _, _⟩ := cell2b hB
        obtain ⟨c0, c1, c2, c3⟩ := cell4b hA
        exact bodyPost_ret (v := .tuple #[tokV 2 x 0 p, spotV 0 0]) (by simp [results, Tryz.results46, go_sem, c0, c1, c2, c3, d0, d1, tokV, spotV]) rfl ⟨by rw [HRES.out], Blk.below HD2.out HB6 hlt, bx_more HX2.out HB6⟩
end Go.Proofs.YtibnmkjabpoppaaGreatDoor
