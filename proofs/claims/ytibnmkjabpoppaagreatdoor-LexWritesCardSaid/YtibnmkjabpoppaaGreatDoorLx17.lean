/- Layer 13: blob. Conditions: those of each lemma. -/
import Derived.Test.YtibnmkjabpoppaaGreatDoorLx16
namespace Go.Proofs.YtibnmkjabpoppaaGreatDoor
open Go Go.RowKit
set_option linter.unusedVariables false
set_option linter.unusedSimpArgs false

def hexI (c : Nat) : Int := match hexd c with | some n => (n : Int) | none => -1
theorem hexI_fin : ∀ c : Fin 256, Lib.indexByte [48, 49, 50, 51, 52, 53, 54, 55, 56, 57, 97, 98, 99, 100, 101, 102] (UInt8.ofNat c.val) = hexI c.val := by decide +kernel
theorem hexI_call (c : Nat) (W : World) (h : c < 256) : Calls Tryz.prog 61 #[.string ⟨#[48, 49, 50, 51, 52, 53, 54, 55, 56, 57, 97, 98, 99, 100, 101, 102]⟩, .int .u8 (c : Int)] W fun e w' => e = .returned (.int .i64 (hexI c)) ∧ W = w' := by
  have h1 := Tryz.strings_IndexByte ⟨#[48, 49, 50, 51, 52, 53, 54, 55, 56, 57, 97, 98, 99, 100, 101, 102]⟩ (c : Int) W
  have e : Lib.indexByte (⟨#[48, 49, 50, 51, 52, 53, 54, 55, 56, 57, 97, 98, 99, 100, 101, 102]⟩ : ByteArray).data.toList ((c : Int).toNat.toUInt8) = hexI c := hexI_fin ⟨c, h⟩
  rw [e] at h1
  exact h1.mono fun e w' he => ⟨he.1, he.2.symm⟩
theorem hexI_some {c a : Nat} (h : hexd c = some a) : hexI c = a := by unfold hexI; rw [h]
theorem hexI_none {c : Nat} (h : hexd c = none) : hexI c = -1 := by unfold hexI; rw [h]
theorem hexd39 : hexd 39 = none := by decide
theorem hor_fin : ∀ a b : Fin 16, bits BinOp.or IntKind.i64 ((a.val : Int) * 16) (b.val : Int) % 256 = ((16 * a.val + b.val : Nat) : Int) := by decide +kernel
theorem hor_eq {a b : Nat} (ha : a < 16) (hb : b < 16) : bits BinOp.or IntKind.i64 ((a : Int) * 16) (b : Int) % 256 = ((16 * a + b : Nat) : Int) := hor_fin ⟨a, ha⟩ ⟨b, hb⟩
theorem hex_in {S : ByteArray} {q a : Nat} (h : hexd (atB S q) = some a) : q < S.size := by
  refine Nat.lt_of_not_le fun hh => ?_
  rw [atB_end S q hh] at h
  cases h
theorem ubl_at0 {S : ByteArray} {q : Nat} (h : atB S q ≠ 39) (hx : hexd (atB S q) = none) : ubl ((bts S).drop q) = .error 0 := by
  rcases Nat.lt_or_ge q S.size with hq | hq
  · rw [drop_at S q hq, ubl_0 h hx]
  · rw [List.drop_of_length_le (by rw [bts_length]; exact hq)]; rfl
theorem ubl_at1 {S : ByteArray} {q a : Nat} (h : atB S q ≠ 39) (hx : hexd (atB S q) = some a) (hy : hexd (atB S (q + 1)) = none) : ubl ((bts S).drop q) = .error 1 := by
  rw [drop_at S q (hex_in hx), ubl_1 h hx (by rw [drop_hd]; exact hy)]
theorem ubl_at2 {S : ByteArray} {q a b : Nat} (h : atB S q ≠ 39) (hx : hexd (atB S q) = some a) (hy : hexd (atB S (q + 1)) = some b) (acc : List Nat) : ubj acc q (ubl ((bts S).drop q)) = ubj (acc ++ [16 * a + b]) (q + 2) (ubl ((bts S).drop (q + 2))) := by
  rw [drop_at S q (hex_in hx), drop_at S (q + 1) (hex_in hy), ubl_2 h hx hy, ubj_2]
theorem anQ_blob {p q : Nat} {acc : List Nat} {m : Nat} (h : anQ (blobR p (.ok (acc, q))) = some m) : q = m := by
  unfold blobR longA at h
  by_cases hb : 1000 < (bstr acc).size
  · simp only [if_pos hb] at h
    cases h
  · simp only [if_neg hb] at h
    exact Option.some.inj h
set_option maxRecDepth 100000 in
set_option maxHeartbeats 8000000 in
theorem blob_any (g : Nat) (S : ByteArray) (p : Nat) (w : World) (h : Rd w g S p) (hp : p + 1 < S.size) (hS : S.size ≤ 140737488351232) : Calls Tryz.prog 44 #[.pointer (some ⟨g, 0, none⟩)] w fun r w' => r = .returned (anT (blobA S p)) ∧ (∃ q, Rd w' g S q ∧ ∀ m, anQ (blobA S p) = some m → q = m) ∧ Bx g w w' := by
  unfold blobA
  obtain ⟨R, hR⟩ : ∃ R, ubj [] (p + 2) (ubl ((bts S).drop (p + 2))) = R := ⟨_, rfl⟩
  have HR := Lib.hid hR
  rw [hR]
  clear hR
  have HN := Lib.hid (fun q W hr => next_any g S q W hr)
  have HIX := Lib.hid hexI_call
  have hSI : (S.size : Int) ≤ 140737488351232 := by omega
  have hlt := Blk.lt h
  have hne : w.heap.size ≠ g := by omega
  have hne2 : w.heap.size + 1 ≠ g := by omega
  have HW := Lib.hid (bj13 (one_alloc (w := w) (o := tokA)) (one_alloc (o := spotA)))
  have HD := Lib.hid (rd_step h HW.out)
  obtain ⟨hA, hB⟩ := two_blk w (.int .u8 0) (.string ⟨#[]⟩) (.int .u64 0) (.int .i64 0) (.int .i64 0) (.int .i64 0) 34 29
  have HA := Lib.hid hA
  have HB := Lib.hid hB
  clear hA hB h
  have hpI : (p : Int) + 1 < S.size := by omega
  have HL := Lib.hid (lt_new (b := w.heap.size + 1 + 1) HD.out (by simp))
  obtain ⟨c0, c1, f0, f1⟩ := rd_cells HD.out
  have HL2 := Lib.hid (lt_set HL.out (p + 2))
  obtain ⟨d0, d1, e0, e1⟩ := rd_cells HL.out.2.1
  go_enter Tryz.func44, Tryz.ntmps44
  go_wp2
  go_loopw [6] (fun v wr => (∃ (q : Nat) (acc : List Nat), v = .int .i64 (-1) ∧ q ≤ S.size ∧ acc.length ≤ q ∧ ubj acc q (ubl ((bts S).drop q)) = R ∧ Lt ((w.alloc tokA).alloc spotA) g (w.heap.size + 1 + 1) acc S q wr) ∨ (∃ (q a : Nat) (acc : List Nat), v = .int .i64 a ∧ hexd (atB S q) = some a ∧ atB S q ≠ 39 ∧ acc.length ≤ q ∧ ubj acc q (ubl ((bts S).drop q)) = R ∧ Lt ((w.alloc tokA).alloc spotA) g (w.heap.size + 1 + 1) acc S (q + 1) wr)) (fun _ wr => S.size - rdAt g wr)
  case atStart => exact .inl ⟨p + 2, [], rfl, hp, Nat.zero_le _, HR.out, HL2.out⟩
  case round =>
    clear HL HL2 HR c0 c1 f0 f1 d0 d1 e0 e1
    rcases hrel with ⟨q, acc, rfl, hq2, hal, hE, hL⟩ | ⟨q, a, acc, rfl, hxa, hn39, hal, hE, hL⟩
    · have HE := Lib.hid hE
      have HL := Lib.hid hL
      have HAL := Lib.hid hal
      have M0 := Lib.hid (rd_at hL.2.1)
      clear hE hL hal
      have hc := atB_lt S q
      by_cases h39 : atB S q = 39
      · have hqs : q < S.size := by
          refine Nat.lt_of_not_le fun hh => ?_
          rw [atB_end S q hh] at h39
          exact absurd h39 (by decide)
        have HRR := Lib.hid (show (.ok (acc, q + 1) : Except Nat (List Nat × Nat)) = R by
          rw [← HE.out, drop_at S q hqs, h39, ubl_end]
          simp [ubj])
        have HRN := Lib.hid (show ∀ m, anQ (blobR p R) = some m → q + 1 = m by rw [← HRR.out]; exact fun m hm => anQ_blob hm)
        have hqI : (q : Int) < S.size := by omega
        have HNQ := Lib.hid (fun W hr => next_any g S q W hr)
        rw [h39] at HNQ
        clear HE h39 hc
        go_wp2_with fail
        refine (HNQ.out _ HL.out.2.1).mono ?_
        rintro e w3 ⟨rfl, hb3⟩
        have HL3 := Lib.hid (lt_bel HL.out hb3)
        have HL4 := Lib.hid (lt_set (lt_bel HL.out hb3) (q + 1))
        clear hb3
        obtain ⟨c0, c1, f0, f1⟩ := rd_cells HL3.out.2.1
        go_wp2_with fail
        refine (lt_str HL4.out).mono ?_
        rintro e w4 ⟨rfl, hx4, hr4⟩
        have HD8 := Lib.hid hr4
        have HA8 := Lib.hid (bx_blk HA.out hx4 hne)
        have HB8 := Lib.hid (bx_blk HB.out hx4 hne2)
        have HX8 := Lib.hid (bx_trans (bx_of HW.out rfl) hx4)
        clear hr4 hx4 HL HL3 HL4 c0 c1 f0 f1
        go_wp2_with fail
        refine (bytes_any 5 (bstr acc) p _).mono ?_
        rintro e w9 ⟨rfl, hb9⟩
        have HA9 := Lib.hid (Blk.below HA8.out hb9 (Blk.lt HA8.out))
        have HB9 := Lib.hid (Blk.below HB8.out hb9 (Blk.lt HB8.out))
        have HD9 := Lib.hid (rd_step HD8.out hb9)
        have HX9 := Lib.hid (bx_later HX8.out hb9)
        clear hb9
        by_cases hbig : 1000 < (bstr acc).size
        · have hby : bytT 5 (bstr acc) p = .tuple #[tokV 0 ⟨#[]⟩ 0 0, spotV 3 p] := if_pos hbig
          have HRES := Lib.hid (show anT (blobR p R) = .tuple #[tokV 0 ⟨#[]⟩ 0 0, spotV 3 p] by rw [← HRR.out]; simp only [textR, blobR, longA, if_pos hbig]; rfl)
          rw [hby]
          clear hby hbig
          obtain ⟨d0, d1, d2, d3⟩ := cell2b HB9.out
          obtain ⟨b0, b1, b2, b3⟩ := cell4b HA9.out
          have e0 := (HA9.out).frozen 0
          have e1 := (HA9.out).frozen 1
          have e2 := (HA9.out).frozen 2
          have e3 := (HA9.out).frozen 3
          unfold tokV spotV
          go_wp2
          obtain ⟨hA, hB⟩ := two_set HA9.out HB9.out (by omega) (.int .u8 0) (.string ⟨#[]⟩) (.int .u64 0) (.int .i64 0) (.int .i64 3) (.int .i64 p)
          have HB6 := two_below (g := w.heap.size) (h := w.heap.size + 1) (Below.refl w.heap.size w9) (Nat.le_refl _) (Nat.le_succ _) (.int .u8 0) (.string ⟨#[]⟩) (.int .u64 0) (.int .i64 0) (.int .i64 3) (.int .i64 p)
          clear d0 d1 d2 d3 b0 b1 b2 b3 e0 e1 e2 e3
          obtain ⟨d0, d1, _, _⟩ := cell2b hB
          obtain ⟨c0, c1, c2, c3⟩ := cell4b hA
          exact bodyPost_ret (v := .tuple #[tokV 0 ⟨#[]⟩ 0 0, spotV 3 p]) (by simp [results, Tryz.results44, go_sem, c0, c1, c2, c3, d0, d1, tokV, spotV]) rfl ⟨by rw [HRES.out], ⟨_, Blk.below (HD9).out HB6 hlt, HRN.out⟩, bx_more (HX9).out HB6⟩
        · have hby : bytT 5 (bstr acc) p = .tuple #[tokV 5 (bstr acc) 0 p, spotV 0 0] := if_neg hbig
          have HRES := Lib.hid (show anT (blobR p R) = .tuple #[tokV 5 (bstr acc) 0 p, spotV 0 0] by rw [← HRR.out]; simp only [textR, blobR, longA, if_neg hbig]; rfl)
          rw [hby]
          clear hby hbig
          obtain ⟨d0, d1, d2, d3⟩ := cell2b HB9.out
          obtain ⟨b0, b1, b2, b3⟩ := cell4b HA9.out
          have e0 := (HA9.out).frozen 0
          have e1 := (HA9.out).frozen 1
          have e2 := (HA9.out).frozen 2
          have e3 := (HA9.out).frozen 3
          unfold tokV spotV
          go_wp2
          obtain ⟨hA, hB⟩ := two_set HA9.out HB9.out (by omega) (.int .u8 5) (.string (bstr acc)) (.int .u64 0) (.int .i64 p) (.int .i64 0) (.int .i64 0)
          have HB6 := two_below (g := w.heap.size) (h := w.heap.size + 1) (Below.refl w.heap.size w9) (Nat.le_refl _) (Nat.le_succ _) (.int .u8 5) (.string (bstr acc)) (.int .u64 0) (.int .i64 p) (.int .i64 0) (.int .i64 0)
          clear d0 d1 d2 d3 b0 b1 b2 b3 e0 e1 e2 e3
          obtain ⟨d0, d1, _, _⟩ := cell2b hB
          obtain ⟨c0, c1, c2, c3⟩ := cell4b hA
          exact bodyPost_ret (v := .tuple #[tokV 5 (bstr acc) 0 p, spotV 0 0]) (by simp [results, Tryz.results44, go_sem, c0, c1, c2, c3, d0, d1, tokV, spotV]) rfl ⟨by rw [HRES.out], ⟨_, Blk.below (HD9).out HB6 hlt, HRN.out⟩, bx_more (HX9).out HB6⟩

      · have HNQ := Lib.hid (fun W hr => next_any g S q W hr)
        have hcb : ((atB S q : Int) != 39) = true := by rw [bne_iff_ne]; omega
        have hix := fun W => hexI_call (atB S q) W hc
        cases hx : hexd (atB S q) with
        | none =>
          have HRR := Lib.hid (show (.error q : Except Nat (List Nat × Nat)) = R by rw [← HE.out, ubl_at0 h39 hx]; rfl)
          have HRES := Lib.hid (show anT (blobR p R) = .tuple #[tokV 0 ⟨#[]⟩ 0 0, spotV 6 q] by rw [← HRR.out]; rfl)
          have HRN := Lib.hid (show ∀ m, anQ (blobR p R) = some m → q = m by rw [← HRR.out]; intro m hm; cases hm)
          rw [hexI_none hx] at hix
          have HIQ := Lib.hid hix
          clear HE hix hx h39
          generalize atB S q = c at *
          go_wp2_with fail
          refine (HNQ.out _ HL.out.2.1).mono ?_
          rintro e w3 ⟨rfl, hb3⟩
          have HL3 := Lib.hid (lt_bel HL.out hb3)
          clear hb3
          go_wp2_with fail
          refine (HNQ.out _ HL3.out.2.1).mono ?_
          rintro e w4 ⟨rfl, hb4⟩
          have HL4 := Lib.hid (lt_bel HL3.out hb4)
          clear hb4
          go_wp2_with fail
          refine (HIQ.out _).mono ?_
          rintro e w5 ⟨rfl, rfl⟩
          obtain ⟨c0, c1, f0, f1⟩ := rd_cells HL4.out.2.1
          have HD8 := Lib.hid HL4.out.2.1
          have HA8 := Lib.hid (bx_blk HA.out HL4.out.2.2.1 hne)
          have HB8 := Lib.hid (bx_blk HB.out HL4.out.2.2.1 hne2)
          have HX8 := Lib.hid (bx_trans (bx_of HW.out rfl) HL4.out.2.2.1)
          clear HL HL3 HL4
          go_wp2_with fail
          refine (wrong_any 6 q _).mono ?_
          rintro e w9 ⟨rfl, hb9⟩
          have HA9 := Lib.hid (Blk.below HA8.out hb9 (Blk.lt HA8.out))
          have HB9 := Lib.hid (Blk.below HB8.out hb9 (Blk.lt HB8.out))
          have HD9 := Lib.hid (rd_step HD8.out hb9)
          have HX9 := Lib.hid (bx_later HX8.out hb9)
          clear hb9
          obtain ⟨d0, d1, d2, d3⟩ := cell2b HB9.out
          obtain ⟨b0, b1, b2, b3⟩ := cell4b HA9.out
          have e0 := (HA9.out).frozen 0
          have e1 := (HA9.out).frozen 1
          have e2 := (HA9.out).frozen 2
          have e3 := (HA9.out).frozen 3
          unfold tokV spotV
          go_wp2
          obtain ⟨hA, hB⟩ := two_set HA9.out HB9.out (by omega) (.int .u8 0) (.string ⟨#[]⟩) (.int .u64 0) (.int .i64 0) (.int .i64 6) (.int .i64 q)
          have HB6 := two_below (g := w.heap.size) (h := w.heap.size + 1) (Below.refl w.heap.size w9) (Nat.le_refl _) (Nat.le_succ _) (.int .u8 0) (.string ⟨#[]⟩) (.int .u64 0) (.int .i64 0) (.int .i64 6) (.int .i64 q)
          clear d0 d1 d2 d3 b0 b1 b2 b3 e0 e1 e2 e3
          obtain ⟨d0, d1, _, _⟩ := cell2b hB
          obtain ⟨c0, c1, c2, c3⟩ := cell4b hA
          exact bodyPost_ret (v := .tuple #[tokV 0 ⟨#[]⟩ 0 0, spotV 6 q]) (by simp [results, Tryz.results44, go_sem, c0, c1, c2, c3, d0, d1, tokV, spotV]) rfl ⟨by rw [HRES.out], ⟨_, Blk.below (HD9).out HB6 hlt, HRN.out⟩, bx_more (HX9).out HB6⟩

        | some a =>
          have hqs := hex_in hx
          have ha16 := (hexd_some hx).1
          rw [hexI_some hx] at hix
          have HIQ := Lib.hid hix
          have HX := Lib.hid hx
          have HN39 := Lib.hid h39
          clear hix hx h39
          generalize hcc : atB S q = c at *
          have hqI : (q : Int) < S.size := by omega
          go_wp2_with fail
          refine (HNQ.out _ HL.out.2.1).mono ?_
          rintro e w3 ⟨rfl, hb3⟩
          have HL3 := Lib.hid (lt_bel HL.out hb3)
          clear hb3
          go_wp2_with fail
          refine (HNQ.out _ HL3.out.2.1).mono ?_
          rintro e w4 ⟨rfl, hb4⟩
          have HL4 := Lib.hid (lt_bel HL3.out hb4)
          clear hb4
          go_wp2_with fail
          refine (HIQ.out _).mono ?_
          rintro e w5 ⟨rfl, rfl⟩
          obtain ⟨c0, c1, f0, f1⟩ := rd_cells HL4.out.2.1
          have HL5 := Lib.hid (lt_set HL4.out (q + 1))
          go_wp2
          go_roundw
          case rel => exact .inr ⟨q, a, acc, rfl, by rw [hcc]; exact HX.out, by rw [hcc]; exact HN39.out, HAL.out, HE.out, HL5.out⟩
          case measure =>
            rw [M0.out]
            have h2 := rd_at HL5.out.2.1
            exact Nat.lt_of_lt_of_eq (Nat.lt_of_le_of_lt (Nat.le_of_eq (congrArg (S.size - ·) h2)) (by omega)) rfl
    · have HE := Lib.hid hE
      have HL := Lib.hid hL
      have HAL := Lib.hid hal
      have M0 := Lib.hid (rd_at hL.2.1)
      have hqs := hex_in hxa
      have ha16 := (hexd_some hxa).1
      have HX := Lib.hid hxa
      have HN39 := Lib.hid hn39
      have hqI : (q : Int) + 1 ≤ S.size := by omega
      have ha0 : (0 : Int) ≤ a := by omega
      have haI : (a : Int) < 16 := by omega
      clear hE hL hal hxa hn39
      have hc := atB_lt S (q + 1)
      have HNQ := Lib.hid (fun W hr => next_any g S (q + 1) W hr)
      have hix := fun W => hexI_call (atB S (q + 1)) W hc
      cases hx : hexd (atB S (q + 1)) with
      | none =>
        have HRR := Lib.hid (show (.error (q + 1) : Except Nat (List Nat × Nat)) = R by rw [← HE.out, ubl_at1 HN39.out HX.out hx]; rfl)
        have HRES := Lib.hid (show anT (blobR p R) = .tuple #[tokV 0 ⟨#[]⟩ 0 0, spotV 6 ((q + 1 : Nat) : Int)] by rw [← HRR.out]; rfl)
        have HRN := Lib.hid (show ∀ m, anQ (blobR p R) = some m → q + 1 = m by rw [← HRR.out]; intro m hm; cases hm)
        rw [hexI_none hx] at hix
        have HIQ := Lib.hid hix
        clear HE hix hx HX HN39
        generalize atB S (q + 1) = c at *
        generalize q + 1 = q2 at *
        go_wp2_with fail
        refine (HNQ.out _ HL.out.2.1).mono ?_
        rintro e w3 ⟨rfl, hb3⟩
        have HL3 := Lib.hid (lt_bel HL.out hb3)
        clear hb3
        go_wp2_with fail
        refine (HIQ.out _).mono ?_
        rintro e w5 ⟨rfl, rfl⟩
        obtain ⟨c0, c1, f0, f1⟩ := rd_cells HL3.out.2.1
        have HD8 := Lib.hid HL3.out.2.1
        have HA8 := Lib.hid (bx_blk HA.out HL3.out.2.2.1 hne)
        have HB8 := Lib.hid (bx_blk HB.out HL3.out.2.2.1 hne2)
        have HX8 := Lib.hid (bx_trans (bx_of HW.out rfl) HL3.out.2.2.1)
        clear HL HL3
        go_wp2_with fail
        refine (wrong_any 6 q2 _).mono ?_
        rintro e w9 ⟨rfl, hb9⟩
        have HA9 := Lib.hid (Blk.below HA8.out hb9 (Blk.lt HA8.out))
        have HB9 := Lib.hid (Blk.below HB8.out hb9 (Blk.lt HB8.out))
        have HD9 := Lib.hid (rd_step HD8.out hb9)
        have HX9 := Lib.hid (bx_later HX8.out hb9)
        clear hb9
        obtain ⟨d0, d1, d2, d3⟩ := cell2b HB9.out
        obtain ⟨b0, b1, b2, b3⟩ := cell4b HA9.out
        have e0 := (HA9.out).frozen 0
        have e1 := (HA9.out).frozen 1
        have e2 := (HA9.out).frozen 2
        have e3 := (HA9.out).frozen 3
        unfold tokV spotV
        go_wp2
        obtain ⟨hA, hB⟩ := two_set HA9.out HB9.out (by omega) (.int .u8 0) (.string ⟨#[]⟩) (.int .u64 0) (.int .i64 0) (.int .i64 6) (.int .i64 q2)
        have HB6 := two_below (g := w.heap.size) (h := w.heap.size + 1) (Below.refl w.heap.size w9) (Nat.le_refl _) (Nat.le_succ _) (.int .u8 0) (.string ⟨#[]⟩) (.int .u64 0) (.int .i64 0) (.int .i64 6) (.int .i64 q2)
        clear d0 d1 d2 d3 b0 b1 b2 b3 e0 e1 e2 e3
        obtain ⟨d0, d1, _, _⟩ := cell2b hB
        obtain ⟨c0, c1, c2, c3⟩ := cell4b hA
        exact bodyPost_ret (v := .tuple #[tokV 0 ⟨#[]⟩ 0 0, spotV 6 q2]) (by simp [results, Tryz.results44, go_sem, c0, c1, c2, c3, d0, d1, tokV, spotV]) rfl ⟨by rw [HRES.out], ⟨_, Blk.below (HD9).out HB6 hlt, HRN.out⟩, bx_more (HX9).out HB6⟩

      | some b =>
        have hb16 := (hexd_some hx).1
        have hqs2 := hex_in hx
        have HQ := Lib.hid (show ubj (acc ++ [16 * a + b]) (q + 2) (ubl ((bts S).drop (q + 2))) = R by rw [← HE.out, ubl_at2 HN39.out HX.out hx])
        rw [hexI_some hx] at hix
        have HIQ := Lib.hid hix
        have hbI : (b : Int) < 16 := by omega
        have HOR := hor_eq ha16 hb16
        obtain ⟨k, hk⟩ : ∃ k, 16 * a + b = k := ⟨_, rfl⟩
        have hk256 : k < 256 := by omega
        rw [hk] at HOR HQ
        clear HE hix hx hk
        generalize atB S (q + 1) = c at *
        go_wp2_with fail
        refine (HNQ.out _ HL.out.2.1).mono ?_
        rintro e w3 ⟨rfl, hb3⟩
        have HL3 := Lib.hid (lt_bel HL.out hb3)
        clear hb3
        go_wp2_with fail
        refine (HIQ.out _).mono ?_
        rintro e w5 ⟨rfl, rfl⟩
        go_wp2_with fail
        refine (lt_wb k HL3.out hk256 (by have := HAL.out; omega)).mono ?_
        rintro e w6 ⟨rfl, hl6⟩
        have HL6 := Lib.hid hl6
        clear hl6
        obtain ⟨c0, c1, f0, f1⟩ := rd_cells HL6.out.2.1
        have HL7 := Lib.hid (lt_set HL6.out (q + 2))
        go_wp2
        go_roundw
        case rel => exact .inl ⟨q + 2, acc ++ [k], rfl, by omega, by have := HAL.out; simp; omega, HQ.out, HL7.out⟩
        case measure =>
          rw [M0.out]
          have h2 := rd_at HL7.out.2.1
          exact Nat.lt_of_lt_of_eq (Nat.lt_of_le_of_lt (Nat.le_of_eq (congrArg (S.size - ·) h2)) (by omega)) rfl
end Go.Proofs.YtibnmkjabpoppaaGreatDoor
