/- Layer 13: the reader beside a builder; text. Conditions: those of each lemma. -/
import Derived.Test.YtibnmkjabpoppaaGreatDoorLx15
import Derived.Test.YtibnmkjabpoppaaGreatDoorBu
namespace Go.Proofs.YtibnmkjabpoppaaGreatDoor
open Go Go.RowKit
set_option linter.unusedVariables false
set_option linter.unusedSimpArgs false

/-- a builder, the reader, and all else -/
def Lt (W0 : World) (g b : Nat) (acc : List Nat) (S : ByteArray) (q : Nat) (W : World) : Prop := (∃ v, Bu W0.heap.size b v (Lib.strCells (bstr acc)) W) ∧ Rd W g S q ∧ Bx g W0 W ∧ g < W0.heap.size
theorem lt_to {W0 W W' : World} {g b : Nat} {acc : List Nat} {S : ByteArray} {q q' : Nat} (h : Lt W0 g b acc S q W) (hn : Rd W' g S q') (hb : Bx g W W') : Lt W0 g b acc S q' W' := by
  obtain ⟨⟨v, h1⟩, h2, h3, h4⟩ := h
  refine ⟨⟨v, h1.keep hb.1 hb.2.1 hb.2.2.1 hb.2.2.2.1 fun k hk he => hb.2.2.2.2 k hk ?_⟩, hn, bx_trans h3 hb, h4⟩
  rcases he with rfl | he
  · have := h1.1; omega
  · have := (h1.rowlt k he).1; omega
theorem lt_bel {W0 W W' : World} {g b : Nat} {acc : List Nat} {S : ByteArray} {q : Nat} (h : Lt W0 g b acc S q W) (hb : Below W.heap.size W W') : Lt W0 g b acc S q W' := lt_to h (rd_step h.2.1 hb) (bx_of hb rfl)
theorem lt_drew {W0 W : World} {g b : Nat} {acc : List Nat} {S : ByteArray} {q : Nat} (h : Lt W0 g b acc S q W) : Lt W0 g b acc S q W.drew := lt_bel h (Below.refl _ _).drew
theorem lt_set {W0 W : World} {g b : Nat} {acc : List Nat} {S : ByteArray} {q : Nat} (h : Lt W0 g b acc S q W) (r : Nat) : Lt W0 g b acc S r (W.setCell ⟨g, 1, none⟩ (.int .i64 r)) := lt_to h (rd_set h.2.1 r) (bx_set _ _ _ _)
theorem lt_wb {W0 W : World} {g b : Nat} {acc : List Nat} {S : ByteArray} {q : Nat} (x : Nat) (h : Lt W0 g b acc S q W) (hx : x < 256) (hlen : acc.length + 1 ≤ 140737488355328) :
    Calls Tryz.prog 10 #[.pointer (some ⟨b, 0, none⟩), .int .u8 (x : Int)] W fun e w' => e = .returned .nilIface ∧ Lt W0 g b (acc ++ [x]) S q w' := by
  obtain ⟨⟨v, h1⟩, h2, h3, h4⟩ := h
  refine (bu_writeByte _ b v _ x W h1 (by rw [Lib.strCells_length, bstr_size]; exact hlen) h3.2.2.2.1).mono ?_
  rintro e w' ⟨rfl, v', h1', hfr, hb, hat⟩
  have e1 : Lib.strCells (bstr acc) ++ [Value.int .u8 (x : Int)] = Lib.strCells (bstr (acc ++ [x])) := by
    rw [← bstr_append]
    have e2 : (UInt8.ofNat x).toNat = x := by rw [UInt8.toNat_ofNat']; omega
    simp [Lib.strCells, bstr, e2]
  rw [e1] at h1'
  refine ⟨rfl, ⟨v', h1'⟩, ?_, bx_more h3 hb, h4⟩
  exact (hb.block g h4).trans h2
theorem lt_wb39 {W0 W : World} {g b : Nat} {acc : List Nat} {S : ByteArray} {q : Nat} (h : Lt W0 g b acc S q W) (hlen : acc.length + 1 ≤ 140737488355328) :
    Calls Tryz.prog 10 #[.pointer (some ⟨b, 0, none⟩), .int .u8 39] W fun e w' => e = .returned .nilIface ∧ Lt W0 g b (acc ++ [39]) S q w' := lt_wb 39 h (by omega) hlen
theorem lt_str {W0 W : World} {g b : Nat} {acc : List Nat} {S : ByteArray} {q : Nat} (h : Lt W0 g b acc S q W) :
    Calls Tryz.prog 12 #[.pointer (some ⟨b, 0, none⟩)] W fun e w' => e = .returned (.string (bstr acc)) ∧ Bx g W0 w' ∧ Rd w' g S q := by
  obtain ⟨⟨v, h1⟩, h2, h3, h4⟩ := h
  exact (Tryz.Builder_String_any W0.heap.size b (bstr acc).data.toList W h1.old h3.2.2.2.1).mono fun e w' he => ⟨he.1, bx_more h3 he.2, (he.2.block g h4).trans h2⟩
theorem lt_new {W0 : World} {g b : Nat} {S : ByteArray} {q : Nat} (h : Rd W0 g S q) (hb : W0.heap.size = b) : Lt W0 g b [] S q (W0.alloc (.cells #[.pointer none, .slice none 0 0] 38)) := by
  subst hb
  exact ⟨⟨_, bu_new _ W0 (Nat.le_refl _)⟩, rd_step h one_alloc, bx_of one_alloc rfl, Blk.lt h⟩
theorem anQ_text {S : ByteArray} {p q : Nat} {acc : List Nat} {m : Nat} (h : anQ (textR S p (some (acc, q))) = some m) : q = m := by
  unfold textR longA at h
  by_cases hb : 1000 < (bstr acc).size
  · simp only [if_pos hb] at h
    cases h
  · simp only [if_neg hb] at h
    exact Option.some.inj h
theorem anQ_none {S : ByteArray} {p m : Nat} {P : Prop} (h : anQ (textR S p none) = some m) : P := by cases h
set_option maxRecDepth 100000 in
set_option maxHeartbeats 8000000 in
theorem text_any (g : Nat) (S : ByteArray) (p : Nat) (w : World) (h : Rd w g S p) (hp : p < S.size) (hS : S.size ≤ 140737488351232) : Calls Tryz.prog 49 #[.pointer (some ⟨g, 0, none⟩)] w fun r w' => r = .returned (anT (textA S p)) ∧ (∃ q, Rd w' g S q ∧ ∀ m, anQ (textA S p) = some m → q = m) ∧ Bx g w w' := by
  unfold textA
  obtain ⟨R, hR⟩ : ∃ R, ujo [] (p + 1) (utx ((bts S).drop (p + 1))) = R := ⟨_, rfl⟩
  have HR := Lib.hid hR
  rw [hR]
  clear hR
  have HN := Lib.hid (fun q W hr => next_any g S q W hr)
  have hSI : (S.size : Int) ≤ 140737488351232 := by omega
  have hlt := Blk.lt h
  have hne : w.heap.size ≠ g := by omega
  have hne2 : w.heap.size + 1 ≠ g := by omega
  have HW := Lib.hid (bj13 (one_alloc (w := w) (o := tokA)) (one_alloc (o := spotA)))
  have HD := Lib.hid (rd_step h HW.out)
  obtain ⟨hA, hB⟩ := two_blk w (.int .u8 0) (.string ⟨#[]⟩) (.int .u64 0) (.int .i64 0) (.int .i64 0) (.int .i64 0) 34 29
  have HA := Lib.hid hA
  have HB := Lib.hid hB
  clear hA hB h
  have hpI : (p : Int) < S.size := by omega
  have HL := Lib.hid (lt_new (b := w.heap.size + 1 + 1) HD.out (by simp))
  obtain ⟨c0, c1, f0, f1⟩ := rd_cells HD.out
  have HL2 := Lib.hid (lt_set HL.out (p + 1))
  obtain ⟨d0, d1, e0, e1⟩ := rd_cells HL.out.2.1
  go_enter Tryz.func49, Tryz.ntmps49
  go_wp2
  go_loopw [] (fun wr => ∃ (q : Nat) (acc : List Nat), p + 1 ≤ q ∧ q ≤ S.size ∧ acc.length ≤ q ∧ ujo acc q (utx ((bts S).drop q)) = R ∧ Lt ((w.alloc tokA).alloc spotA) g (w.heap.size + 1 + 1) acc S q wr) (fun wr => S.size - rdAt g wr)
  case atStart => exact ⟨p + 1, [], Nat.le_refl _, hp, Nat.zero_le _, HR.out, HL2.out⟩
  case round =>
    clear HL HL2 HR c0 c1 f0 f1 d0 d1 e0 e1
    obtain ⟨q, acc, hq1, hq2, hal, hE, hL⟩ := hrel
    have HE := Lib.hid hE
    have HL := Lib.hid hL
    have HAL := Lib.hid hal
    have HLd := Lib.hid (lt_drew hL)
    have M0 := Lib.hid (rd_at hL.2.1)
    obtain ⟨c0, c1, f0, f1⟩ := rd_cells hL.2.1
    clear hE hL hal
    by_cases hqs : q = S.size
    · subst hqs
      have HRR := Lib.hid (show none = R by rw [← HE.out, List.drop_of_length_le (by rw [bts_length]; exact Nat.le_refl _)]; rfl)
      have HRES := Lib.hid (show anT (textR S p R) = .tuple #[tokV 0 ⟨#[]⟩ 0 0, spotV 6 S.size] by rw [← HRR.out]; rfl)
      have HRN := Lib.hid (show ∀ m, anQ (textR S p R) = some m → S.size = m by rw [← HRR.out]; exact fun m hm => anQ_none hm)
      go_wp2_with fail
      go_region
      all_goals
        obtain ⟨c0, c1, f0, f1⟩ := rd_cells HLd.out.2.1
        have HD8 := Lib.hid HLd.out.2.1
        have HA8 := Lib.hid (bx_blk HA.out HLd.out.2.2.1 hne)
        have HB8 := Lib.hid (bx_blk HB.out HLd.out.2.2.1 hne2)
        have HX8 := Lib.hid (bx_trans (bx_of HW.out rfl) HLd.out.2.2.1)
        clear HL HLd
        go_wp2_with fail
        refine (wrong_any 6 S.size _).mono ?_
        rintro e w9 ⟨rfl, hb9⟩
        have HA9 := Lib.hid (Blk.below HA8.out hb9 (Blk.lt HA8.out))
        have HB9 := Lib.hid (Blk.below HB8.out hb9 (Blk.lt HB8.out))
        have HD9 := Lib.hid (rd_step HD8.out hb9)
        have HX9 := Lib.hid (bx_later HX8.out hb9)
        clear hb9
        obtain ⟨d0, d1, d2, d3⟩ := cell2b HB9.out
        obtain ⟨b0, b1, b2, b3⟩ := cell4b HA9.out
        have e0 := (HA9.out).frozen 0
        have e1 := (HA9.out).frozen 1
        have e2 := (HA9.out).frozen 2
        have e3 := (HA9.out).frozen 3
        unfold tokV spotV
        go_wp2
        obtain ⟨hA, hB⟩ := two_set HA9.out HB9.out (by omega) (.int .u8 0) (.string ⟨#[]⟩) (.int .u64 0) (.int .i64 0) (.int .i64 6) (.int .i64 S.size)
        have HB6 := two_below (g := w.heap.size) (h := w.heap.size + 1) (Below.refl w.heap.size w9) (Nat.le_refl _) (Nat.le_succ _) (.int .u8 0) (.string ⟨#[]⟩) (.int .u64 0) (.int .i64 0) (.int .i64 6) (.int .i64 S.size)
        clear d0 d1 d2 d3 b0 b1 b2 b3 e0 e1 e2 e3
        obtain ⟨d0, d1, _, _⟩ := cell2b hB
        obtain ⟨c0, c1, c2, c3⟩ := cell4b hA
        exact bodyPost_ret (v := .tuple #[tokV 0 ⟨#[]⟩ 0 0, spotV 6 S.size]) (by simp [results, Tryz.results49, go_sem, c0, c1, c2, c3, d0, d1, tokV, spotV]) rfl ⟨by rw [HRES.out], ⟨_, Blk.below (HD9).out HB6 hlt, HRN.out⟩, bx_more (HX9).out HB6⟩

    · have hqlt : q < S.size := by omega
      have hqI : (q : Int) < S.size := by omega
      have hqb : ((q : Int) == S.size) = false := beq_no13 (by omega)
      have hx := atB_at S q hqlt
      have hc := atB_lt S q
      have hd := drop_at S q hqlt
      have hI0 : (0 : Int) ≤ q := by omega
      generalize hcc : atB S q = c at *
      have HDR := Lib.hid hd
      clear hd hcc hqs
      by_cases h39 : c = 39
      · subst h39
        obtain ⟨d, hdd⟩ : ∃ d, atB S (q + 1) = d := ⟨_, rfl⟩
        have HH := Lib.hid (drop_hd S (q + 1))
        have HNQ := Lib.hid (fun W hr => next_any g S (q + 1) W hr)
        rw [hdd] at HNQ HH
        have HL2 := Lib.hid (lt_set (lt_drew HLd.out) (q + 1))
        by_cases hd39 : d = 39
        · subst hd39
          have hq2s : q + 1 < S.size := by
            refine Nat.lt_of_not_le fun h => ?_
            rw [atB_end S (q + 1) h] at hdd
            exact absurd hdd (by decide)
          have HQ := Lib.hid (show ujo (acc ++ [39]) (q + 1 + 1) (utx ((bts S).drop (q + 1 + 1))) = R by
            rw [← HE.out, HDR.out, drop_at S (q + 1) hq2s, hdd, utx_two, ujo_1])
          have hy := atB_at S (q + 1) hq2s
          rw [hdd] at hy
          have hq2I : (q : Int) + 1 < S.size := by omega
          clear hdd HE
          go_wp2_with fail
          go_region
          all_goals
            go_wp2_with fail
            go_region
            all_goals
              obtain ⟨c0, c1, f0, f1⟩ := rd_cells (lt_drew (lt_drew HL.out)).2.1
              go_wp2_with fail
              refine (HNQ.out _ HL2.out.2.1).mono ?_
              rintro e w3 ⟨rfl, hb3⟩
              have HL3 := Lib.hid (lt_bel HL2.out hb3)
              have HL3d := Lib.hid (lt_drew (lt_bel HL2.out hb3))
              clear hb3 c0 c1 f0 f1
              obtain ⟨c0, c1, f0, f1⟩ := rd_cells HL3.out.2.1
              go_wp2_with fail
              go_region_with ((go_at_call 10; (with_reducible refine (lt_wb39 HL3d.out (by have := HAL.out; omega)).mono ?_); rintro e w4 ⟨rfl, hl4⟩))
              all_goals
                have HL4 := Lib.hid hl4
                clear hl4 c0 c1 f0 f1
                obtain ⟨c0, c1, f0, f1⟩ := rd_cells HL4.out.2.1
                have HL5 := Lib.hid (lt_set HL4.out (q + 1 + 1))
                go_wp2
                go_roundw
                case rel => exact ⟨q + 1 + 1, acc ++ [39], by omega, by omega, by have := HAL.out; simp; omega, HQ.out, HL5.out⟩
                case measure =>
                  rw [M0.out]
                  have h2 := rd_at HL5.out.2.1
                  exact Nat.lt_of_lt_of_eq (Nat.lt_of_le_of_lt (Nat.le_of_eq (congrArg (S.size - ·) h2)) (by omega)) rfl
        · have HRR := Lib.hid (show some (acc, q + 1) = R by
            rw [← HE.out, HDR.out, utx_end (by rw [HH.out]; exact hd39)]
            simp [ujo])
          have HRN := Lib.hid (show ∀ m, anQ (textR S p R) = some m → q + 1 = m by rw [← HRR.out]; exact fun m hm => anQ_text hm)
          have hdb : ((d : Int) != 39) = true := by rw [bne_iff_ne]; omega
          clear hdd HE hd39
          go_wp2_with fail
          go_region
          all_goals
            go_wp2_with fail
            go_region
            all_goals
              obtain ⟨c0, c1, f0, f1⟩ := rd_cells (lt_drew (lt_drew HL.out)).2.1
              go_wp2_with fail
              refine (HNQ.out _ HL2.out.2.1).mono ?_
              rintro e w3 ⟨rfl, hb3⟩
              have HL3 := Lib.hid (lt_bel HL2.out hb3)
              clear hb3 c0 c1 f0 f1
              go_wp2_with fail
              refine (lt_str HL3.out).mono ?_
              rintro e w4 ⟨rfl, hx4, hr4⟩
              have HD8 := Lib.hid hr4
              have HA8 := Lib.hid (bx_blk HA.out hx4 hne)
              have HB8 := Lib.hid (bx_blk HB.out hx4 hne2)
              have HX8 := Lib.hid (bx_trans (bx_of HW.out rfl) hx4)
              clear hr4 hx4 HL HLd HL2 HL3
              go_wp2_with fail
              refine (bytes_any 4 (bstr acc) p _).mono ?_
              rintro e w9 ⟨rfl, hb9⟩
              have HA9 := Lib.hid (Blk.below HA8.out hb9 (Blk.lt HA8.out))
              have HB9 := Lib.hid (Blk.below HB8.out hb9 (Blk.lt HB8.out))
              have HD9 := Lib.hid (rd_step HD8.out hb9)
              have HX9 := Lib.hid (bx_later HX8.out hb9)
              clear hb9
              by_cases hbig : 1000 < (bstr acc).size
              · have hby : bytT 4 (bstr acc) p = .tuple #[tokV 0 ⟨#[]⟩ 0 0, spotV 3 p] := if_pos hbig
                have HRES := Lib.hid (show anT (textR S p R) = .tuple #[tokV 0 ⟨#[]⟩ 0 0, spotV 3 p] by rw [← HRR.out]; simp only [textR, blobR, longA, if_pos hbig]; rfl)
                rw [hby]
                clear hby hbig
                obtain ⟨d0, d1, d2, d3⟩ := cell2b HB9.out
                obtain ⟨b0, b1, b2, b3⟩ := cell4b HA9.out
                have e0 := (HA9.out).frozen 0
                have e1 := (HA9.out).frozen 1
                have e2 := (HA9.out).frozen 2
                have e3 := (HA9.out).frozen 3
                unfold tokV spotV
                go_wp2
                obtain ⟨hA, hB⟩ := two_set HA9.out HB9.out (by omega) (.int .u8 0) (.string ⟨#[]⟩) (.int .u64 0) (.int .i64 0) (.int .i64 3) (.int .i64 p)
                have HB6 := two_below (g := w.heap.size) (h := w.heap.size + 1) (Below.refl w.heap.size w9) (Nat.le_refl _) (Nat.le_succ _) (.int .u8 0) (.string ⟨#[]⟩) (.int .u64 0) (.int .i64 0) (.int .i64 3) (.int .i64 p)
                clear d0 d1 d2 d3 b0 b1 b2 b3 e0 e1 e2 e3
                obtain ⟨d0, d1, _, _⟩ := cell2b hB
                obtain ⟨c0, c1, c2, c3⟩ := cell4b hA
                exact bodyPost_ret (v := .tuple #[tokV 0 ⟨#[]⟩ 0 0, spotV 3 p]) (by simp [results, Tryz.results49, go_sem, c0, c1, c2, c3, d0, d1, tokV, spotV]) rfl ⟨by rw [HRES.out], ⟨_, Blk.below (HD9).out HB6 hlt, HRN.out⟩, bx_more (HX9).out HB6⟩
              · have hby : bytT 4 (bstr acc) p = .tuple #[tokV 4 (bstr acc) 0 p, spotV 0 0] := if_neg hbig
                have HRES := Lib.hid (show anT (textR S p R) = .tuple #[tokV 4 (bstr acc) 0 p, spotV 0 0] by rw [← HRR.out]; simp only [textR, blobR, longA, if_neg hbig]; rfl)
                rw [hby]
                clear hby hbig
                obtain ⟨d0, d1, d2, d3⟩ := cell2b HB9.out
                obtain ⟨b0, b1, b2, b3⟩ := cell4b HA9.out
                have e0 := (HA9.out).frozen 0
                have e1 := (HA9.out).frozen 1
                have e2 := (HA9.out).frozen 2
                have e3 := (HA9.out).frozen 3
                unfold tokV spotV
                go_wp2
                obtain ⟨hA, hB⟩ := two_set HA9.out HB9.out (by omega) (.int .u8 4) (.string (bstr acc)) (.int .u64 0) (.int .i64 p) (.int .i64 0) (.int .i64 0)
                have HB6 := two_below (g := w.heap.size) (h := w.heap.size + 1) (Below.refl w.heap.size w9) (Nat.le_refl _) (Nat.le_succ _) (.int .u8 4) (.string (bstr acc)) (.int .u64 0) (.int .i64 p) (.int .i64 0) (.int .i64 0)
                clear d0 d1 d2 d3 b0 b1 b2 b3 e0 e1 e2 e3
                obtain ⟨d0, d1, _, _⟩ := cell2b hB
                obtain ⟨c0, c1, c2, c3⟩ := cell4b hA
                exact bodyPost_ret (v := .tuple #[tokV 4 (bstr acc) 0 p, spotV 0 0]) (by simp [results, Tryz.results49, go_sem, c0, c1, c2, c3, d0, d1, tokV, spotV]) rfl ⟨by rw [HRES.out], ⟨_, Blk.below (HD9).out HB6 hlt, HRN.out⟩, bx_more (HX9).out HB6⟩

      · have HQ := Lib.hid (show ujo (acc ++ [c]) (q + 1) (utx ((bts S).drop (q + 1))) = R by
          rw [← HE.out, HDR.out, utx_char h39, ujo_1])
        have hcb : ((c : Int) == 39) = false := beq_no13 (by omega)
        have HLdd := Lib.hid (lt_drew (lt_drew HLd.out))
        clear HE h39
        go_wp2_with fail
        go_region
        all_goals
          go_wp2_with fail
          go_region
          all_goals
            go_wp2_with fail
            go_region_with ((go_at_call 10; (with_reducible refine (lt_wb c HLdd.out (by omega) (by have := HAL.out; omega)).mono ?_); rintro e w4 ⟨rfl, hl4⟩))
            all_goals
              have HL4 := Lib.hid hl4
              clear hl4 c0 c1 f0 f1
              obtain ⟨c0, c1, f0, f1⟩ := rd_cells HL4.out.2.1
              have HL5 := Lib.hid (lt_set HL4.out (q + 1))
              go_wp2
              go_roundw
              case rel => exact ⟨q + 1, acc ++ [c], by omega, by omega, by have := HAL.out; simp; omega, HQ.out, HL5.out⟩
              case measure =>
                rw [M0.out]
                have h2 := rd_at HL5.out.2.1
                exact Nat.lt_of_lt_of_eq (Nat.lt_of_le_of_lt (Nat.le_of_eq (congrArg (S.size - ·) h2)) (by omega)) rfl
end Go.Proofs.YtibnmkjabpoppaaGreatDoor
