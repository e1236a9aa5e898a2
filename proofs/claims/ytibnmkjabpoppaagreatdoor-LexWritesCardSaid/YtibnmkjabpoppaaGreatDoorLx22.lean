/- Layer 13: a row of bytes beside two blocks; ref13.text. Conditions: those of each lemma. -/
import Derived.Test.YtibnmkjabpoppaaGreatDoorLx21
import Derived.Shelf.Bytes.SlSmallAll
namespace Go.Proofs.YtibnmkjabpoppaaGreatDoor
open Go Go.RowKit
set_option linter.unusedVariables false
set_option linter.unusedSimpArgs false

def vals8 (l : List Nat) : List Value := l.map fun (x : Nat) => Value.int .u8 (x : Int)
theorem vals8_length (l : List Nat) : (vals8 l).length = l.length := by simp [vals8]
theorem vals8_one (l : List Nat) : ∀ u ∈ vals8 l, u.oneCell' = true := by
  intro u h; simp only [vals8, List.mem_map] at h; obtain ⟨x, _, rfl⟩ := h; rfl
theorem vals8_snoc (L : List Nat) (b : Nat) : vals8 L ++ [Value.int .u8 (b : Int)] = vals8 (L ++ [b]) := by simp [vals8]
theorem u8_info : (Tryz.prog.info? 5).map (fun i => (i.zero, i.size, i.bytes)) = some (some (.int .u8 0), 1, 1) := by kernel_rfl
theorem cells_of_own {w : World} {base e : Nat} {v : Value} {n : Nat} {l : List Nat} (h : w.ownsRow base e 1 v n (vals8 l)) (hn : 0 < n) :
    ∃ g cap, v = .slice (some ⟨g, 0, none⟩) n cap ∧ n = l.length ∧ base ≤ g ∧ g < w.heap.size ∧ ∀ i, i < n → w.cell? ⟨g, 0 + i, none⟩ = some (.int .u8 ((l.map Int.ofNat).getD i 0)) := by
  obtain ⟨g, cap, rfl, hb, hlt⟩ := h.form hn
  have hl : n = l.length := by have := h.1; simp [vals8] at this; omega
  refine ⟨g, cap, rfl, hl, hb, hlt, fun i hi => ?_⟩
  have hc := h.cells (g := g) rfl i (.int .u8 ((l.map Int.ofNat).getD i 0)) (by
    simp only [vals8, List.getElem?_map, List.getD_eq_getElem?_getD]
    rw [List.getElem?_eq_getElem (by omega)]; rfl)
  have e1 : (⟨g, 0, none⟩ : Addr).add i = ⟨g, 0 + i, none⟩ := by unfold Addr.add; split <;> simp_all
  rw [e1] at hc
  exact hc
theorem conv_own {W : World} {base c : Nat} {A : Option Addr} {L : List Nat} (h : W.ownsRow base 5 1 (.slice A L.length c) L.length (vals8 L)) :
    (convert 36 9 (.slice A L.length c)).run Tryz.prog W = .ok (.string (bstr L)) W := by
  by_cases h0 : L = []
  · subst h0
    exact run_convert_bytes_zero W 36 5 Tryz.underlying36 Tryz.underlying5 A c 9 Tryz.underlying9
  · obtain ⟨g, cap, hve, hl2, _, _, hcell⟩ := cells_of_own h (by cases L with | nil => exact absurd rfl h0 | cons a b => simp)
    obtain ⟨rfl, rfl⟩ : A = some ⟨g, 0, none⟩ ∧ c = cap := by injection hve with e1 _ e2; exact ⟨e1, e2⟩
    have hcv := run_convert_bytes_arg (P := Tryz.prog) W 36 5 Tryz.underlying36 Tryz.underlying5 g 0 L.length c (L.map Int.ofNat) (by simp) hcell 9 Tryz.underlying9
    rw [bstr_nums] at hcv
    exact hcv
theorem reads1 (W : World) (g : Nat) (x : Value) (t : TypeId) (hg : W.heap.size = g) : Reads (W.alloc (.cells #[x] t)) (g + 1) 1 (some ⟨g, 0, none⟩) 1 [x] := by
  subst hg
  exact ⟨rfl, fun _ => ⟨_, rfl, by simp, fun j u hj => by
    match j, hj with
    | 0, hj => simp at hj; subst hj; simp [Addr.add]
    | j + 1, hj => simp at hj⟩⟩
/-- a row of bytes beside the blocks of a token and of a place -/
def Rq (w : World) (acc : List Nat) (v : Value) (W : World) : Prop := W.ownsRow (w.heap.size + 2) 5 1 v acc.length (vals8 acc) ∧ Blk W w.heap.size 34 #[.int .u8 0, .string ⟨#[]⟩, .int .u64 0, .int .i64 0] ∧ Blk W (w.heap.size + 1) 29 #[.int .i64 0, .int .i64 0] ∧ Below w.heap.size w W ∧ w.heap.size + 2 ≤ W.heap.size
theorem rq_step {w W W' : World} {acc : List Nat} {v : Value} (h : Rq w acc v W) (hb : Below W.heap.size W W') : Rq w acc v W' :=
  ⟨own_below h.1 hb, Blk.below h.2.1 hb (Blk.lt h.2.1), Blk.below h.2.2.1 hb (Blk.lt h.2.2.1), below_low h.2.2.2.1 h.2.2.2.1.size hb, Nat.le_trans h.2.2.2.2 hb.size⟩
theorem rq_grown {w W W' : World} {acc acc' : List Nat} {v v' : Value} (h : Rq w acc v W) (ho : W'.ownsRow (w.heap.size + 2) 5 1 v' acc'.length (vals8 acc')) (hg : W.grownBy W' v.ownBlock) : Rq w acc' v' W' := by
  have hlt : ∀ z, v.ownBlock = some z → w.heap.size + 2 ≤ z ∧ z < W.heap.size := fun z hz => h.1.lt z hz
  exact ⟨ho, Blk.grown h.2.1 hg (fun e => by have := hlt _ e.symm; omega), Blk.grown h.2.2.1 hg (fun e => by have := hlt _ e.symm; omega), h.2.2.2.1.grown hg h.2.2.2.1.size (fun z hz => by have := hlt z hz; omega), Nat.le_trans h.2.2.2.2 hg.size⟩
theorem rq_new (w : World) : Rq w [] (.slice none 0 0) ((w.alloc tokA).alloc spotA) := by
  obtain ⟨hA, hB⟩ := two_blk w (.int .u8 0) (.string ⟨#[]⟩) (.int .u64 0) (.int .i64 0) (.int .i64 0) (.int .i64 0) 34 29
  exact ⟨World.ownsRow_nil _ _ _ _, hA, hB, bj13 one_alloc one_alloc, by simp⟩
theorem idx_run (s : ByteArray) (z : Int) (j c : Nat) (hz : z = j) (hj : j < s.size) (hc : atB s j = c) (W : World) : (Instr.index 9 (.string s) (.int .i64 z)).run Tryz.prog W = .ok (.int .u8 (c : Nat)) W := by
  subst hz
  have hy := byte_at s j hj
  rw [run_index_string W 9 _ .i64 _ Tryz.underlying9, dif_pos ⟨by omega, by omega⟩]
  have e : ((j : Int)).toNat = j := by omega
  simp only [e]
  unfold atB at hc
  rw [hy, hc]
set_option maxRecDepth 100000 in
set_option maxHeartbeats 8000000 in
theorem rtext_any (S : ByteArray) (p : Nat) (w : World) (hp : p < S.size) (hS : S.size ≤ 140737488351232) : Calls Tryz.prog 27 #[.string S, .int .i64 p] w fun r w' => r = .returned (anR (textA S p)) ∧ Below w.heap.size w w' := by
  obtain ⟨iv, hv1, hv2, hv3, hv4⟩ := info_parts u8_info
  unfold textA
  obtain ⟨R, hR⟩ : ∃ R, ujo [] (p + 1) (utx ((bts S).drop (p + 1))) = R := ⟨_, rfl⟩
  have HR := Lib.hid hR
  rw [hR]
  clear hR
  have hSI : (S.size : Int) ≤ 140737488351232 := by omega
  have hpI : (p : Int) < S.size := by omega
  have HN := Lib.hid (rq_new w)
  have HAT := Lib.hid (fun q W => rAt_any S q W)
  go_enter Tryz.func27, Tryz.ntmps27
  go_wp2
  go_loopw [7, 8] (fun v i wr => ∃ (q : Nat) (acc : List Nat), i = .int .i64 q ∧ p + 1 ≤ q ∧ q ≤ S.size ∧ acc.length ≤ q ∧ ujo acc q (utx ((bts S).drop q)) = R ∧ Rq w acc v wr) (fun _ i _ => S.size - (intOf i).toNat)
  case atStart => exact ⟨p + 1, [], by go_num, Nat.le_refl _, hp, Nat.zero_le _, HR.out, HN.out⟩
  case round =>
    clear HR HN
    obtain ⟨q, acc, rfl, hq1, hq2, hal, hE, hQ⟩ := hrel
    obtain ⟨A, c, rfl⟩ := own_form hQ.1
    have HE := Lib.hid hE
    have HQ := Lib.hid hQ
    have HAL := Lib.hid hal
    clear hE hQ
    by_cases hqs : q = S.size
    · have HRR := Lib.hid (show none = R by rw [← HE.out, hqs, List.drop_of_length_le (by rw [bts_length]; exact Nat.le_refl _)]; rfl)
      have HRES := Lib.hid (show anR (textR S p R) = .tuple #[tokV 0 ⟨#[]⟩ 0 0, .int .i64 0, spotV 6 S.size] by rw [← HRR.out]; rfl)
      have hqI : (S.size : Int) ≤ q := by omega
      have HA8 := Lib.hid HQ.out.2.1
      have HB8 := Lib.hid HQ.out.2.2.1
      have HX8 := Lib.hid HQ.out.2.2.2.1
      clear HE hqs hal hq1 hq2
      go_wp2_with fail
      refine (rbad_any 6 S.size _).mono ?_
      rintro e w9 ⟨rfl, hb9⟩
      have HA9 := Lib.hid (Blk.below HA8.out hb9 (Blk.lt HA8.out))
      have HB9 := Lib.hid (Blk.below HB8.out hb9 (Blk.lt HB8.out))
      have HX9 := Lib.hid (below_low HX8.out HX8.out.size hb9)
      clear hb9
      obtain ⟨d0, d1, d2, d3⟩ := cell2b HB9.out
      obtain ⟨b0, b1, b2, b3⟩ := cell4b HA9.out
      have e0 := (HA9.out).frozen 0
      have e1 := (HA9.out).frozen 1
      have e2 := (HA9.out).frozen 2
      have e3 := (HA9.out).frozen 3
      unfold tokV spotV
      go_wp2
      obtain ⟨hA, hB⟩ := two_set HA9.out HB9.out (by omega) (.int .u8 0) (.string ⟨#[]⟩) (.int .u64 0) (.int .i64 0) (.int .i64 6) (.int .i64 S.size)
      have HB6 := Lib.hid (two_below (g := w.heap.size) (h := w.heap.size + 1) HX9.out (Nat.le_refl _) (Nat.le_succ _) (.int .u8 0) (.string ⟨#[]⟩) (.int .u64 0) (.int .i64 0) (.int .i64 6) (.int .i64 S.size))
      clear d0 d1 d2 d3 b0 b1 b2 b3 e0 e1 e2 e3
      obtain ⟨d0, d1, _, _⟩ := cell2b hB
      obtain ⟨c0, c1, c2, c3⟩ := cell4b hA
      refine bodyPost_ret (v := .tuple #[tokV 0 ⟨#[]⟩ 0 0, .int .i64 0, spotV 6 S.size]) ?_ rfl ?_
      · simp [results, Tryz.results27, go_sem, c0, c1, c2, c3, d0, d1, tokV, spotV]
      · exact ⟨by rw [HRES.out], HB6.out⟩

    · have hqlt : q < S.size := by omega
      have hqI : (q : Int) < S.size := by omega
      have hx := atB_at S q hqlt
      have hc := atB_lt S q
      have hd := drop_at S q hqlt
      generalize hcc : atB S q = c0 at *
      have HDR := Lib.hid hd
      have HLEN := Lib.hid (fun (k : Nat) => (show (acc ++ [k]).length = acc.length + 1 by simp))
      clear hd hcc hqs
      by_cases h39 : c0 = 39
      · subst h39
        obtain ⟨d, hdd⟩ : ∃ d, atB S (q + 1) = d := ⟨_, rfl⟩
        have HH := Lib.hid (drop_hd S (q + 1))
        have hat : ∀ W, Calls Tryz.prog 28 #[.string S, .int .i64 ((q : Int) + 1)] W fun e w' => e = .returned (.int .u8 (atB S (q + 1))) ∧ W = w' := fun W => HAT.out (q + 1) W
        rw [hdd] at hat HH
        have HAQ := Lib.hid hat
        clear hat
        by_cases hd39 : d = 39
        · subst hd39
          have hq2s : q + 1 < S.size := in_of_39 hdd
          have HQ2 := Lib.hid (show ujo (acc ++ [39]) (q + 1 + 1) (utx ((bts S).drop (q + 1 + 1))) = R by
            rw [← HE.out, HDR.out, drop_at S (q + 1) hq2s, hdd, utx_two, ujo_1])
          have HS5 := Lib.hid (rq_step HQ.out (one_alloc (o := .cells #[.int .u8 39] 5)))
          have hrd := reads1 wr wr.heap.size (.int .u8 39) 5 rfl
          have HLEN := Lib.hid (HLEN.out 39)
          clear hdd HE
          go_wp2_with fail
          refine (HAQ.out _).mono ?_
          rintro e w3 ⟨rfl, rfl⟩
          go_wp2_with (at_builtin; refine wpList_append_any _ rfl (.tmp 32) (.tmp 36) 36 rfl (w.heap.size + 2) 5 iv _ 1 1 Tryz.underlying36 hv1 hv2 hv3 hv4 rfl (by omega) _ acc.length (vals8 acc) rfl HS5.out.1 (wr.heap.size + 1) (some ⟨wr.heap.size, 0, none⟩) 1 1 [.int .u8 39] rfl hrd (by intro u hu; simp at hu; subst hu; rfl) (by simp only [maxLen]; omega) (by omega) HS5.out.2.2.2.2 ?_; intro v1 w4 hown1 hg1 hat1; (have HS6 := Lib.hid (rq_grown (acc' := acc ++ [39]) HS5.out (by rw [HLEN.out, ← vals8_snoc]; exact hown1) hg1)); clear hown1 hg1 hat1 hrd)
          go_wp2
          go_roundw
          case rel => exact ⟨q + 1 + 1, acc ++ [39], by go_num, by omega, by omega, by rw [HLEN.out]; omega, HQ2.out, HS6.out⟩
          case measure => simp [intOf]; omega
        · have HRR := Lib.hid (show some (acc, q + 1) = R by
            rw [← HE.out, HDR.out, utx_end (by rw [HH.out]; exact hd39)]
            simp [ujo])
          have hdb : ((d : Int) != 39) = true := by rw [bne_iff_ne]; omega
          have hcv := conv_own HQ.out.1
          have HA8 := Lib.hid HQ.out.2.1
          have HB8 := Lib.hid HQ.out.2.2.1
          have HX8 := Lib.hid HQ.out.2.2.2.1
          clear hdd HE hd39
          go_wp2_with fail
          refine (HAQ.out _).mono ?_
          rintro e w3 ⟨rfl, rfl⟩
          by_cases hbig : 1000 < (bstr acc).size
          · have hbI : (1000 : Int) < acc.length := by rw [bstr_size] at hbig; omega
            have HRES := Lib.hid (show anR (textR S p R) = .tuple #[tokV 0 ⟨#[]⟩ 0 0, .int .i64 0, spotV 3 p] by rw [← HRR.out]; simp only [textR, blobR, longA, if_pos hbig]; rfl)
            clear hbig
            go_wp2_with fail
            refine (rbad_any 3 p _).mono ?_
            rintro e w9 ⟨rfl, hb9⟩
            have HA9 := Lib.hid (Blk.below HA8.out hb9 (Blk.lt HA8.out))
            have HB9 := Lib.hid (Blk.below HB8.out hb9 (Blk.lt HB8.out))
            have HX9 := Lib.hid (below_low HX8.out HX8.out.size hb9)
            clear hb9
            obtain ⟨d0, d1, d2, d3⟩ := cell2b HB9.out
            obtain ⟨b0, b1, b2, b3⟩ := cell4b HA9.out
            have e0 := (HA9.out).frozen 0
            have e1 := (HA9.out).frozen 1
            have e2 := (HA9.out).frozen 2
            have e3 := (HA9.out).frozen 3
            unfold tokV spotV
            go_wp2
            obtain ⟨hA, hB⟩ := two_set HA9.out HB9.out (by omega) (.int .u8 0) (.string ⟨#[]⟩) (.int .u64 0) (.int .i64 0) (.int .i64 3) (.int .i64 p)
            have HB6 := Lib.hid (two_below (g := w.heap.size) (h := w.heap.size + 1) HX9.out (Nat.le_refl _) (Nat.le_succ _) (.int .u8 0) (.string ⟨#[]⟩) (.int .u64 0) (.int .i64 0) (.int .i64 3) (.int .i64 p))
            clear d0 d1 d2 d3 b0 b1 b2 b3 e0 e1 e2 e3
            obtain ⟨d0, d1, _, _⟩ := cell2b hB
            obtain ⟨c0, c1, c2, c3⟩ := cell4b hA
            refine bodyPost_ret (v := .tuple #[tokV 0 ⟨#[]⟩ 0 0, .int .i64 0, spotV 3 p]) ?_ rfl ?_
            · simp [results, Tryz.results27, go_sem, c0, c1, c2, c3, d0, d1, tokV, spotV]
            · exact ⟨by rw [HRES.out], HB6.out⟩
          · have hbI : ¬ (1000 : Int) < acc.length := by rw [bstr_size] at hbig; omega
            have HRES := Lib.hid (show anR (textR S p R) = .tuple #[tokV 4 (bstr acc) 0 p, .int .i64 ((q : Int) + 1), spotV 0 0] by rw [← HRR.out]; simp only [textR, blobR, longA, if_neg hbig]; rfl)
            clear hbig
            obtain ⟨d0, d1, d2, d3⟩ := cell2b HB8.out
            obtain ⟨b0, b1, b2, b3⟩ := cell4b HA8.out
            have e0 := (HA8.out).frozen 0
            have e1 := (HA8.out).frozen 1
            have e2 := (HA8.out).frozen 2
            have e3 := (HA8.out).frozen 3

            go_wp2
            obtain ⟨hA, hB⟩ := two_set HA8.out HB8.out (by omega) (.int .u8 4) (.string (bstr acc)) (.int .u64 0) (.int .i64 p) (.int .i64 0) (.int .i64 0)
            have HB6 := Lib.hid (two_below (g := w.heap.size) (h := w.heap.size + 1) HX8.out (Nat.le_refl _) (Nat.le_succ _) (.int .u8 4) (.string (bstr acc)) (.int .u64 0) (.int .i64 p) (.int .i64 0) (.int .i64 0))
            clear d0 d1 d2 d3 b0 b1 b2 b3 e0 e1 e2 e3
            obtain ⟨d0, d1, _, _⟩ := cell2b hB
            obtain ⟨c0, c1, c2, c3⟩ := cell4b hA
            refine bodyPost_ret (v := .tuple #[tokV 4 (bstr acc) 0 p, .int .i64 ((q : Int) + 1), spotV 0 0]) ?_ rfl ?_
            · simp [results, Tryz.results27, go_sem, c0, c1, c2, c3, d0, d1, tokV, spotV]
            · exact ⟨by rw [HRES.out], HB6.out⟩

      · have HQ2 := Lib.hid (show ujo (acc ++ [c0]) (q + 1) (utx ((bts S).drop (q + 1))) = R by
          rw [← HE.out, HDR.out, utx_char h39, ujo_1])
        have hcb : ((c0 : Int) == 39) = false := beq_no13 (by omega)
        have HS5 := Lib.hid (rq_step HQ.out (one_alloc (o := .cells #[.int .u8 (c0 : Int)] 5)))
        have hrd := reads1 wr wr.heap.size (.int .u8 (c0 : Int)) 5 rfl
        have HLEN := Lib.hid (HLEN.out c0)
        clear HE h39
        go_wp2_with (at_builtin; refine wpList_append_any _ rfl (.tmp 32) (.tmp 36) 36 rfl (w.heap.size + 2) 5 iv _ 1 1 Tryz.underlying36 hv1 hv2 hv3 hv4 rfl (by omega) _ acc.length (vals8 acc) rfl HS5.out.1 (wr.heap.size + 1) (some ⟨wr.heap.size, 0, none⟩) 1 1 [.int .u8 c0] rfl hrd (by intro u hu; simp at hu; subst hu; rfl) (by simp only [maxLen]; omega) (by omega) HS5.out.2.2.2.2 ?_; intro v1 w4 hown1 hg1 hat1; (have HS6 := Lib.hid (rq_grown (acc' := acc ++ [c0]) HS5.out (by rw [HLEN.out, ← vals8_snoc]; exact hown1) hg1)); clear hown1 hg1 hat1 hrd)
        go_wp2
        go_roundw
        case rel => exact ⟨q + 1, acc ++ [c0], by go_num, by omega, by omega, by rw [HLEN.out]; omega, HQ2.out, HS6.out⟩
        case measure => simp [intOf]; omega
end Go.Proofs.YtibnmkjabpoppaaGreatDoor
