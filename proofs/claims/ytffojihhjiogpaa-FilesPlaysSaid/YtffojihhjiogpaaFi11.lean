/- Layer 3: files.Write, whole. Conditions: those of each lemma. -/
import Derived.Test.YtffojihhjiogpaaFi10
import Derived.Test.YtffojihhjiogpaaWords
namespace Go.Proofs.Ytffojihhjiogpaa
open Go.RowKit Go Go.Maps
set_option linter.unusedVariables false
set_option linter.unusedSimpArgs false
theorem quo64 (s : ByteArray) {n r : Nat} (hn : s.size / 64 = n) (hr : s.size % 64 = r) : (s.size : Int) / 64 = n ∧ (s.size : Int) % 64 = r := by omega
set_option maxRecDepth 100000 in
set_option maxHeartbeats 4000000 in
theorem write_err (S : Nat → Prop) (g : Nat) (d : Dk) (N : Nat) (f pl : Int) (s : ByteArray) (hs : s.size ≤ 140737488351232) (w : World) (h : DkS w S g d N) (e0 : Int) (he : (readyD d f ≠ 0 ∧ e0 = readyD d f) ∨ (readyD d f = 0 ∧ (s.size / 64 = 0 ∨ s.size % 64 ≠ 0) ∧ e0 = 2) ∨ (readyD d f = 0 ∧ ¬ (s.size / 64 = 0 ∨ s.size % 64 ≠ 0) ∧ (pl < 0 ∨ 8192 < s.size / 64 ∨ 8192 - (s.size / 64 : Nat) < pl) ∧ e0 = 5)) :
    Calls Try.prog 10 #[.pointer (some ⟨g, 0, none⟩), .int .i64 f, .int .i64 pl, .string s] w fun e w' => e = .returned (.int .i64 e0) ∧ w = w' := by
  have HRD := Lib.hid (ready_any S g d N f w h)
  clear h
  obtain ⟨n, hn⟩ : ∃ n, s.size / 64 = n := ⟨_, rfl⟩
  obtain ⟨r, hr⟩ : ∃ r, s.size % 64 = r := ⟨_, rfl⟩
  obtain ⟨hq, hq2⟩ := quo64 s hn hr
  have hsI : (s.size : Int) ≤ 140737488351232 := by omega
  rw [hn, hr] at he
  have hn2 : (n : Int) ≤ 140737488351232 := by omega
  rcases he with ⟨h1, rfl⟩ | ⟨h1, h2, rfl⟩ | ⟨h1, h2, h3, rfl⟩
  · have hne : (readyD d f != 0) = true := by rw [bne_iff_ne]; exact h1
    generalize readyD d f = E at *
    clear h1
    go_enter Try.func10, Try.ntmps10
    go_wp2_with fail
    refine (HRD.out).mono ?_
    rintro e w' ⟨rfl, rfl⟩
    go_wp2
    go_ret
    exact ⟨rfl, rfl⟩
  · rw [h1] at HRD
    clear h1
    by_cases h0 : n = 0
    · subst h0
      clear hn hr hs h2
      go_enter Try.func10, Try.ntmps10
      go_wp2_with fail
      refine (HRD.out).mono ?_
      rintro e w' ⟨rfl, rfl⟩
      go_wp2
      go_ret
      exact ⟨rfl, rfl⟩
    · have hr0 : ¬ r = 0 := by omega
      have b0 : ((n : Int) == 0) = false := by rw [beq_eq_false_iff_ne]; omega
      have b1 : ((r : Int) != 0) = true := by rw [bne_iff_ne]; omega
      have hrp : (0 : Int) < r := by omega
      clear hn hr hs h2
      go_enter Try.func10, Try.ntmps10
      go_wp2_with fail
      refine (HRD.out).mono ?_
      rintro e w' ⟨rfl, rfl⟩
      go_wp2
      go_ret
      exact ⟨rfl, rfl⟩
  · rw [h1] at HRD
    clear h1
    have h0 : ¬ n = 0 := by omega
    obtain rfl : r = 0 := by omega
    have b0 : ((n : Int) == 0) = false := by rw [beq_eq_false_iff_ne]; omega
    by_cases c1 : pl < 0
    · have b2 : decide (pl < 0) = true := decide_eq_true c1
      clear hn hr hs h2 h3
      go_enter Try.func10, Try.ntmps10
      go_wp2_with fail
      refine (HRD.out).mono ?_
      rintro e w' ⟨rfl, rfl⟩
      go_wp2
      go_ret
      exact ⟨rfl, rfl⟩
    have b2 : decide (pl < 0) = false := decide_eq_false c1
    by_cases c2 : 8192 < n
    · have b3 : decide ((8192 : Int) < n) = true := decide_eq_true (by omega)
      have b3n : decide (8192 < n) = true := decide_eq_true c2
      have c2I : (8192 : Int) < n := by omega
      clear hn hr hs h2 h3
      go_enter Try.func10, Try.ntmps10
      go_wp2_with fail
      refine (HRD.out).mono ?_
      rintro e w' ⟨rfl, rfl⟩
      go_wp2
      go_ret
      exact ⟨rfl, rfl⟩
    · have b3 : decide ((8192 : Int) < n) = false := decide_eq_false (by omega)
      have b3n : decide (8192 < n) = false := decide_eq_false c2
      have c2I : (n : Int) ≤ 8192 := by omega
      have b4 : decide (8192 - (n : Int) < pl) = true := decide_eq_true (by omega)
      clear hn hr hs h2 h3
      go_enter Try.func10, Try.ntmps10
      go_wp2_with fail
      refine (HRD.out).mono ?_
      rintro e w' ⟨rfl, rfl⟩
      go_wp2
      go_ret
      exact ⟨rfl, rfl⟩
theorem bytes_at (s : ByteArray) (k : Nat) (hk : k ≤ s.size) : Lib.byteCells (List.take 64 (s.extract k s.size).data.toList) = vals8 (((bts s).drop k).take 64) := by
  rw [← bts_cutr]
  unfold Lib.byteCells vals8 bts
  rw [← List.map_take, List.map_map]
  rfl
set_option maxRecDepth 100000 in
set_option maxHeartbeats 8000000 in
theorem write_ok (S : Nat → Prop) (g : Nat) (d : Dk) (N : Nat) (hN : N + 1 ≤ 1000000) (f p n : Nat) (s : ByteArray) (hs : s.size ≤ 140737488351232) (w : World) (h : DkS w S g d N) (hr : readyD d f = 0) (hn : s.size / 64 = n) (hr0 : s.size % 64 = 0) (hn0 : n ≠ 0) (hp : p + n ≤ 8192) :
    Calls Try.prog 10 #[.pointer (some ⟨g, 0, none⟩), .int .i64 f, .int .i64 p, .string s] w fun e w' => e = .returned (.int .i64 (opD d (wrL f p s)).2) ∧ DkR w S g (opD d (wrL f p s)).1 (N + 1) w' := by
  have HRD := Lib.hid (ready_any S g d N f w h)
  rw [hr] at HRD
  have hf8 : f < 8 := by have := (ready_ok hr).2.2.2; omega
  obtain ⟨hq, hq3⟩ := quo64 s hn hr0
  have hq2 : (s.size : Int) % 64 = 0 := hq3
  clear hq3
  have hq4 : (s.size : Int).tmod 64 = 0 := by rw [Int.tmod_eq_emod_of_nonneg (by omega)]; exact hq2
  have hsI : (s.size : Int) ≤ 140737488351232 := by omega
  have b0 : ((n : Int) == 0) = false := by rw [beq_eq_false_iff_ne]; omega
  have b2 : decide ((p : Int) < 0) = false := decide_eq_false (by omega)
  have b3 : decide ((8192 : Int) < n) = false := decide_eq_false (by omega)
  have b3n : decide (8192 < n) = false := decide_eq_false (by omega)
  have b4 : decide (8192 - (n : Int) < p) = false := decide_eq_false (by omega)
  have c2 : (n : Int) ≤ 8192 := by omega
  obtain ⟨iv, hv1, hv2, hv3, hv4⟩ := info_parts ch_info
  have hmk : ∀ W, (Instr.makeSlice 68 (.int .i64 n) (.int .i64 n)).run Try.prog W = .ok (.slice (some ⟨W.heap.size, 0, none⟩) n n) (W.alloc (.cells (madeCells Try.zeroCells74 (n * 67)) 74)) := fun W => by
    have hr := run_make (P := Try.prog) W 68 74 iv _ Try.underlying68 hv1 hv2 .i64 .i64 n n (by omega) (Int.le_refl _) (by rw [hv4]; omega) (by omega)
    rw [hv3] at hr
    simp only [Int.toNat_natCast] at hr
    exact hr
  have HNN := Lib.hid hn
  have HR0 := Lib.hid hr0
  have HH := Lib.hid h
  have HW := Lib.hid (Blk.new w 74 (madeCells Try.zeroCells74 (n * 67)))
  clear h hr hn hr0 hv1 hv2 hv3 hv4
  go_enter Try.func10, Try.ntmps10
  go_wp2_with fail
  refine (HRD.out).mono ?_
  rintro e w' ⟨rfl, rfl⟩
  go_wp2
  go_loopw [46] (fun v wr => ∃ (j : Nat) (cur : Array Value), j ≤ n ∧ v = .int .i64 j ∧ Blk wr w.heap.size 74 cur ∧ MkIs f p s n j cur ∧ Below w.heap.size w wr) (fun v _ => n - (intOf v).toNat)
  case atStart => exact ⟨0, _, Nat.zero_le _, rfl, HW.out, ⟨by rw [size_madeCells], fun q r u hq => absurd hq (Nat.not_lt_zero q)⟩, one_alloc⟩
  case round =>
    clear hmk HW
    obtain ⟨j, cur, hj, rfl, hblk, hmkis, hbl⟩ := hrel
    by_cases hlt : j < n
    · have hj64 : j * 64 + 64 ≤ s.size := by have := HNN.out; omega
      obtain ⟨cur', hb', hsz', hnext⟩ := mk_step hblk hmkis hlt hj64
      have hth : wr.there w.heap.size (j * 67) 67 := fun k hk => ⟨by rw [hblk.cell, Array.getElem?_eq_getElem (by rw [hmkis.1]; omega)]; rfl, hblk.frozen _⟩
      have hi67 : (Try.prog.info? 74).map (·.size) = some 67 := by kernel_rfl
      have hb' : Blk (wr.setCells w.heap.size (j * 67) (chL ⟨f, p + j, false, zS⟩).toArray.toList) w.heap.size 74 cur' := hb'
      have hb2 : Fr (fun x => x = w.heap.size) wr (wr.setCells w.heap.size (j * 67) (chL ⟨f, p + j, false, zS⟩).toArray.toList) := fr_setCells (b := w.heap.size) (chL ⟨f, p + j, false, zS⟩) (j * 67) wr
      have HB2 := Lib.hid hb2
      have HBL := Lib.hid hbl
      have HNX := Lib.hid hnext
      have HBC := Lib.hid hb'
      have HSZ := Lib.hid hsz'
      have jI : (j : Int) < n := by omega
      have jI2 : (j : Int) * 64 + 64 ≤ s.size := by omega
      have jI3 : (j : Int) * 64 ≤ s.size := by omega
      have jI4 : (0 : Int) ≤ (j : Int) * 64 := by omega
      clear hblk hmkis hbl hnext hb' hsz' hb2
      go_wp2_with (first | (refine wpList_store_mid rfl 74 (.tmp 56) (.tmp 55) rfl w.heap.size (j * 67) (chL ⟨f, p + j, false, zS⟩).toArray (by rfl) (by kernel_rfl) hth hi67 (chL_one _) ?_))
      generalize wr.setCells w.heap.size (j * 67) (chL ⟨f, p + j, false, zS⟩).toArray.toList = V at HB2 HBC ⊢
      have hu8 : (Try.prog.info? 5).map (·.size) = some 1 := by kernel_rfl
      have hal : Try.prog.arrayLen 72 = 64 := by kernel_rfl
      have hex : (s.extract (j * 64) s.size).size = s.size - j * 64 := by rw [ByteArray.size_extract]; omega
      have hmin : Nat.min (s.extract (j * 64) s.size).size 64 = 64 := by rw [hex]; show min _ _ = _; omega
      have HEX := Lib.hid hex
      have hfit : j * 67 + 3 + 64 ≤ cur'.size := by rw [HSZ.out]; omega
      have hgb : V.drew.heap[w.heap.size]? = some (.cells cur' 74 (0, 0)) := HBC.out
      have HFT := Lib.hid hfit
      have HGB := Lib.hid hgb
      clear hfit hgb
      have qt : ((j : Int) * 64).toNat = j * 64 := by omega
      have qw : IntKind.i64.wrap ((j : Int) * 64) = (j : Int) * 64 := by rw [IntKind.wrap_i64]; omega
      clear hex
      go_region_held3 (fun _ => True) (trivial) (first | (refine step_copy rfl (.tmp 61) (.tmp 65) 75 9 5 rfl w.heap.size (j * 67 + 3) 64 64 64 (s.extract (j * 64) s.size) cur' 74 (by rfl) (by rfl) Try.underlying75 hu8 HGB.out hmin HFT.out ?_))
      have hbc : Lib.byteCells (List.take 64 (s.extract (j * 64) s.size).data.toList) = vals8 (((bts s).drop (j * 64)).take 64) := bytes_at s (j * 64) (by omega)
      generalize Lib.byteCells (List.take 64 (s.extract (j * 64) s.size).data.toList) = bs at hbc ⊢
      have hX := blk_setRow (W := V.drew) (b := w.heap.size) HBC.out (List.take (j * 67 + 3) cur'.toList ++ bs ++ List.drop (j * 67 + 3 + 64) cur'.toList).toArray
      have hXf := fr_setRow V.drew w.heap.size (List.take (j * 67 + 3) cur'.toList ++ bs ++ List.drop (j * 67 + 3 + 64) cur'.toList).toArray
      generalize V.drew.setRow w.heap.size (List.take (j * 67 + 3) cur'.toList ++ bs ++ List.drop (j * 67 + 3 + 64) cur'.toList).toArray = X at hX hXf ⊢
      have HEND := Lib.hid (show ∃ cur2, Blk X w.heap.size 74 cur2 ∧ MkIs f p s n (j + 1) cur2 ∧ Below w.heap.size w X from ⟨_, hX, HNX.out bs hbc, HBL.out.trans (fr_below (fr_trans (fr_step HB2.out (Below.refl _ _).drew) hXf (fun b hb => .inl hb)) (fun k hk => by rw [hk]; exact Nat.le_refl _) (HBL.out.size))⟩)
      clear hbc hX hXf HFT HGB HEX qw qt hmin
      go_wp2
      go_roundw
      case rel =>
        obtain ⟨cur2, k1, k2, k3⟩ := HEND.out
        exact ⟨j + 1, cur2, by omega, by go_num, k1, k2, k3⟩
      case measure => simp [intOf]; omega
    · obtain rfl : j = n := by omega
      have hws : ¬ S w.heap.size := fun e => by
        obtain ⟨m, hm⟩ := HH.out
        have := hm.lt _ e; omega
      have hlen : (wrL f p s).length = j := by unfold wrL; rw [List.length_map, List.length_range, HNN.out]
      have HOP := Lib.hid (op_any S g d N hN (some ⟨w.heap.size, 0, none⟩) (wrL f p s) j j hlen.symm (by omega) (fun c hc => by
        unfold wrL at hc
        obtain ⟨q, hq, rfl⟩ := List.mem_map.1 hc
        have hq2 := List.mem_range.1 hq
        have := HNN.out
        exact wrC_ok hf8 (by omega) (by omega)) wr (mk_all hblk hmkis HNN.out.symm) (fun a ha => by injection ha with ha; subst ha; exact hws) (dkS_below HH.out hbl))
      have HBL := Lib.hid hbl
      clear hblk hmkis hbl hws hlen
      go_wp2_with fail
      refine (HOP.out).mono ?_
      rintro e w' ⟨rfl, hR⟩
      have HR := Lib.hid (show DkR w S g (opD d (wrL f p s)).1 (N + 1) w' by
        obtain ⟨S', k1, k2, k3⟩ := hR
        exact ⟨S', k1, fr_trans (fr_of HBL.out) k2 (fun b hb => .inl hb), fun b hb => by
          rcases k3 b hb with h4 | h4
          · exact .inl h4
          · exact .inr (Nat.le_trans HBL.out.size h4)⟩)
      clear hR
      go_wp2
      go_ret
      exact ⟨rfl, HR.out⟩
theorem write_any (S : Nat → Prop) (g : Nat) (d : Dk) (N : Nat) (hN : N + 1 ≤ 1000000) (f pl : Int) (s : ByteArray) (hs : s.size ≤ 140737488351232) (w : World) (h : DkS w S g d N) :
    Calls Try.prog 10 #[.pointer (some ⟨g, 0, none⟩), .int .i64 f, .int .i64 pl, .string s] w fun e w' => e = .returned (.int .i64 (writeD d f pl s).2) ∧ DkR w S g (writeD d f pl s).1 (N + 1) w' := by
  have hq := dkR_refl (dkS_more h hN)
  unfold writeD
  by_cases hr : readyD d f = 0
  · rw [if_neg (by simpa using hr)]
    by_cases h1 : s.size / 64 = 0 ∨ s.size % 64 ≠ 0
    · rw [if_pos h1]
      exact (write_err S g d N f pl s hs w h 2 (.inr (.inl ⟨hr, h1, rfl⟩))).mono fun e w' ⟨he, hw⟩ => ⟨he, by subst hw; exact hq⟩
    · rw [if_neg h1]
      by_cases h2 : pl < 0 ∨ 8192 < s.size / 64 ∨ 8192 - (s.size / 64 : Nat) < pl
      · rw [if_pos h2]
        exact (write_err S g d N f pl s hs w h 5 (.inr (.inr ⟨hr, h1, h2, rfl⟩))).mono fun e w' ⟨he, hw⟩ => ⟨he, by subst hw; exact hq⟩
      · rw [if_neg h2]
        have hf0 := (ready_ok hr).2.2.1
        obtain ⟨i, rfl⟩ := Int.eq_ofNat_of_zero_le hf0
        obtain ⟨p, rfl⟩ := Int.eq_ofNat_of_zero_le (show 0 ≤ pl by omega)
        exact write_ok S g d N hN i p _ s hs w h hr rfl (by omega) (by omega) (by omega)
  · rw [if_pos hr]
    exact (write_err S g d N f pl s hs w h _ (.inl ⟨hr, rfl⟩)).mono fun e w' ⟨he, hw⟩ => ⟨he, by subst hw; exact hq⟩
end Go.Proofs.Ytffojihhjiogpaa
