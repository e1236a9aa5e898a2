/- The document's own Take of a ship's bytes, its way behind the sum. Conditions: a text is no longer than is gone through. -/
import Derived.Test.YtkocdaillkhkfaaShipRefTake2
import Derived.Deep.RegionHeld3
namespace Go.Proofs.Ytkocdaillkhkfaa
open Go.RowKit
set_option linter.unusedVariables false
/-- the state at a head of the loop: j images are there -/
def Rl (w : World) (g : Nat) (s : ByteArray) (n1 n2 n3 n5 : Int) (f : Bool) (j : Nat) (A : Option Addr) (c : Nat) (W : World) : Prop :=
  Tz w W ∧ w.heap.size < g ∧ Blk W g 28 #[.int .u8 n1, .int .u64 n2, .int .u64 n3, .bool f, .int .i64 n5, .slice A j c] ∧ W.ownsRow (g + 1) 51 2 (.slice A j c) j (imgCs (imgsR s j))
def RtPost (s : ByteArray) (w : World) (e : Ending) (w' : World) : Prop :=
  Below w.heap.size w w' ∧ ((¬ ∃ k ep K p full l, IsShip s k ep K full p l) → e = .returned (.tuple #[.agg #[.int .u8 0, .int .u64 0, .int .u64 0, .bool false, .int .i64 0, .slice none 0 0], .int .i64 7])) ∧
  (∀ k ep K p full l, IsShip s k ep K full p l → ∃ A c, e = .returned (.tuple #[.agg #[.int .u8 k, .int .u64 ep, .int .u64 K, .bool full, .int .i64 p, .slice A l.length c], .int .i64 0]) ∧ Imgs w' w'.heap.size A l)
theorem rl_next {w W wA : World} {g gg cap : Nat} {s : ByteArray} {n1 n2 n3 n5 : Int} {f : Bool} {j : Nat} {A : Option Addr} {c : Nat} {xs : List Value} (hz : Tz w W) (hwg : w.heap.size < g)
    (k : Blk W g 28 #[.int .u8 n1, .int .u64 n2, .int .u64 n3, .bool f, .int .i64 n5, .slice A j c]) (hr : ∀ q, (Value.slice A j c).ownBlock = some q → g + 1 ≤ q)
    (hown : wA.ownsRow (g + 1) 51 2 (.slice (some ⟨gg, 0, none⟩) (j + 1) cap) (j + 1) xs) (hxs : imgCs (imgsR s (j + 1)) = xs) (o : Obj) (hg : ((W.alloc o).drew).grownBy wA (Value.slice A j c).ownBlock) :
    Rl w g s n1 n2 n3 n5 f (j + 1) (some ⟨gg, 0, none⟩) cap (wA.setCell ⟨g, 5, none⟩ (.slice (some ⟨gg, 0, none⟩) (j + 1) cap)) := by
  have ne : ∀ q, q < g + 1 → some q ≠ (Value.slice A j c).ownBlock := fun q hq e => by have := hr q e.symm; omega
  have hz1 : Tz w ((W.alloc o).drew) := tz_step (Below.refl _ _).drew (tz_alloc o hz)
  have hz2 : Tz w wA := ⟨hz1.1.grown hg (ne _ (by omega)), hz1.2.grown hg hz1.2.size (fun q hq => by have := hr q hq; omega)⟩
  have kA := ((k.alloc o).drew).grown hg (ne _ (by omega))
  refine ⟨⟨hz2.1.far (by simp; omega) _, hz2.2.setCell (by simp; omega) _⟩, hwg, kA.set_ 5 _, ?_⟩
  rw [hxs]
  exact own_set hown 5 _ (by omega)
theorem rt_bad {s : ByteArray} {w w' : World} (h : ¬ ∃ k ep K p full l, IsShip s k ep K full p l) (hb : Below w.heap.size w w') : RtPost s w (.returned (.tuple #[.agg #[.int .u8 0, .int .u64 0, .int .u64 0, .bool false, .int .i64 0, .slice none 0 0], .int .i64 7])) w' :=
  ⟨hb, fun _ => rfl, fun k ep K p full l h2 => absurd ⟨k, ep, K, p, full, l, h2⟩ h⟩
theorem rt_good {s : ByteArray} {w w' : World} {k ep K p : Nat} {full : Bool} {l : List (Int × ByteArray)} {A : Option Addr} {c : Nat} {e : Ending} (h : IsShip s k ep K full p l) (hb : Below w.heap.size w w') (he : e = .returned (.tuple #[.agg #[.int .u8 k, .int .u64 ep, .int .u64 K, .bool full, .int .i64 p, .slice A l.length c], .int .i64 0])) (hi : Imgs w' w'.heap.size A l) : RtPost s w e w' := by
  refine ⟨hb, (fun h2 => absurd ⟨k, ep, K, p, full, l, h⟩ h2), fun k2 ep2 K2 p2 full2 l2 h2 => ⟨A, c, ?_, ?_⟩⟩
  · obtain ⟨a1, a2, a3, a4, a5, a6, a7⟩ := ship_read h
    obtain ⟨b1, b2, b3, b4, b5, b6, b7⟩ := ship_read h2
    rw [he, ← a1, ← a2, ← a3, ← a4, ← a5, ← a6, ← b1, ← b2, ← b3, ← b4, ← b5, ← b6]
  · obtain ⟨_, _, _, _, _, _, a7⟩ := ship_read h
    obtain ⟨_, _, _, _, _, _, b7⟩ := ship_read h2
    rw [← b7, a7]
    exact hi
set_option maxRecDepth 100000 in
set_option maxHeartbeats 16000000 in
theorem refTake_main (s : ByteArray) (Q1 Q2 : Int) (Y : ByteArray) (w : World) (hz : s.size ≤ 1000000) (hs : 56 ≤ s.size) (hm : ((s.size : Int) % 8 != 0) = false)
    (HA : Hid (∀ w, Calls Try.prog 34 #[.agg #[.int .u32 0, .int .u32 0], .string (s.extract 8 s.size)] w fun e w' => e = .returned (.agg #[.int .u32 Q1, .int .u32 Q2]) ∧ Below w.heap.size w w'))
    (HX : Hid (∀ w, Calls Try.prog 33 #[.agg #[.int .u32 Q1, .int .u32 Q2]] w fun e w' => e = .returned (.string Y) ∧ Below w.heap.size w w'))
    (hne : ((s.extract 0 8).toList == Y.toList) = true) :
    Calls Try.prog 18 #[.string s] w (RtPost s w) := by
  have hz0 := tz_new w
  have h8 : (8 : Int) ≤ s.size := by omega
  have h16 : (16 : Int) ≤ s.size := by omega
  have h24 : (24 : Int) ≤ s.size := by omega
  have h32 : (32 : Int) ≤ s.size := by omega
  have h56 : (56 : Int) ≤ s.size := by omega
  have s8 : ∀ W, Calls Try.prog 36 #[.string s, .int .i64 8] W _ := fun W => small_any s 8 W (by omega) (by omega)
  have s32 : ∀ W, Calls Try.prog 36 #[.string s, .int .i64 32] W _ := fun W => small_any s 32 W (by omega) (by omega)
  have s40 : ∀ W, Calls Try.prog 36 #[.string s, .int .i64 40] W _ := fun W => small_any s 40 W (by omega) (by omega)
  have v16 := fun W => refValue_any (s.extract 16 24) W (by rw [ByteArray.size_extract]; omega)
  have v24 := fun W => refValue_any (s.extract 24 32) W (by rw [ByteArray.size_extract]; omega)
  rw [vAt_cut s 16] at v16
  rw [vAt_cut s 24] at v24
  have hk : min (sm s 8) 255 = kR s := rfl
  generalize hq8 : sm s 8 = n1 at *
  generalize hq32 : sm s 32 = n4 at *
  generalize hq40 : sm s 40 = n5 at *
  generalize hq16 : vAt s 16 = n2 at *
  generalize hq24 : vAt s 24 = n3 at *
  have H8 := Lib.hid s8
  have H32 := Lib.hid s32
  have H40 := Lib.hid s40
  have V16 := Lib.hid v16
  have V24 := Lib.hid v24
  have HQ := Lib.hid (And.intro hk (And.intro hq8 (And.intro hq32 (And.intro hq40 (And.intro hq16 hq24)))))
  have HZ0 := Lib.hid hz0
  clear s8 s32 s40 v16 v24 hk hq8 hq32 hq40 hq16 hq24 hz0
  go_enter Try.func18, Try.ntmps18
  go_upto_region 3 with fail
  go_cut [25] (fun s25 wx => s25 = .bool false ∧ Tz w wx)
  case first =>
    go_region_with (first | (go_at_call 34; (with_reducible refine (HA.out _).mono ?_); rintro e w1 ⟨rfl, hb1⟩; (have hz1 := tz_step hb1 (tz_step (Below.refl _ _).drew HZ0.out))) | (go_at_call 33; (with_reducible refine (HX.out _).mono ?_); rintro e w2 ⟨rfl, hb2⟩; (have hz2 := tz_step hb2 hz1)))
    all_goals (go_wp2_with fail; go_meet; exact ⟨by simp, hz2⟩)
  case rest =>
    obtain ⟨rfl, hz3⟩ := hcut
    obtain ⟨wo, rfl⟩ : ∃ wo : World, wo = wc := ⟨_, rfl⟩
    have HZ3 := Lib.hid hz3
    clear hz3 HZ0 HA HX
    go_wp2_with fail
    go_upto_region 5 with fail
    go_cut [4] (fun s4 wx => ∃ g, s4 = .pointer (some ⟨g, 0, none⟩) ∧ Tz w wx ∧ w.heap.size < g ∧ Blk wx g 28 #[.int .u8 (IntKind.u8.wrap (min (n1 : Int) 255)), .int .u64 n2, .int .u64 n3, .bool ((n4 : Int) == 1), .int .i64 n5, .slice none 0 0])
    case first =>
      go_region_held3 (fun _ => True) (trivial)
        (first
          | (go_at_call 36; (with_reducible refine (H8.out _).mono ?_); rintro e v1 ⟨rfl, rfl⟩)
          | (go_at_call 36; (with_reducible refine (H32.out _).mono ?_); rintro e v1 ⟨rfl, rfl⟩)
          | (go_at_call 36; (with_reducible refine (H40.out _).mono ?_); rintro e v1 ⟨rfl, rfl⟩)
          | (go_at_call 37; (with_reducible refine (V16.out _).mono ?_); rintro e v1 ⟨rfl, rfl⟩)
          | (go_at_call 37; (with_reducible refine (V24.out _).mono ?_); rintro e v1 ⟨rfl, rfl⟩))
      all_goals (go_wp2_with fail; go_meet)
      all_goals exact ⟨_, rfl, tz_step (Below.refl _ _).drew (tz_alloc _ HZ3.out), HZ3.out.1.lt, (Blk.new _ _ _).drew⟩
    case rest =>
      obtain ⟨g, rfl, hzc, hwg, kc⟩ := hcut
      obtain ⟨hk, hq8, hq32, hq40, hq16, hq24⟩ := HQ.out
      have ek : IntKind.u8.wrap (min (n1 : Int) 255) = (kR s : Nat) := by
        rw [← hk]
        have e : (min (n1 : Int) 255) = ((min n1 255 : Nat) : Int) := by omega
        rw [e]
        have : min n1 255 ≤ 255 := Nat.min_le_right _ _
        generalize min n1 255 = x at *
        simp [IntKind.wrap, IntKind.bits, IntKind.signed]
        omega
      have ef : ((n4 : Int) == 1) = decide (n4 = 1) := by
        by_cases h : n4 = 1
        · simp [h]
        · rw [decide_eq_false h, beq_eq_false_iff_ne]; omega
      rw [ek, ef] at kc
      have hr0 : Rl w g s (kR s) n2 n3 n5 (decide (n4 = 1)) 0 none 0 wc := ⟨hzc, hwg, kc, World.ownsRow_nil _ _ _ _⟩
      have HR0 := Lib.hid hr0
      generalize hkk : kR s = k1 at *
      have HKK := Lib.hid hkk
      clear hr0 ek ef hk hq8 hq32 hq40 hq16 hq24 hzc kc HZ3 H8 H32 H40 V16 V24 hkk
      generalize hff : decide (n4 = 1) = ff at *
      have HFF := Lib.hid hff
      clear hff
      go_wp2_with fail
      go_loopw [5] (fun i wr => ∃ (j a : Nat) (A : Option Addr) (c : Nat), i = .int .i64 a ∧ a = 56 + 520 * j ∧ a ≤ s.size ∧ Rl w g s k1 n2 n3 n5 ff j A c wr) (fun i _ => s.size - (intOf i).toNat)
      case atStart => exact ⟨0, 56, none, 0, rfl, rfl, hs, HR0.out⟩
      case round =>
        obtain ⟨j, a, A, c, rfl, ha, has, hzw, hwg2, k, own⟩ := hrel
        have HAJ := Lib.hid ha
        clear HR0
        obtain ⟨r0, r1, r2, r3, r4, r5⟩ := six_at k
        by_cases hlt : a + 520 ≤ s.size
        · have hE := fun W => small_any s a W (by omega) (by omega)
          have hp : sm s a ≤ 1000000 := Nat.min_le_right _ _
          have hI : imgR s a = ((sm s a : Int), s.extract (a + 8) (a + 8 + 512)) := by unfold imgR; rw [Nat.add_assoc]
          generalize hp2 : sm s a = p at *
          have hI2 : imgCs (imgsR s (j + 1)) = imgCs (imgsR s j) ++ [.int .i64 p, .string (s.extract (a + 8) (a + 8 + 512))] := by
            rw [imgsR_succ, imgCs_snoc, ← ha, hI]
          have HE := Lib.hid hE
          have HI2 := Lib.hid hI2
          have hg1 : (a : Int) + 8 + 512 ≤ s.size := by omega
          have aI : (a : Int) ≤ 1000000 := by omega
          have w8 : IntKind.i64.wrap ((a : Int) + 8) = (a : Int) + 8 := by simp [IntKind.wrap, IntKind.bits, IntKind.signed]; omega
          have w520 : IntKind.i64.wrap ((a : Int) + 8 + 512) = (a : Int) + 8 + 512 := by simp [IntKind.wrap, IntKind.bits, IntKind.signed]; omega
          have f0 : (0 : Int) ≤ (a : Int) + 8 := by omega
          have f1 : (a : Int) + 8 ≤ (a : Int) + 8 + 512 := by omega
          have f2 : (0 : Int) ≤ (a : Int) + 8 + 512 := by omega
          have f3 : ((a : Int) + 8).toNat = a + 8 := by omega
          have f4 : ((a : Int) + 8 + 512).toNat = a + 8 + 512 := by omega
          clear hE hI hI2 hp2 ha
          go_wp2_with fail
          have ra : ∀ o, (wr.alloc o).cell? ⟨g, 5, none⟩ = some (.slice A j c) := fun o => (k.alloc o).cell 5
          have hnA : g + 1 ≤ wr.heap.size := k.lt
          have hjs : j ≤ 2000 := by have := HAJ.out; omega
          obtain ⟨i0, hi, hz0, hz1, hz2⟩ := info_parts img_info
          have hrow : ∀ q, (Value.slice A j c).ownBlock = some q → g + 1 ≤ q := fun q hq => (own.lt q hq).1
          have HR := Lib.hid hrow
          have HK := Lib.hid (And.intro hzw k)
          clear hrow hzw
          go_region_law (first
            | (refine step_append_lies _ (by rfl) (.tmp 53) (.tmp 65) 26 (by rfl) (g + 1) 51 i0 _ 2 24 Try.underlying26 hi hz0 hz1 hz2 rfl (by omega) (.slice A j c) j (imgCs (imgsR s j)) (by rfl) ((own.alloc _).drew) ⟨wr.heap.size, 0, none⟩ 1 1 [.int .i64 p, .string (s.extract (a + 8) (a + 8 + 512))] (by rfl) (by rfl) (World.news_of_block (cs := #[.int .i64 p, .string (s.extract (a + 8) (a + 8 + 512))]) (t := 51) (fr := (0, 0)) (heap_alloc_new wr _)) (by simp [Value.oneCell']) (by omega) (by unfold maxLen; omega) (by omega) (by simp; omega) (wr.heap.size + 1) (by simp) ?_; intro gg cap wA hownA hgrow hat hltA; (have kA := ((HK.out.2.alloc _).drew).grown hgrow (fun e => by have := HR.out g e.symm; omega)); (have hA5 := kA.cell 5); (have hF5 := kA.frozen 5))
            | (go_simp; go_at_call 36; (with_reducible refine (HE.out _).mono ?_); rintro e v1 ⟨rfl, rfl⟩))
          all_goals
            go_wp2_with fail
            go_roundw
            case rel => exact ⟨j + 1, a + 520, some ⟨gg, 0, none⟩, cap, by congr 1 <;> omega, by have := HAJ.out; omega, by omega, rl_next HK.out.1 hwg HK.out.2 HR.out hownA HI2.out _ hgrow⟩
            case measure => simp [intOf]; omega
        · have hg1 : (s.size : Int) < (a : Int) + 8 + 512 := by omega
          have aI : (a : Int) ≤ 1000000 := by omega
          have hj : nR s = j := by unfold nR; omega
          have hI := imgs_of_own own (imgsR_len s j)
          have hlen := imgsR_len s j
          have hread : ∀ k ep K p full l, IsShip s k ep K full p l → k1 = k ∧ n2 = ep ∧ n3 = K ∧ ff = full ∧ n5 = p ∧ imgsR s j = l := fun k ep K p full l h => by
            obtain ⟨x1, x2, x3, x4, x5, x6, x7⟩ := ship_read h
            obtain ⟨_, hq8, hq32, hq40, hq16, hq24⟩ := HQ.out
            rw [HKK.out] at x1
            rw [hq16] at x2
            rw [hq24] at x3
            rw [hq32, HFF.out] at x4
            rw [hq40] at x5
            rw [hj] at x7
            exact ⟨x1, x2, x3, x4, x5, x7⟩
          have hn2 : n2 < 18446744073709551616 := by rw [← HQ.out.2.2.2.2.1]; exact (vAt_lt s 16 (by omega)).1
          have hn3 : n3 < 18446744073709551616 := by rw [← HQ.out.2.2.2.2.2]; exact (vAt_lt s 24 (by omega)).1
          have HRD := Lib.hid hread
          have HO := Lib.hid own
          have HK := Lib.hid k
          have hjs : j ≤ 2000 := by omega
          cases hok : shipOk (k1 : Int) n3 ff n5 (imgsR s j) with
          | false =>
            have hput := refPut_bad k1 n2 n3 n5 ff A (imgsR s j) j c wr hI hlen.symm (by unfold maxLen; omega) hok
            have hno : ¬ ∃ k ep K p full l, IsShip s k ep K full p l := fun ⟨k, ep, K, p, full, l, h⟩ => by
              obtain ⟨y1, y2, y3, y4, y5, y6⟩ := HRD.out k ep K p full l h
              rw [y1, y3, y4, y5, y6, h.ok] at hok
              cases hok
            have HNO := Lib.hid hno
            have HP := Lib.hid hput
            clear hput hno hok hread hI hlen hj ha own k
            go_wp2_with fail
            refine (HP.out).mono ?_
            rintro e w1 ⟨rfl, hb1⟩
            have hz1 := tz_step hb1 hzw
            clear r0 r1 r2 r3 r4 r5
            obtain ⟨r0, r1, r2, r3, r4, r5, f0, f1, f2, f3, f4, f5⟩ := tzR hz1
            go_wp2
            refine bodyPost_ret (v := .tuple #[.agg #[.int .u8 0, .int .u64 0, .int .u64 0, .bool false, .int .i64 0, .slice none 0 0], .int .i64 7]) (by simp [results, Try.results18, go_sem, r0, r1, r2, r3, r4, r5]) rfl (rt_bad HNO.out (tz_end hz1 _ _ _ _ _ _))
          | true =>
            have hput := refPut_good k1 n2 n3 n5 ff A (imgsR s j) j c wr hI hlen.symm hn2 hn3 hok
            have his := put_is (kind := k1) (ep := n2) (K := n3) (pages := n5) (full := ff) (l := imgsR s j) hok hn2 hn3
            generalize hTT : bstr (shipL k1 n2 n3 ff n5 (imgsR s j)) = T at *
            by_cases hT : T = s
            · have hq : (T.toList == s.toList) = true := by rw [hT]; simp
              rw [hT] at his
              have HIS := Lib.hid his
              have HP := Lib.hid hput
              have HL := Lib.hid hlen
              have HT := Lib.hid hT
              clear hput his hok hread hI hlen hj ha own k hT hTT
              go_wp2_with fail
              refine (HP.out).mono ?_
              rintro e w1 ⟨rfl, hb1⟩
              have hz1 := tz_step hb1 hzw
              have kk := blk_step HK.out hb1
              have HO1 := Lib.hid (own_below HO.out hb1)
              clear r0 r1 r2 r3 r4 r5
              obtain ⟨m0, m1, m2, m3, m4, m5⟩ := six_at kk
              obtain ⟨r0, r1, r2, r3, r4, r5, f0, f1, f2, f3, f4, f5⟩ := tzR hz1
              clear kk
              go_wp2
              refine bodyPost_ret (v := .tuple #[.agg #[.int .u8 k1, .int .u64 n2, .int .u64 n3, .bool ff, .int .i64 n5, .slice A j c], .int .i64 0]) (by simp [results, Try.results18, go_sem, r0, r1, r2, r3, r4, r5]) rfl ?_
              refine rt_good (A := A) (c := c) HIS.out (tz_end hz1 _ _ _ _ _ _) (by rw [HL.out]) ?_
              exact imgs_of_own (own_set6 HO1.out (by omega) _ _ _ _ _ _) HL.out
            · have hq : (T.toList == s.toList) = false := toList_ne (fun e => hT e.symm)
              have hno : ¬ ∃ k ep K p full l, IsShip s k ep K full p l := fun ⟨k, ep, K, p, full, l, h⟩ => hT (by
                obtain ⟨y1, y2, y3, y4, y5, y6⟩ := HRD.out k ep K p full l h
                rw [← hTT, y1, y2, y3, y4, y5, y6, ← h.text, bstr_bts])
              have HNO := Lib.hid hno
              have HP := Lib.hid hput
              have HT := Lib.hid hT
              clear hput hno hok hread hI hlen hj ha own k hT hTT his
              go_wp2_with fail
              refine (HP.out).mono ?_
              rintro e w1 ⟨rfl, hb1⟩
              have hz1 := tz_step hb1 hzw
              clear r0 r1 r2 r3 r4 r5
              obtain ⟨r0, r1, r2, r3, r4, r5, f0, f1, f2, f3, f4, f5⟩ := tzR hz1
              go_wp2
              refine bodyPost_ret (v := .tuple #[.agg #[.int .u8 0, .int .u64 0, .int .u64 0, .bool false, .int .i64 0, .slice none 0 0], .int .i64 7]) (by simp [results, Try.results18, go_sem, r0, r1, r2, r3, r4, r5]) rfl (rt_bad HNO.out (tz_end hz1 _ _ _ _ _ _))
end Go.Proofs.Ytkocdaillkhkfaa
