/- Layer 13: alone. Conditions: those of each lemma. -/
import Derived.Test.YtibnmkjabpoppaaGreatDoorLx18
namespace Go.Proofs.YtibnmkjabpoppaaGreatDoor
open Go Go.RowKit
set_option linter.unusedVariables false
set_option linter.unusedSimpArgs false

/-- a token behind which no byte of a word stands -/
def aloR (S : ByteArray) : An → An
  | .bad e q => .bad e q
  | .ok k x n p q => if k ≠ 6 ∧ worB (atB S q : Int) = true then .bad 6 q else .ok k x n p q
theorem alo_no {S : ByteArray} {k : Nat} {x : ByteArray} {n p q : Nat} (h : ¬ (k ≠ 6 ∧ worB (atB S q : Int) = true)) : aloR S (.ok k x n p q) = .ok k x n p q := if_neg h
theorem alo_yes {S : ByteArray} {k : Nat} {x : ByteArray} {n p q : Nat} (h : k ≠ 6 ∧ worB (atB S q : Int) = true) : aloR S (.ok k x n p q) = .bad 6 q := if_pos h
def Tk (S : ByteArray) (g : Nat) (A : An) (w : World) (r : Ending) (w' : World) : Prop := r = .returned (anT A) ∧ (∃ q, Rd w' g S q ∧ ∀ m, anQ A = some m → q = m) ∧ Bx g w w'
set_option maxRecDepth 100000 in
set_option maxHeartbeats 8000000 in
theorem alone_word (g : Nat) (S : ByteArray) (p : Nat) (A : An) (w : World) (h : Rd w g S p) (hT : Tb w) (hEr : Er w) (hA : ∀ e q, A = .bad e q → e ≠ 0) (hK : ∀ W, Rd W g S p → Tb W → Er W → Calls Tryz.prog 43 #[.pointer (some ⟨g, 0, none⟩)] W (Tk S g A W)) :
    Calls Tryz.prog 16 #[.pointer (some ⟨g, 0, none⟩), .func (.func 43) #[.pointer (some ⟨g, 0, none⟩)] #[]] w (Tk S g (aloR S A) w) := by
  have HK := Lib.hid hK
  clear hK
  have hlt := Blk.lt h
  have hne : w.heap.size ≠ g := by omega
  have hne2 : w.heap.size + 1 ≠ g := by omega
  have HW := Lib.hid (bj13 (one_alloc (w := w) (o := tokA)) (one_alloc (o := spotA)))
  have HD := Lib.hid (rd_step h HW.out)
  have HT := Lib.hid (tb_step hT HW.out)
  have HER := Lib.hid (er_step hEr HW.out)
  obtain ⟨hA2, hB⟩ := two_blk w (.int .u8 0) (.string ⟨#[]⟩) (.int .u64 0) (.int .i64 0) (.int .i64 0) (.int .i64 0) 34 29
  have HA := Lib.hid hA2
  have HB := Lib.hid hB
  have HN := Lib.hid (fun q W hr => next_any g S q W hr)
  have HWB := Lib.hid lwor_any
  clear hA2 hB h hT hEr
  unfold Tk
  cases A with
  | bad e q0 =>
    have he0 : ((e : Int) != 0) = true := by rw [bne_iff_ne]; have := hA e q0 rfl; omega
    have HRES := Lib.hid (show anT (aloR S (.bad e q0)) = .tuple #[tokV 0 ⟨#[]⟩ 0 0, spotV e q0] from rfl)
    clear hA
    go_enter Tryz.func16, Tryz.ntmps16
    go_wp2_with fail
    refine (HK.out _ HD.out HT.out HER.out).mono ?_
    rintro e2 w1 ⟨rfl, ⟨q, hr, hq⟩, hb⟩
    have HD1 := Lib.hid hr
    have HRN := Lib.hid (show ∀ m, anQ (aloR S (.bad e q0)) = some m → q = m from fun m hm => by cases hm)
    have HA1 := Lib.hid (bx_blk HA.out hb hne)
    have HB1 := Lib.hid (bx_blk HB.out hb hne2)
    have HX1 := Lib.hid (bx_trans (bx_of HW.out rfl) hb)
    have hsz : w.heap.size + 2 ≤ w1.heap.size := by have := (HB1.out).lt; omega
    clear hr hb hq HD HT HER HK HA HB HW
    obtain ⟨h2, k2⟩ := two_blk w1 (.int .u8 0) (.string ⟨#[]⟩) (.int .u64 0) (.int .i64 0) (.int .i64 e) (.int .i64 q0) 34 29
    have HBB := bj13 (one_alloc (w := w1) (o := .cells #[.int .u8 0, .string ⟨#[]⟩, .int .u64 0, .int .i64 0] 34)) (one_alloc (o := .cells #[.int .i64 e, .int .i64 q0] 29))
    have HA2 := Lib.hid (Blk.below HA1.out HBB (Blk.lt HA1.out))
    have HB2 := Lib.hid (Blk.below HB1.out HBB (Blk.lt HB1.out))
    have HD2 := Lib.hid (rd_step HD1.out HBB)
    have HX2 := Lib.hid (bx_later HX1.out HBB)
    have HA2d := Lib.hid (Blk.drew HA2.out)
    have HB2d := Lib.hid (Blk.drew HB2.out)
    have HD2d := Lib.hid (rd_drew HD2.out)
    have HX2d := Lib.hid (bx_drew HX2.out)
    have k2d := Blk.drew k2
    obtain ⟨s0, s1, _, _⟩ := cell2b k2
    obtain ⟨s2, s3, _, _⟩ := cell2b k2d
    clear HBB h2 k2 k2d
    obtain ⟨d0, d1, d2, d3⟩ := cell2b HB2d.out
    obtain ⟨b0, b1, b2, b3⟩ := cell4b HA2d.out
    have e0 := (HA2d.out).frozen 0
    have e1 := (HA2d.out).frozen 1
    have e2 := (HA2d.out).frozen 2
    have e3 := (HA2d.out).frozen 3
    obtain ⟨j0, j1, j2, j3⟩ := cell2b HB2.out
    obtain ⟨m0, m1, m2, m3⟩ := cell4b HA2.out
    have n0 := (HA2.out).frozen 0
    have n1 := (HA2.out).frozen 1
    have n2 := (HA2.out).frozen 2
    have n3 := (HA2.out).frozen 3
    unfold anT tokV spotV
    go_wp2_with fail
    go_region
    all_goals
      go_wp2
      obtain ⟨hA, hB⟩ := two_set HA2.out HB2.out (by omega) (.int .u8 0) (.string ⟨#[]⟩) (.int .u64 0) (.int .i64 0) (.int .i64 e) (.int .i64 q0)
      have HB6 := Below.drew (two_below (g := w.heap.size) (h := w.heap.size + 1) (Below.refl w.heap.size (((w1.alloc (.cells #[.int .u8 0, .string ⟨#[]⟩, .int .u64 0, .int .i64 0] 34)).alloc (.cells #[.int .i64 e, .int .i64 q0] 29)))) (Nat.le_refl _) (Nat.le_succ _) (.int .u8 0) (.string ⟨#[]⟩) (.int .u64 0) (.int .i64 0) (.int .i64 e) (.int .i64 q0))
      have HF1 := Blk.below HD2.out HB6 hlt
      have HF2 := bx_more HX2.out HB6
      have HF := Lib.hid (And.intro HF1 HF2)
      have hA := Blk.drew hA
      have hB := Blk.drew hB
      clear d0 d1 d2 d3 b0 b1 b2 b3 e0 e1 e2 e3 s0 s1 s2 s3 j0 j1 j2 j3 m0 m1 m2 m3 n0 n1 n2 n3 HF1 HF2 HB6
      obtain ⟨d0, d1, _, _⟩ := cell2b hB
      obtain ⟨c0, c1, c2, c3⟩ := cell4b hA
      refine bodyPost_ret (v := .tuple #[tokV 0 ⟨#[]⟩ 0 0, spotV e q0]) ?_ rfl ?_
      · simp [results, Tryz.results16, go_sem, c0, c1, c2, c3, d0, d1, tokV, spotV]
      · exact ⟨by rw [HRES.out], ⟨_, HF.out.1, HRN.out⟩, HF.out.2⟩
  | ok k x n pp q0 =>
    obtain ⟨b, hb0⟩ : ∃ b, worB (atB S q0 : Int) = b := ⟨_, rfl⟩
    clear hA
    go_enter Tryz.func16, Tryz.ntmps16
    go_wp2_with fail
    refine (HK.out _ HD.out HT.out HER.out).mono ?_
    rintro e2 w1 ⟨rfl, ⟨q, hr, hq⟩, hb⟩
    obtain rfl : q = q0 := hq q0 rfl
    have HD1 := Lib.hid hr
    have HA1 := Lib.hid (bx_blk HA.out hb hne)
    have HB1 := Lib.hid (bx_blk HB.out hb hne2)
    have HX1 := Lib.hid (bx_trans (bx_of HW.out rfl) hb)
    have hsz : w.heap.size + 2 ≤ w1.heap.size := by have := (HB1.out).lt; omega
    clear hr hb hq HD HT HER HK HA HB HW
    obtain ⟨h2, k2⟩ := two_blk w1 (.int .u8 k) (.string x) (.int .u64 n) (.int .i64 pp) (.int .i64 0) (.int .i64 0) 34 29
    have HBB := bj13 (one_alloc (w := w1) (o := .cells #[.int .u8 k, .string x, .int .u64 n, .int .i64 pp] 34)) (one_alloc (o := .cells #[.int .i64 0, .int .i64 0] 29))
    have HA2 := Lib.hid (Blk.below HA1.out HBB (Blk.lt HA1.out))
    have HB2 := Lib.hid (Blk.below HB1.out HBB (Blk.lt HB1.out))
    have HD2 := Lib.hid (rd_step HD1.out HBB)
    have HX2 := Lib.hid (bx_later HX1.out HBB)
    obtain ⟨s0, s1, _, _⟩ := cell2b k2
    obtain ⟨t0, t1, t2, t3⟩ := cell4b h2
    have HH2 := Lib.hid h2
    clear HBB k2 h2
    by_cases hk6 : k = 6
    · have hkb : ((k : Int) != 6) = false := by rw [hk6]; rfl
      have hnot : ¬ (k ≠ 6 ∧ worB (atB S q : Int) = true) := fun hh => hh.1 hk6
      have HRES := Lib.hid (show anT (aloR S (.ok k x n pp q)) = .tuple #[tokV k x n pp, spotV 0 0] by rw [alo_no hnot]; rfl)
      have HRN := Lib.hid (show ∀ m, anQ (aloR S (.ok k x n pp q)) = some m → q = m by rw [alo_no hnot]; exact fun m hm => Option.some.inj hm)
      clear hnot hk6 hb0
      obtain ⟨d0, d1, d2, d3⟩ := cell2b HB2.out
      obtain ⟨b0, b1, b2, b3⟩ := cell4b HA2.out
      have e0 := (HA2.out).frozen 0
      have e1 := (HA2.out).frozen 1
      have e2 := (HA2.out).frozen 2
      have e3 := (HA2.out).frozen 3
      unfold anT tokV spotV
      go_wp2
      obtain ⟨hA, hB⟩ := two_set HA2.out HB2.out (by omega) (.int .u8 k) (.string x) (.int .u64 n) (.int .i64 pp) (.int .i64 0) (.int .i64 0)
      have HB6 := two_below (g := w.heap.size) (h := w.heap.size + 1) (Below.refl w.heap.size ((w1.alloc (.cells #[.int .u8 k, .string x, .int .u64 n, .int .i64 pp] 34)).alloc (.cells #[.int .i64 0, .int .i64 0] 29))) (Nat.le_refl _) (Nat.le_succ _) (.int .u8 k) (.string x) (.int .u64 n) (.int .i64 pp) (.int .i64 0) (.int .i64 0)
      clear s0 s1 t0 t1 t2 t3 d0 d1 d2 d3 b0 b1 b2 b3 e0 e1 e2 e3
      obtain ⟨d0, d1, _, _⟩ := cell2b hB
      obtain ⟨c0, c1, c2, c3⟩ := cell4b hA
      exact bodyPost_ret (v := .tuple #[tokV k x n pp, spotV 0 0]) (by simp [results, Tryz.results16, go_sem, c0, c1, c2, c3, d0, d1, tokV, spotV]) rfl ⟨by rw [HRES.out], ⟨_, Blk.below (HD2).out HB6 hlt, HRN.out⟩, bx_more (HX2).out HB6⟩
    · have hkb : ((k : Int) != 6) = true := by rw [bne_iff_ne]; omega
      cases b with
      | false =>
        have hnot : ¬ (k ≠ 6 ∧ worB (atB S q : Int) = true) := fun hh => by rw [hb0] at hh; exact absurd hh.2 (by decide)
        have HRES := Lib.hid (show anT (aloR S (.ok k x n pp q)) = .tuple #[tokV k x n pp, spotV 0 0] by rw [alo_no hnot]; rfl)
        have HRN := Lib.hid (show ∀ m, anQ (aloR S (.ok k x n pp q)) = some m → q = m by rw [alo_no hnot]; exact fun m hm => Option.some.inj hm)
        clear hnot hk6
        unfold anT tokV spotV
        go_wp2_with fail
        refine (HN.out q _ HD2.out).mono ?_
        rintro e3 w3 ⟨rfl, hb3⟩
        have HA3 := Lib.hid (Blk.below HA2.out hb3 (Blk.lt HA2.out))
        have HB3 := Lib.hid (Blk.below HB2.out hb3 (Blk.lt HB2.out))
        have HH3 := Lib.hid (Blk.below HH2.out hb3 (Blk.lt HH2.out))
        have HD3 := Lib.hid (rd_step HD2.out hb3)
        have HX3 := Lib.hid (bx_later HX2.out hb3)
        clear hb3 s0 s1 t0 t1 t2 t3
        obtain ⟨t0, t1, t2, t3⟩ := cell4b HH3.out
        go_wp2_with fail
        refine (HWB.out _ _).mono ?_
        rintro e4 w4 ⟨rfl, rfl⟩
        rw [hb0]
        obtain ⟨d0, d1, d2, d3⟩ := cell2b HB3.out
        obtain ⟨b0, b1, b2, b3⟩ := cell4b HA3.out
        have e0 := (HA3.out).frozen 0
        have e1 := (HA3.out).frozen 1
        have e2 := (HA3.out).frozen 2
        have e3 := (HA3.out).frozen 3
        go_wp2
        obtain ⟨hA, hB⟩ := two_set HA3.out HB3.out (by omega) (.int .u8 k) (.string x) (.int .u64 n) (.int .i64 pp) (.int .i64 0) (.int .i64 0)
        have HB6 := two_below (g := w.heap.size) (h := w.heap.size + 1) (Below.refl w.heap.size w3) (Nat.le_refl _) (Nat.le_succ _) (.int .u8 k) (.string x) (.int .u64 n) (.int .i64 pp) (.int .i64 0) (.int .i64 0)
        clear t0 t1 t2 t3 d0 d1 d2 d3 b0 b1 b2 b3 e0 e1 e2 e3
        obtain ⟨d0, d1, _, _⟩ := cell2b hB
        obtain ⟨c0, c1, c2, c3⟩ := cell4b hA
        exact bodyPost_ret (v := .tuple #[tokV k x n pp, spotV 0 0]) (by simp [results, Tryz.results16, go_sem, c0, c1, c2, c3, d0, d1, tokV, spotV]) rfl ⟨by rw [HRES.out], ⟨_, Blk.below (HD3).out HB6 hlt, HRN.out⟩, bx_more (HX3).out HB6⟩
      | true =>
        have hyes : k ≠ 6 ∧ worB (atB S q : Int) = true := ⟨hk6, hb0⟩
        have HRES := Lib.hid (show anT (aloR S (.ok k x n pp q)) = .tuple #[tokV 0 ⟨#[]⟩ 0 0, spotV 6 q] by rw [alo_yes hyes]; rfl)
        have HRN := Lib.hid (show ∀ m, anQ (aloR S (.ok k x n pp q)) = some m → q = m by rw [alo_yes hyes]; intro m hm; cases hm)
        clear hyes hk6
        unfold anT tokV spotV
        go_wp2_with fail
        refine (HN.out q _ HD2.out).mono ?_
        rintro e3 w3 ⟨rfl, hb3⟩
        have HA3 := Lib.hid (Blk.below HA2.out hb3 (Blk.lt HA2.out))
        have HB3 := Lib.hid (Blk.below HB2.out hb3 (Blk.lt HB2.out))
        have HH3 := Lib.hid (Blk.below HH2.out hb3 (Blk.lt HH2.out))
        have HD3 := Lib.hid (rd_step HD2.out hb3)
        have HX3 := Lib.hid (bx_later HX2.out hb3)
        clear hb3 s0 s1 t0 t1 t2 t3
        go_wp2_with fail
        refine (HWB.out _ _).mono ?_
        rintro e4 w4 ⟨rfl, rfl⟩
        rw [hb0]
        obtain ⟨c0, c1, f0, f1⟩ := rd_cells HD3.out
        go_wp2_with fail
        refine (wrong_any 6 q _).mono ?_
        rintro e w9 ⟨rfl, hb9⟩
        have HA9 := Lib.hid (Blk.below HA3.out hb9 (Blk.lt HA3.out))
        have HB9 := Lib.hid (Blk.below HB3.out hb9 (Blk.lt HB3.out))
        have HD9 := Lib.hid (rd_step HD3.out hb9)
        have HX9 := Lib.hid (bx_later HX3.out hb9)
        clear hb9
        obtain ⟨d0, d1, d2, d3⟩ := cell2b HB9.out
        obtain ⟨b0, b1, b2, b3⟩ := cell4b HA9.out
        have e0 := (HA9.out).frozen 0
        have e1 := (HA9.out).frozen 1
        have e2 := (HA9.out).frozen 2
        have e3 := (HA9.out).frozen 3
        unfold tokV spotV
        go_wp2
        obtain ⟨hA, hB⟩ := two_set HA9.out HB9.out (by omega) (.int .u8 0) (.string ⟨#[]⟩) (.int .u64 0) (.int .i64 0) (.int .i64 6) (.int .i64 q)
        have HB6 := two_below (g := w.heap.size) (h := w.heap.size + 1) (Below.refl w.heap.size w9) (Nat.le_refl _) (Nat.le_succ _) (.int .u8 0) (.string ⟨#[]⟩) (.int .u64 0) (.int .i64 0) (.int .i64 6) (.int .i64 q)
        clear d0 d1 d2 d3 b0 b1 b2 b3 e0 e1 e2 e3
        obtain ⟨d0, d1, _, _⟩ := cell2b hB
        obtain ⟨c0, c1, c2, c3⟩ := cell4b hA
        exact bodyPost_ret (v := .tuple #[tokV 0 ⟨#[]⟩ 0 0, spotV 6 q]) (by simp [results, Tryz.results16, go_sem, c0, c1, c2, c3, d0, d1, tokV, spotV]) rfl ⟨by rw [HRES.out], ⟨_, Blk.below (HD9).out HB6 hlt, HRN.out⟩, bx_more (HX9).out HB6⟩
set_option maxRecDepth 100000 in
set_option maxHeartbeats 8000000 in
theorem alone_blob (g : Nat) (S : ByteArray) (p : Nat) (A : An) (w : World) (h : Rd w g S p) (hT : Tb w) (hEr : Er w) (hA : ∀ e q, A = .bad e q → e ≠ 0) (hK : ∀ W, Rd W g S p → Tb W → Er W → Calls Tryz.prog 44 #[.pointer (some ⟨g, 0, none⟩)] W (Tk S g A W)) :
    Calls Tryz.prog 16 #[.pointer (some ⟨g, 0, none⟩), .func (.func 44) #[.pointer (some ⟨g, 0, none⟩)] #[]] w (Tk S g (aloR S A) w) := by
  have HK := Lib.hid hK
  clear hK
  have hlt := Blk.lt h
  have hne : w.heap.size ≠ g := by omega
  have hne2 : w.heap.size + 1 ≠ g := by omega
  have HW := Lib.hid (bj13 (one_alloc (w := w) (o := tokA)) (one_alloc (o := spotA)))
  have HD := Lib.hid (rd_step h HW.out)
  have HT := Lib.hid (tb_step hT HW.out)
  have HER := Lib.hid (er_step hEr HW.out)
  obtain ⟨hA2, hB⟩ := two_blk w (.int .u8 0) (.string ⟨#[]⟩) (.int .u64 0) (.int .i64 0) (.int .i64 0) (.int .i64 0) 34 29
  have HA := Lib.hid hA2
  have HB := Lib.hid hB
  have HN := Lib.hid (fun q W hr => next_any g S q W hr)
  have HWB := Lib.hid lwor_any
  clear hA2 hB h hT hEr
  unfold Tk
  cases A with
  | bad e q0 =>
    have he0 : ((e : Int) != 0) = true := by rw [bne_iff_ne]; have := hA e q0 rfl; omega
    have HRES := Lib.hid (show anT (aloR S (.bad e q0)) = .tuple #[tokV 0 ⟨#[]⟩ 0 0, spotV e q0] from rfl)
    clear hA
    go_enter Tryz.func16, Tryz.ntmps16
    go_wp2_with fail
    refine (HK.out _ HD.out HT.out HER.out).mono ?_
    rintro e2 w1 ⟨rfl, ⟨q, hr, hq⟩, hb⟩
    have HD1 := Lib.hid hr
    have HRN := Lib.hid (show ∀ m, anQ (aloR S (.bad e q0)) = some m → q = m from fun m hm => by cases hm)
    have HA1 := Lib.hid (bx_blk HA.out hb hne)
    have HB1 := Lib.hid (bx_blk HB.out hb hne2)
    have HX1 := Lib.hid (bx_trans (bx_of HW.out rfl) hb)
    have hsz : w.heap.size + 2 ≤ w1.heap.size := by have := (HB1.out).lt; omega
    clear hr hb hq HD HT HER HK HA HB HW
    obtain ⟨h2, k2⟩ := two_blk w1 (.int .u8 0) (.string ⟨#[]⟩) (.int .u64 0) (.int .i64 0) (.int .i64 e) (.int .i64 q0) 34 29
    have HBB := bj13 (one_alloc (w := w1) (o := .cells #[.int .u8 0, .string ⟨#[]⟩, .int .u64 0, .int .i64 0] 34)) (one_alloc (o := .cells #[.int .i64 e, .int .i64 q0] 29))
    have HA2 := Lib.hid (Blk.below HA1.out HBB (Blk.lt HA1.out))
    have HB2 := Lib.hid (Blk.below HB1.out HBB (Blk.lt HB1.out))
    have HD2 := Lib.hid (rd_step HD1.out HBB)
    have HX2 := Lib.hid (bx_later HX1.out HBB)
    have HA2d := Lib.hid (Blk.drew HA2.out)
    have HB2d := Lib.hid (Blk.drew HB2.out)
    have HD2d := Lib.hid (rd_drew HD2.out)
    have HX2d := Lib.hid (bx_drew HX2.out)
    have k2d := Blk.drew k2
    obtain ⟨s0, s1, _, _⟩ := cell2b k2
    obtain ⟨s2, s3, _, _⟩ := cell2b k2d
    clear HBB h2 k2 k2d
    obtain ⟨d0, d1, d2, d3⟩ := cell2b HB2d.out
    obtain ⟨b0, b1, b2, b3⟩ := cell4b HA2d.out
    have e0 := (HA2d.out).frozen 0
    have e1 := (HA2d.out).frozen 1
    have e2 := (HA2d.out).frozen 2
    have e3 := (HA2d.out).frozen 3
    obtain ⟨j0, j1, j2, j3⟩ := cell2b HB2.out
    obtain ⟨m0, m1, m2, m3⟩ := cell4b HA2.out
    have n0 := (HA2.out).frozen 0
    have n1 := (HA2.out).frozen 1
    have n2 := (HA2.out).frozen 2
    have n3 := (HA2.out).frozen 3
    unfold anT tokV spotV
    go_wp2_with fail
    go_region
    all_goals
      go_wp2
      obtain ⟨hA, hB⟩ := two_set HA2.out HB2.out (by omega) (.int .u8 0) (.string ⟨#[]⟩) (.int .u64 0) (.int .i64 0) (.int .i64 e) (.int .i64 q0)
      have HB6 := Below.drew (two_below (g := w.heap.size) (h := w.heap.size + 1) (Below.refl w.heap.size (((w1.alloc (.cells #[.int .u8 0, .string ⟨#[]⟩, .int .u64 0, .int .i64 0] 34)).alloc (.cells #[.int .i64 e, .int .i64 q0] 29)))) (Nat.le_refl _) (Nat.le_succ _) (.int .u8 0) (.string ⟨#[]⟩) (.int .u64 0) (.int .i64 0) (.int .i64 e) (.int .i64 q0))
      have HF1 := Blk.below HD2.out HB6 hlt
      have HF2 := bx_more HX2.out HB6
      have HF := Lib.hid (And.intro HF1 HF2)
      have hA := Blk.drew hA
      have hB := Blk.drew hB
      clear d0 d1 d2 d3 b0 b1 b2 b3 e0 e1 e2 e3 s0 s1 s2 s3 j0 j1 j2 j3 m0 m1 m2 m3 n0 n1 n2 n3 HF1 HF2 HB6
      obtain ⟨d0, d1, _, _⟩ := cell2b hB
      obtain ⟨c0, c1, c2, c3⟩ := cell4b hA
      refine bodyPost_ret (v := .tuple #[tokV 0 ⟨#[]⟩ 0 0, spotV e q0]) ?_ rfl ?_
      · simp [results, Tryz.results16, go_sem, c0, c1, c2, c3, d0, d1, tokV, spotV]
      · exact ⟨by rw [HRES.out], ⟨_, HF.out.1, HRN.out⟩, HF.out.2⟩
  | ok k x n pp q0 =>
    obtain ⟨b, hb0⟩ : ∃ b, worB (atB S q0 : Int) = b := ⟨_, rfl⟩
    clear hA
    go_enter Tryz.func16, Tryz.ntmps16
    go_wp2_with fail
    refine (HK.out _ HD.out HT.out HER.out).mono ?_
    rintro e2 w1 ⟨rfl, ⟨q, hr, hq⟩, hb⟩
    obtain rfl : q = q0 := hq q0 rfl
    have HD1 := Lib.hid hr
    have HA1 := Lib.hid (bx_blk HA.out hb hne)
    have HB1 := Lib.hid (bx_blk HB.out hb hne2)
    have HX1 := Lib.hid (bx_trans (bx_of HW.out rfl) hb)
    have hsz : w.heap.size + 2 ≤ w1.heap.size := by have := (HB1.out).lt; omega
    clear hr hb hq HD HT HER HK HA HB HW
    obtain ⟨h2, k2⟩ := two_blk w1 (.int .u8 k) (.string x) (.int .u64 n) (.int .i64 pp) (.int .i64 0) (.int .i64 0) 34 29
    have HBB := bj13 (one_alloc (w := w1) (o := .cells #[.int .u8 k, .string x, .int .u64 n, .int .i64 pp] 34)) (one_alloc (o := .cells #[.int .i64 0, .int .i64 0] 29))
    have HA2 := Lib.hid (Blk.below HA1.out HBB (Blk.lt HA1.out))
    have HB2 := Lib.hid (Blk.below HB1.out HBB (Blk.lt HB1.out))
    have HD2 := Lib.hid (rd_step HD1.out HBB)
    have HX2 := Lib.hid (bx_later HX1.out HBB)
    obtain ⟨s0, s1, _, _⟩ := cell2b k2
    obtain ⟨t0, t1, t2, t3⟩ := cell4b h2
    have HH2 := Lib.hid h2
    clear HBB k2 h2
    by_cases hk6 : k = 6
    · have hkb : ((k : Int) != 6) = false := by rw [hk6]; rfl
      have hnot : ¬ (k ≠ 6 ∧ worB (atB S q : Int) = true) := fun hh => hh.1 hk6
      have HRES := Lib.hid (show anT (aloR S (.ok k x n pp q)) = .tuple #[tokV k x n pp, spotV 0 0] by rw [alo_no hnot]; rfl)
      have HRN := Lib.hid (show ∀ m, anQ (aloR S (.ok k x n pp q)) = some m → q = m by rw [alo_no hnot]; exact fun m hm => Option.some.inj hm)
      clear hnot hk6 hb0
      obtain ⟨d0, d1, d2, d3⟩ := cell2b HB2.out
      obtain ⟨b0, b1, b2, b3⟩ := cell4b HA2.out
      have e0 := (HA2.out).frozen 0
      have e1 := (HA2.out).frozen 1
      have e2 := (HA2.out).frozen 2
      have e3 := (HA2.out).frozen 3
      unfold anT tokV spotV
      go_wp2
      obtain ⟨hA, hB⟩ := two_set HA2.out HB2.out (by omega) (.int .u8 k) (.string x) (.int .u64 n) (.int .i64 pp) (.int .i64 0) (.int .i64 0)
      have HB6 := two_below (g := w.heap.size) (h := w.heap.size + 1) (Below.refl w.heap.size ((w1.alloc (.cells #[.int .u8 k, .string x, .int .u64 n, .int .i64 pp] 34)).alloc (.cells #[.int .i64 0, .int .i64 0] 29))) (Nat.le_refl _) (Nat.le_succ _) (.int .u8 k) (.string x) (.int .u64 n) (.int .i64 pp) (.int .i64 0) (.int .i64 0)
      clear s0 s1 t0 t1 t2 t3 d0 d1 d2 d3 b0 b1 b2 b3 e0 e1 e2 e3
      obtain ⟨d0, d1, _, _⟩ := cell2b hB
      obtain ⟨c0, c1, c2, c3⟩ := cell4b hA
      exact bodyPost_ret (v := .tuple #[tokV k x n pp, spotV 0 0]) (by simp [results, Tryz.results16, go_sem, c0, c1, c2, c3, d0, d1, tokV, spotV]) rfl ⟨by rw [HRES.out], ⟨_, Blk.below (HD2).out HB6 hlt, HRN.out⟩, bx_more (HX2).out HB6⟩
    · have hkb : ((k : Int) != 6) = true := by rw [bne_iff_ne]; omega
      cases b with
      | false =>
        have hnot : ¬ (k ≠ 6 ∧ worB (atB S q : Int) = true) := fun hh => by rw [hb0] at hh; exact absurd hh.2 (by decide)
        have HRES := Lib.hid (show anT (aloR S (.ok k x n pp q)) = .tuple #[tokV k x n pp, spotV 0 0] by rw [alo_no hnot]; rfl)
        have HRN := Lib.hid (show ∀ m, anQ (aloR S (.ok k x n pp q)) = some m → q = m by rw [alo_no hnot]; exact fun m hm => Option.some.inj hm)
        clear hnot hk6
        unfold anT tokV spotV
        go_wp2_with fail
        refine (HN.out q _ HD2.out).mono ?_
        rintro e3 w3 ⟨rfl, hb3⟩
        have HA3 := Lib.hid (Blk.below HA2.out hb3 (Blk.lt HA2.out))
        have HB3 := Lib.hid (Blk.below HB2.out hb3 (Blk.lt HB2.out))
        have HH3 := Lib.hid (Blk.below HH2.out hb3 (Blk.lt HH2.out))
        have HD3 := Lib.hid (rd_step HD2.out hb3)
        have HX3 := Lib.hid (bx_later HX2.out hb3)
        clear hb3 s0 s1 t0 t1 t2 t3
        obtain ⟨t0, t1, t2, t3⟩ := cell4b HH3.out
        go_wp2_with fail
        refine (HWB.out _ _).mono ?_
        rintro e4 w4 ⟨rfl, rfl⟩
        rw [hb0]
        obtain ⟨d0, d1, d2, d3⟩ := cell2b HB3.out
        obtain ⟨b0, b1, b2, b3⟩ := cell4b HA3.out
        have e0 := (HA3.out).frozen 0
        have e1 := (HA3.out).frozen 1
        have e2 := (HA3.out).frozen 2
        have e3 := (HA3.out).frozen 3
        go_wp2
        obtain ⟨hA, hB⟩ := two_set HA3.out HB3.out (by omega) (.int .u8 k) (.string x) (.int .u64 n) (.int .i64 pp) (.int .i64 0) (.int .i64 0)
        have HB6 := two_below (g := w.heap.size) (h := w.heap.size + 1) (Below.refl w.heap.size w3) (Nat.le_refl _) (Nat.le_succ _) (.int .u8 k) (.string x) (.int .u64 n) (.int .i64 pp) (.int .i64 0) (.int .i64 0)
        clear t0 t1 t2 t3 d0 d1 d2 d3 b0 b1 b2 b3 e0 e1 e2 e3
        obtain ⟨d0, d1, _, _⟩ := cell2b hB
        obtain ⟨c0, c1, c2, c3⟩ := cell4b hA
        exact bodyPost_ret (v := .tuple #[tokV k x n pp, spotV 0 0]) (by simp [results, Tryz.results16, go_sem, c0, c1, c2, c3, d0, d1, tokV, spotV]) rfl ⟨by rw [HRES.out], ⟨_, Blk.below (HD3).out HB6 hlt, HRN.out⟩, bx_more (HX3).out HB6⟩
      | true =>
        have hyes : k ≠ 6 ∧ worB (atB S q : Int) = true := ⟨hk6, hb0⟩
        have HRES := Lib.hid (show anT (aloR S (.ok k x n pp q)) = .tuple #[tokV 0 ⟨#[]⟩ 0 0, spotV 6 q] by rw [alo_yes hyes]; rfl)
        have HRN := Lib.hid (show ∀ m, anQ (aloR S (.ok k x n pp q)) = some m → q = m by rw [alo_yes hyes]; intro m hm; cases hm)
        clear hyes hk6
        unfold anT tokV spotV
        go_wp2_with fail
        refine (HN.out q _ HD2.out).mono ?_
        rintro e3 w3 ⟨rfl, hb3⟩
        have HA3 := Lib.hid (Blk.below HA2.out hb3 (Blk.lt HA2.out))
        have HB3 := Lib.hid (Blk.below HB2.out hb3 (Blk.lt HB2.out))
        have HH3 := Lib.hid (Blk.below HH2.out hb3 (Blk.lt HH2.out))
        have HD3 := Lib.hid (rd_step HD2.out hb3)
        have HX3 := Lib.hid (bx_later HX2.out hb3)
        clear hb3 s0 s1 t0 t1 t2 t3
        go_wp2_with fail
        refine (HWB.out _ _).mono ?_
        rintro e4 w4 ⟨rfl, rfl⟩
        rw [hb0]
        obtain ⟨c0, c1, f0, f1⟩ := rd_cells HD3.out
        go_wp2_with fail
        refine (wrong_any 6 q _).mono ?_
        rintro e w9 ⟨rfl, hb9⟩
        have HA9 := Lib.hid (Blk.below HA3.out hb9 (Blk.lt HA3.out))
        have HB9 := Lib.hid (Blk.below HB3.out hb9 (Blk.lt HB3.out))
        have HD9 := Lib.hid (rd_step HD3.out hb9)
        have HX9 := Lib.hid (bx_later HX3.out hb9)
        clear hb9
        obtain ⟨d0, d1, d2, d3⟩ := cell2b HB9.out
        obtain ⟨b0, b1, b2, b3⟩ := cell4b HA9.out
        have e0 := (HA9.out).frozen 0
        have e1 := (HA9.out).frozen 1
        have e2 := (HA9.out).frozen 2
        have e3 := (HA9.out).frozen 3
        unfold tokV spotV
        go_wp2
        obtain ⟨hA, hB⟩ := two_set HA9.out HB9.out (by omega) (.int .u8 0) (.string ⟨#[]⟩) (.int .u64 0) (.int .i64 0) (.int .i64 6) (.int .i64 q)
        have HB6 := two_below (g := w.heap.size) (h := w.heap.size + 1) (Below.refl w.heap.size w9) (Nat.le_refl _) (Nat.le_succ _) (.int .u8 0) (.string ⟨#[]⟩) (.int .u64 0) (.int .i64 0) (.int .i64 6) (.int .i64 q)
        clear d0 d1 d2 d3 b0 b1 b2 b3 e0 e1 e2 e3
        obtain ⟨d0, d1, _, _⟩ := cell2b hB
        obtain ⟨c0, c1, c2, c3⟩ := cell4b hA
        exact bodyPost_ret (v := .tuple #[tokV 0 ⟨#[]⟩ 0 0, spotV 6 q]) (by simp [results, Tryz.results16, go_sem, c0, c1, c2, c3, d0, d1, tokV, spotV]) rfl ⟨by rw [HRES.out], ⟨_, Blk.below (HD9).out HB6 hlt, HRN.out⟩, bx_more (HX9).out HB6⟩
set_option maxRecDepth 100000 in
set_option maxHeartbeats 8000000 in
theorem alone_name (g : Nat) (S : ByteArray) (p : Nat) (A : An) (w : World) (h : Rd w g S p) (hT : Tb w) (hEr : Er w) (hA : ∀ e q, A = .bad e q → e ≠ 0) (hK : ∀ W, Rd W g S p → Tb W → Er W → Calls Tryz.prog 46 #[.pointer (some ⟨g, 0, none⟩)] W (Tk S g A W)) :
    Calls Tryz.prog 16 #[.pointer (some ⟨g, 0, none⟩), .func (.func 46) #[.pointer (some ⟨g, 0, none⟩)] #[]] w (Tk S g (aloR S A) w) := by
  have HK := Lib.hid hK
  clear hK
  have hlt := Blk.lt h
  have hne : w.heap.size ≠ g := by omega
  have hne2 : w.heap.size + 1 ≠ g := by omega
  have HW := Lib.hid (bj13 (one_alloc (w := w) (o := tokA)) (one_alloc (o := spotA)))
  have HD := Lib.hid (rd_step h HW.out)
  have HT := Lib.hid (tb_step hT HW.out)
  have HER := Lib.hid (er_step hEr HW.out)
  obtain ⟨hA2, hB⟩ := two_blk w (.int .u8 0) (.string ⟨#[]⟩) (.int .u64 0) (.int .i64 0) (.int .i64 0) (.int .i64 0) 34 29
  have HA := Lib.hid hA2
  have HB := Lib.hid hB
  have HN := Lib.hid (fun q W hr => next_any g S q W hr)
  have HWB := Lib.hid lwor_any
  clear hA2 hB h hT hEr
  unfold Tk
  cases A with
  | bad e q0 =>
    have he0 : ((e : Int) != 0) = true := by rw [bne_iff_ne]; have := hA e q0 rfl; omega
    have HRES := Lib.hid (show anT (aloR S (.bad e q0)) = .tuple #[tokV 0 ⟨#[]⟩ 0 0, spotV e q0] from rfl)
    clear hA
    go_enter Tryz.func16, Tryz.ntmps16
    go_wp2_with fail
    refine (HK.out _ HD.out HT.out HER.out).mono ?_
    rintro e2 w1 ⟨rfl, ⟨q, hr, hq⟩, hb⟩
    have HD1 := Lib.hid hr
    have HRN := Lib.hid (show ∀ m, anQ (aloR S (.bad e q0)) = some m → q = m from fun m hm => by cases hm)
    have HA1 := Lib.hid (bx_blk HA.out hb hne)
    have HB1 := Lib.hid (bx_blk HB.out hb hne2)
    have HX1 := Lib.hid (bx_trans (bx_of HW.out rfl) hb)
    have hsz : w.heap.size + 2 ≤ w1.heap.size := by have := (HB1.out).lt; omega
    clear hr hb hq HD HT HER HK HA HB HW
    obtain ⟨h2, k2⟩ := two_blk w1 (.int .u8 0) (.string ⟨#[]⟩) (.int .u64 0) (.int .i64 0) (.int .i64 e) (.int .i64 q0) 34 29
    have HBB := bj13 (one_alloc (w := w1) (o := .cells #[.int .u8 0, .string ⟨#[]⟩, .int .u64 0, .int .i64 0] 34)) (one_alloc (o := .cells #[.int .i64 e, .int .i64 q0] 29))
    have HA2 := Lib.hid (Blk.below HA1.out HBB (Blk.lt HA1.out))
    have HB2 := Lib.hid (Blk.below HB1.out HBB (Blk.lt HB1.out))
    have HD2 := Lib.hid (rd_step HD1.out HBB)
    have HX2 := Lib.hid (bx_later HX1.out HBB)
    have HA2d := Lib.hid (Blk.drew HA2.out)
    have HB2d := Lib.hid (Blk.drew HB2.out)
    have HD2d := Lib.hid (rd_drew HD2.out)
    have HX2d := Lib.hid (bx_drew HX2.out)
    have k2d := Blk.drew k2
    obtain ⟨s0, s1, _, _⟩ := cell2b k2
    obtain ⟨s2, s3, _, _⟩ := cell2b k2d
    clear HBB h2 k2 k2d
    obtain ⟨d0, d1, d2, d3⟩ := cell2b HB2d.out
    obtain ⟨b0, b1, b2, b3⟩ := cell4b HA2d.out
    have e0 := (HA2d.out).frozen 0
    have e1 := (HA2d.out).frozen 1
    have e2 := (HA2d.out).frozen 2
    have e3 := (HA2d.out).frozen 3
    obtain ⟨j0, j1, j2, j3⟩ := cell2b HB2.out
    obtain ⟨m0, m1, m2, m3⟩ := cell4b HA2.out
    have n0 := (HA2.out).frozen 0
    have n1 := (HA2.out).frozen 1
    have n2 := (HA2.out).frozen 2
    have n3 := (HA2.out).frozen 3
    unfold anT tokV spotV
    go_wp2_with fail
    go_region
    all_goals
      go_wp2
      obtain ⟨hA, hB⟩ := two_set HA2.out HB2.out (by omega) (.int .u8 0) (.string ⟨#[]⟩) (.int .u64 0) (.int .i64 0) (.int .i64 e) (.int .i64 q0)
      have HB6 := Below.drew (two_below (g := w.heap.size) (h := w.heap.size + 1) (Below.refl w.heap.size (((w1.alloc (.cells #[.int .u8 0, .string ⟨#[]⟩, .int .u64 0, .int .i64 0] 34)).alloc (.cells #[.int .i64 e, .int .i64 q0] 29)))) (Nat.le_refl _) (Nat.le_succ _) (.int .u8 0) (.string ⟨#[]⟩) (.int .u64 0) (.int .i64 0) (.int .i64 e) (.int .i64 q0))
      have HF1 := Blk.below HD2.out HB6 hlt
      have HF2 := bx_more HX2.out HB6
      have HF := Lib.hid (And.intro HF1 HF2)
      have hA := Blk.drew hA
      have hB := Blk.drew hB
      clear d0 d1 d2 d3 b0 b1 b2 b3 e0 e1 e2 e3 s0 s1 s2 s3 j0 j1 j2 j3 m0 m1 m2 m3 n0 n1 n2 n3 HF1 HF2 HB6
      obtain ⟨d0, d1, _, _⟩ := cell2b hB
      obtain ⟨c0, c1, c2, c3⟩ := cell4b hA
      refine bodyPost_ret (v := .tuple #[tokV 0 ⟨#[]⟩ 0 0, spotV e q0]) ?_ rfl ?_
      · simp [results, Tryz.results16, go_sem, c0, c1, c2, c3, d0, d1, tokV, spotV]
      · exact ⟨by rw [HRES.out], ⟨_, HF.out.1, HRN.out⟩, HF.out.2⟩
  | ok k x n pp q0 =>
    obtain ⟨b, hb0⟩ : ∃ b, worB (atB S q0 : Int) = b := ⟨_, rfl⟩
    clear hA
    go_enter Tryz.func16, Tryz.ntmps16
    go_wp2_with fail
    refine (HK.out _ HD.out HT.out HER.out).mono ?_
    rintro e2 w1 ⟨rfl, ⟨q, hr, hq⟩, hb⟩
    obtain rfl : q = q0 := hq q0 rfl
    have HD1 := Lib.hid hr
    have HA1 := Lib.hid (bx_blk HA.out hb hne)
    have HB1 := Lib.hid (bx_blk HB.out hb hne2)
    have HX1 := Lib.hid (bx_trans (bx_of HW.out rfl) hb)
    have hsz : w.heap.size + 2 ≤ w1.heap.size := by have := (HB1.out).lt; omega
    clear hr hb hq HD HT HER HK HA HB HW
    obtain ⟨h2, k2⟩ := two_blk w1 (.int .u8 k) (.string x) (.int .u64 n) (.int .i64 pp) (.int .i64 0) (.int .i64 0) 34 29
    have HBB := bj13 (one_alloc (w := w1) (o := .cells #[.int .u8 k, .string x, .int .u64 n, .int .i64 pp] 34)) (one_alloc (o := .cells #[.int .i64 0, .int .i64 0] 29))
    have HA2 := Lib.hid (Blk.below HA1.out HBB (Blk.lt HA1.out))
    have HB2 := Lib.hid (Blk.below HB1.out HBB (Blk.lt HB1.out))
    have HD2 := Lib.hid (rd_step HD1.out HBB)
    have HX2 := Lib.hid (bx_later HX1.out HBB)
    obtain ⟨s0, s1, _, _⟩ := cell2b k2
    obtain ⟨t0, t1, t2, t3⟩ := cell4b h2
    have HH2 := Lib.hid h2
    clear HBB k2 h2
    by_cases hk6 : k = 6
    · have hkb : ((k : Int) != 6) = false := by rw [hk6]; rfl
      have hnot : ¬ (k ≠ 6 ∧ worB (atB S q : Int) = true) := fun hh => hh.1 hk6
      have HRES := Lib.hid (show anT (aloR S (.ok k x n pp q)) = .tuple #[tokV k x n pp, spotV 0 0] by rw [alo_no hnot]; rfl)
      have HRN := Lib.hid (show ∀ m, anQ (aloR S (.ok k x n pp q)) = some m → q = m by rw [alo_no hnot]; exact fun m hm => Option.some.inj hm)
      clear hnot hk6 hb0
      obtain ⟨d0, d1, d2, d3⟩ := cell2b HB2.out
      obtain ⟨b0, b1, b2, b3⟩ := cell4b HA2.out
      have e0 := (HA2.out).frozen 0
      have e1 := (HA2.out).frozen 1
      have e2 := (HA2.out).frozen 2
      have e3 := (HA2.out).frozen 3
      unfold anT tokV spotV
      go_wp2
      obtain ⟨hA, hB⟩ := two_set HA2.out HB2.out (by omega) (.int .u8 k) (.string x) (.int .u64 n) (.int .i64 pp) (.int .i64 0) (.int .i64 0)
      have HB6 := two_below (g := w.heap.size) (h := w.heap.size + 1) (Below.refl w.heap.size ((w1.alloc (.cells #[.int .u8 k, .string x, .int .u64 n, .int .i64 pp] 34)).alloc (.cells #[.int .i64 0, .int .i64 0] 29))) (Nat.le_refl _) (Nat.le_succ _) (.int .u8 k) (.string x) (.int .u64 n) (.int .i64 pp) (.int .i64 0) (.int .i64 0)
      clear s0 s1 t0 t1 t2 t3 d0 d1 d2 d3 b0 b1 b2 b3 e0 e1 e2 e3
      obtain ⟨d0, d1, _, _⟩ := cell2b hB
      obtain ⟨c0, c1, c2, c3⟩ := cell4b hA
      exact bodyPost_ret (v := .tuple #[tokV k x n pp, spotV 0 0]) (by simp [results, Tryz.results16, go_sem, c0, c1, c2, c3, d0, d1, tokV, spotV]) rfl ⟨by rw [HRES.out], ⟨_, Blk.below (HD2).out HB6 hlt, HRN.out⟩, bx_more (HX2).out HB6⟩
    · have hkb : ((k : Int) != 6) = true := by rw [bne_iff_ne]; omega
      cases b with
      | false =>
        have hnot : ¬ (k ≠ 6 ∧ worB (atB S q : Int) = true) := fun hh => by rw [hb0] at hh; exact absurd hh.2 (by decide)
        have HRES := Lib.hid (show anT (aloR S (.ok k x n pp q)) = .tuple #[tokV k x n pp, spotV 0 0] by rw [alo_no hnot]; rfl)
        have HRN := Lib.hid (show ∀ m, anQ (aloR S (.ok k x n pp q)) = some m → q = m by rw [alo_no hnot]; exact fun m hm => Option.some.inj hm)
        clear hnot hk6
        unfold anT tokV spotV
        go_wp2_with fail
        refine (HN.out q _ HD2.out).mono ?_
        rintro e3 w3 ⟨rfl, hb3⟩
        have HA3 := Lib.hid (Blk.below HA2.out hb3 (Blk.lt HA2.out))
        have HB3 := Lib.hid (Blk.below HB2.out hb3 (Blk.lt HB2.out))
        have HH3 := Lib.hid (Blk.below HH2.out hb3 (Blk.lt HH2.out))
        have HD3 := Lib.hid (rd_step HD2.out hb3)
        have HX3 := Lib.hid (bx_later HX2.out hb3)
        clear hb3 s0 s1 t0 t1 t2 t3
        obtain ⟨t0, t1, t2, t3⟩ := cell4b HH3.out
        go_wp2_with fail
        refine (HWB.out _ _).mono ?_
        rintro e4 w4 ⟨rfl, rfl⟩
        rw [hb0]
        obtain ⟨d0, d1, d2, d3⟩ := cell2b HB3.out
        obtain ⟨b0, b1, b2, b3⟩ := cell4b HA3.out
        have e0 := (HA3.out).frozen 0
        have e1 := (HA3.out).frozen 1
        have e2 := (HA3.out).frozen 2
        have e3 := (HA3.out).frozen 3
        go_wp2
        obtain ⟨hA, hB⟩ := two_set HA3.out HB3.out (by omega) (.int .u8 k) (.string x) (.int .u64 n) (.int .i64 pp) (.int .i64 0) (.int .i64 0)
        have HB6 := two_below (g := w.heap.size) (h := w.heap.size + 1) (Below.refl w.heap.size w3) (Nat.le_refl _) (Nat.le_succ _) (.int .u8 k) (.string x) (.int .u64 n) (.int .i64 pp) (.int .i64 0) (.int .i64 0)
        clear t0 t1 t2 t3 d0 d1 d2 d3 b0 b1 b2 b3 e0 e1 e2 e3
        obtain ⟨d0, d1, _, _⟩ := cell2b hB
        obtain ⟨c0, c1, c2, c3⟩ := cell4b hA
        exact bodyPost_ret (v := .tuple #[tokV k x n pp, spotV 0 0]) (by simp [results, Tryz.results16, go_sem, c0, c1, c2, c3, d0, d1, tokV, spotV]) rfl ⟨by rw [HRES.out], ⟨_, Blk.below (HD3).out HB6 hlt, HRN.out⟩, bx_more (HX3).out HB6⟩
      | true =>
        have hyes : k ≠ 6 ∧ worB (atB S q : Int) = true := ⟨hk6, hb0⟩
        have HRES := Lib.hid (show anT (aloR S (.ok k x n pp q)) = .tuple #[tokV 0 ⟨#[]⟩ 0 0, spotV 6 q] by rw [alo_yes hyes]; rfl)
        have HRN := Lib.hid (show ∀ m, anQ (aloR S (.ok k x n pp q)) = some m → q = m by rw [alo_yes hyes]; intro m hm; cases hm)
        clear hyes hk6
        unfold anT tokV spotV
        go_wp2_with fail
        refine (HN.out q _ HD2.out).mono ?_
        rintro e3 w3 ⟨rfl, hb3⟩
        have HA3 := Lib.hid (Blk.below HA2.out hb3 (Blk.lt HA2.out))
        have HB3 := Lib.hid (Blk.below HB2.out hb3 (Blk.lt HB2.out))
        have HH3 := Lib.hid (Blk.below HH2.out hb3 (Blk.lt HH2.out))
        have HD3 := Lib.hid (rd_step HD2.out hb3)
        have HX3 := Lib.hid (bx_later HX2.out hb3)
        clear hb3 s0 s1 t0 t1 t2 t3
        go_wp2_with fail
        refine (HWB.out _ _).mono ?_
        rintro e4 w4 ⟨rfl, rfl⟩
        rw [hb0]
        obtain ⟨c0, c1, f0, f1⟩ := rd_cells HD3.out
        go_wp2_with fail
        refine (wrong_any 6 q _).mono ?_
        rintro e w9 ⟨rfl, hb9⟩
        have HA9 := Lib.hid (Blk.below HA3.out hb9 (Blk.lt HA3.out))
        have HB9 := Lib.hid (Blk.below HB3.out hb9 (Blk.lt HB3.out))
        have HD9 := Lib.hid (rd_step HD3.out hb9)
        have HX9 := Lib.hid (bx_later HX3.out hb9)
        clear hb9
        obtain ⟨d0, d1, d2, d3⟩ := cell2b HB9.out
        obtain ⟨b0, b1, b2, b3⟩ := cell4b HA9.out
        have e0 := (HA9.out).frozen 0
        have e1 := (HA9.out).frozen 1
        have e2 := (HA9.out).frozen 2
        have e3 := (HA9.out).frozen 3
        unfold tokV spotV
        go_wp2
        obtain ⟨hA, hB⟩ := two_set HA9.out HB9.out (by omega) (.int .u8 0) (.string ⟨#[]⟩) (.int .u64 0) (.int .i64 0) (.int .i64 6) (.int .i64 q)
        have HB6 := two_below (g := w.heap.size) (h := w.heap.size + 1) (Below.refl w.heap.size w9) (Nat.le_refl _) (Nat.le_succ _) (.int .u8 0) (.string ⟨#[]⟩) (.int .u64 0) (.int .i64 0) (.int .i64 6) (.int .i64 q)
        clear d0 d1 d2 d3 b0 b1 b2 b3 e0 e1 e2 e3
        obtain ⟨d0, d1, _, _⟩ := cell2b hB
        obtain ⟨c0, c1, c2, c3⟩ := cell4b hA
        exact bodyPost_ret (v := .tuple #[tokV 0 ⟨#[]⟩ 0 0, spotV 6 q]) (by simp [results, Tryz.results16, go_sem, c0, c1, c2, c3, d0, d1, tokV, spotV]) rfl ⟨by rw [HRES.out], ⟨_, Blk.below (HD9).out HB6 hlt, HRN.out⟩, bx_more (HX9).out HB6⟩
set_option maxRecDepth 100000 in
set_option maxHeartbeats 8000000 in
theorem alone_number (g : Nat) (S : ByteArray) (p : Nat) (A : An) (w : World) (h : Rd w g S p) (hT : Tb w) (hEr : Er w) (hA : ∀ e q, A = .bad e q → e ≠ 0) (hK : ∀ W, Rd W g S p → Tb W → Er W → Calls Tryz.prog 48 #[.pointer (some ⟨g, 0, none⟩)] W (Tk S g A W)) :
    Calls Tryz.prog 16 #[.pointer (some ⟨g, 0, none⟩), .func (.func 48) #[.pointer (some ⟨g, 0, none⟩)] #[]] w (Tk S g (aloR S A) w) := by
  have HK := Lib.hid hK
  clear hK
  have hlt := Blk.lt h
  have hne : w.heap.size ≠ g := by omega
  have hne2 : w.heap.size + 1 ≠ g := by omega
  have HW := Lib.hid (bj13 (one_alloc (w := w) (o := tokA)) (one_alloc (o := spotA)))
  have HD := Lib.hid (rd_step h HW.out)
  have HT := Lib.hid (tb_step hT HW.out)
  have HER := Lib.hid (er_step hEr HW.out)
  obtain ⟨hA2, hB⟩ := two_blk w (.int .u8 0) (.string ⟨#[]⟩) (.int .u64 0) (.int .i64 0) (.int .i64 0) (.int .i64 0) 34 29
  have HA := Lib.hid hA2
  have HB := Lib.hid hB
  have HN := Lib.hid (fun q W hr => next_any g S q W hr)
  have HWB := Lib.hid lwor_any
  clear hA2 hB h hT hEr
  unfold Tk
  cases A with
  | bad e q0 =>
    have he0 : ((e : Int) != 0) = true := by rw [bne_iff_ne]; have := hA e q0 rfl; omega
    have HRES := Lib.hid (show anT (aloR S (.bad e q0)) = .tuple #[tokV 0 ⟨#[]⟩ 0 0, spotV e q0] from rfl)
    clear hA
    go_enter Tryz.func16, Tryz.ntmps16
    go_wp2_with fail
    refine (HK.out _ HD.out HT.out HER.out).mono ?_
    rintro e2 w1 ⟨rfl, ⟨q, hr, hq⟩, hb⟩
    have HD1 := Lib.hid hr
    have HRN := Lib.hid (show ∀ m, anQ (aloR S (.bad e q0)) = some m → q = m from fun m hm => by cases hm)
    have HA1 := Lib.hid (bx_blk HA.out hb hne)
    have HB1 := Lib.hid (bx_blk HB.out hb hne2)
    have HX1 := Lib.hid (bx_trans (bx_of HW.out rfl) hb)
    have hsz : w.heap.size + 2 ≤ w1.heap.size := by have := (HB1.out).lt; omega
    clear hr hb hq HD HT HER HK HA HB HW
    obtain ⟨h2, k2⟩ := two_blk w1 (.int .u8 0) (.string ⟨#[]⟩) (.int .u64 0) (.int .i64 0) (.int .i64 e) (.int .i64 q0) 34 29
    have HBB := bj13 (one_alloc (w := w1) (o := .cells #[.int .u8 0, .string ⟨#[]⟩, .int .u64 0, .int .i64 0] 34)) (one_alloc (o := .cells #[.int .i64 e, .int .i64 q0] 29))
    have HA2 := Lib.hid (Blk.below HA1.out HBB (Blk.lt HA1.out))
    have HB2 := Lib.hid (Blk.below HB1.out HBB (Blk.lt HB1.out))
    have HD2 := Lib.hid (rd_step HD1.out HBB)
    have HX2 := Lib.hid (bx_later HX1.out HBB)
    have HA2d := Lib.hid (Blk.drew HA2.out)
    have HB2d := Lib.hid (Blk.drew HB2.out)
    have HD2d := Lib.hid (rd_drew HD2.out)
    have HX2d := Lib.hid (bx_drew HX2.out)
    have k2d := Blk.drew k2
    obtain ⟨s0, s1, _, _⟩ := cell2b k2
    obtain ⟨s2, s3, _, _⟩ := cell2b k2d
    clear HBB h2 k2 k2d
    obtain ⟨d0, d1, d2, d3⟩ := cell2b HB2d.out
    obtain ⟨b0, b1, b2, b3⟩ := cell4b HA2d.out
    have e0 := (HA2d.out).frozen 0
    have e1 := (HA2d.out).frozen 1
    have e2 := (HA2d.out).frozen 2
    have e3 := (HA2d.out).frozen 3
    obtain ⟨j0, j1, j2, j3⟩ := cell2b HB2.out
    obtain ⟨m0, m1, m2, m3⟩ := cell4b HA2.out
    have n0 := (HA2.out).frozen 0
    have n1 := (HA2.out).frozen 1
    have n2 := (HA2.out).frozen 2
    have n3 := (HA2.out).frozen 3
    unfold anT tokV spotV
    go_wp2_with fail
    go_region
    all_goals
      go_wp2
      obtain ⟨hA, hB⟩ := two_set HA2.out HB2.out (by omega) (.int .u8 0) (.string ⟨#[]⟩) (.int .u64 0) (.int .i64 0) (.int .i64 e) (.int .i64 q0)
      have HB6 := Below.drew (two_below (g := w.heap.size) (h := w.heap.size + 1) (Below.refl w.heap.size (((w1.alloc (.cells #[.int .u8 0, .string ⟨#[]⟩, .int .u64 0, .int .i64 0] 34)).alloc (.cells #[.int .i64 e, .int .i64 q0] 29)))) (Nat.le_refl _) (Nat.le_succ _) (.int .u8 0) (.string ⟨#[]⟩) (.int .u64 0) (.int .i64 0) (.int .i64 e) (.int .i64 q0))
      have HF1 := Blk.below HD2.out HB6 hlt
      have HF2 := bx_more HX2.out HB6
      have HF := Lib.hid (And.intro HF1 HF2)
      have hA := Blk.drew hA
      have hB := Blk.drew hB
      clear d0 d1 d2 d3 b0 b1 b2 b3 e0 e1 e2 e3 s0 s1 s2 s3 j0 j1 j2 j3 m0 m1 m2 m3 n0 n1 n2 n3 HF1 HF2 HB6
      obtain ⟨d0, d1, _, _⟩ := cell2b hB
      obtain ⟨c0, c1, c2, c3⟩ := cell4b hA
      refine bodyPost_ret (v := .tuple #[tokV 0 ⟨#[]⟩ 0 0, spotV e q0]) ?_ rfl ?_
      · simp [results, Tryz.results16, go_sem, c0, c1, c2, c3, d0, d1, tokV, spotV]
      · exact ⟨by rw [HRES.out], ⟨_, HF.out.1, HRN.out⟩, HF.out.2⟩
  | ok k x n pp q0 =>
    obtain ⟨b, hb0⟩ : ∃ b, worB (atB S q0 : Int) = b := ⟨_, rfl⟩
    clear hA
    go_enter Tryz.func16, Tryz.ntmps16
    go_wp2_with fail
    refine (HK.out _ HD.out HT.out HER.out).mono ?_
    rintro e2 w1 ⟨rfl, ⟨q, hr, hq⟩, hb⟩
    obtain rfl : q = q0 := hq q0 rfl
    have HD1 := Lib.hid hr
    have HA1 := Lib.hid (bx_blk HA.out hb hne)
    have HB1 := Lib.hid (bx_blk HB.out hb hne2)
    have HX1 := Lib.hid (bx_trans (bx_of HW.out rfl) hb)
    have hsz : w.heap.size + 2 ≤ w1.heap.size := by have := (HB1.out).lt; omega
    clear hr hb hq HD HT HER HK HA HB HW
    obtain ⟨h2, k2⟩ := two_blk w1 (.int .u8 k) (.string x) (.int .u64 n) (.int .i64 pp) (.int .i64 0) (.int .i64 0) 34 29
    have HBB := bj13 (one_alloc (w := w1) (o := .cells #[.int .u8 k, .string x, .int .u64 n, .int .i64 pp] 34)) (one_alloc (o := .cells #[.int .i64 0, .int .i64 0] 29))
    have HA2 := Lib.hid (Blk.below HA1.out HBB (Blk.lt HA1.out))
    have HB2 := Lib.hid (Blk.below HB1.out HBB (Blk.lt HB1.out))
    have HD2 := Lib.hid (rd_step HD1.out HBB)
    have HX2 := Lib.hid (bx_later HX1.out HBB)
    obtain ⟨s0, s1, _, _⟩ := cell2b k2
    obtain ⟨t0, t1, t2, t3⟩ := cell4b h2
    have HH2 := Lib.hid h2
    clear HBB k2 h2
    by_cases hk6 : k = 6
    · have hkb : ((k : Int) != 6) = false := by rw [hk6]; rfl
      have hnot : ¬ (k ≠ 6 ∧ worB (atB S q : Int) = true) := fun hh => hh.1 hk6
      have HRES := Lib.hid (show anT (aloR S (.ok k x n pp q)) = .tuple #[tokV k x n pp, spotV 0 0] by rw [alo_no hnot]; rfl)
      have HRN := Lib.hid (show ∀ m, anQ (aloR S (.ok k x n pp q)) = some m → q = m by rw [alo_no hnot]; exact fun m hm => Option.some.inj hm)
      clear hnot hk6 hb0
      obtain ⟨d0, d1, d2, d3⟩ := cell2b HB2.out
      obtain ⟨b0, b1, b2, b3⟩ := cell4b HA2.out
      have e0 := (HA2.out).frozen 0
      have e1 := (HA2.out).frozen 1
      have e2 := (HA2.out).frozen 2
      have e3 := (HA2.out).frozen 3
      unfold anT tokV spotV
      go_wp2
      obtain ⟨hA, hB⟩ := two_set HA2.out HB2.out (by omega) (.int .u8 k) (.string x) (.int .u64 n) (.int .i64 pp) (.int .i64 0) (.int .i64 0)
      have HB6 := two_below (g := w.heap.size) (h := w.heap.size + 1) (Below.refl w.heap.size ((w1.alloc (.cells #[.int .u8 k, .string x, .int .u64 n, .int .i64 pp] 34)).alloc (.cells #[.int .i64 0, .int .i64 0] 29))) (Nat.le_refl _) (Nat.le_succ _) (.int .u8 k) (.string x) (.int .u64 n) (.int .i64 pp) (.int .i64 0) (.int .i64 0)
      clear s0 s1 t0 t1 t2 t3 d0 d1 d2 d3 b0 b1 b2 b3 e0 e1 e2 e3
      obtain ⟨d0, d1, _, _⟩ := cell2b hB
      obtain ⟨c0, c1, c2, c3⟩ := cell4b hA
      exact bodyPost_ret (v := .tuple #[tokV k x n pp, spotV 0 0]) (by simp [results, Tryz.results16, go_sem, c0, c1, c2, c3, d0, d1, tokV, spotV]) rfl ⟨by rw [HRES.out], ⟨_, Blk.below (HD2).out HB6 hlt, HRN.out⟩, bx_more (HX2).out HB6⟩
    · have hkb : ((k : Int) != 6) = true := by rw [bne_iff_ne]; omega
      cases b with
      | false =>
        have hnot : ¬ (k ≠ 6 ∧ worB (atB S q : Int) = true) := fun hh => by rw [hb0] at hh; exact absurd hh.2 (by decide)
        have HRES := Lib.hid (show anT (aloR S (.ok k x n pp q)) = .tuple #[tokV k x n pp, spotV 0 0] by rw [alo_no hnot]; rfl)
        have HRN := Lib.hid (show ∀ m, anQ (aloR S (.ok k x n pp q)) = some m → q = m by rw [alo_no hnot]; exact fun m hm => Option.some.inj hm)
        clear hnot hk6
        unfold anT tokV spotV
        go_wp2_with fail
        refine (HN.out q _ HD2.out).mono ?_
        rintro e3 w3 ⟨rfl, hb3⟩
        have HA3 := Lib.hid (Blk.below HA2.out hb3 (Blk.lt HA2.out))
        have HB3 := Lib.hid (Blk.below HB2.out hb3 (Blk.lt HB2.out))
        have HH3 := Lib.hid (Blk.below HH2.out hb3 (Blk.lt HH2.out))
        have HD3 := Lib.hid (rd_step HD2.out hb3)
        have HX3 := Lib.hid (bx_later HX2.out hb3)
        clear hb3 s0 s1 t0 t1 t2 t3
        obtain ⟨t0, t1, t2, t3⟩ := cell4b HH3.out
        go_wp2_with fail
        refine (HWB.out _ _).mono ?_
        rintro e4 w4 ⟨rfl, rfl⟩
        rw [hb0]
        obtain ⟨d0, d1, d2, d3⟩ := cell2b HB3.out
        obtain ⟨b0, b1, b2, b3⟩ := cell4b HA3.out
        have e0 := (HA3.out).frozen 0
        have e1 := (HA3.out).frozen 1
        have e2 := (HA3.out).frozen 2
        have e3 := (HA3.out).frozen 3
        go_wp2
        obtain ⟨hA, hB⟩ := two_set HA3.out HB3.out (by omega) (.int .u8 k) (.string x) (.int .u64 n) (.int .i64 pp) (.int .i64 0) (.int .i64 0)
        have HB6 := two_below (g := w.heap.size) (h := w.heap.size + 1) (Below.refl w.heap.size w3) (Nat.le_refl _) (Nat.le_succ _) (.int .u8 k) (.string x) (.int .u64 n) (.int .i64 pp) (.int .i64 0) (.int .i64 0)
        clear t0 t1 t2 t3 d0 d1 d2 d3 b0 b1 b2 b3 e0 e1 e2 e3
        obtain ⟨d0, d1, _, _⟩ := cell2b hB
        obtain ⟨c0, c1, c2, c3⟩ := cell4b hA
        exact bodyPost_ret (v := .tuple #[tokV k x n pp, spotV 0 0]) (by simp [results, Tryz.results16, go_sem, c0, c1, c2, c3, d0, d1, tokV, spotV]) rfl ⟨by rw [HRES.out], ⟨_, Blk.below (HD3).out HB6 hlt, HRN.out⟩, bx_more (HX3).out HB6⟩
      | true =>
        have hyes : k ≠ 6 ∧ worB (atB S q : Int) = true := ⟨hk6, hb0⟩
        have HRES := Lib.hid (show anT (aloR S (.ok k x n pp q)) = .tuple #[tokV 0 ⟨#[]⟩ 0 0, spotV 6 q] by rw [alo_yes hyes]; rfl)
        have HRN := Lib.hid (show ∀ m, anQ (aloR S (.ok k x n pp q)) = some m → q = m by rw [alo_yes hyes]; intro m hm; cases hm)
        clear hyes hk6
        unfold anT tokV spotV
        go_wp2_with fail
        refine (HN.out q _ HD2.out).mono ?_
        rintro e3 w3 ⟨rfl, hb3⟩
        have HA3 := Lib.hid (Blk.below HA2.out hb3 (Blk.lt HA2.out))
        have HB3 := Lib.hid (Blk.below HB2.out hb3 (Blk.lt HB2.out))
        have HH3 := Lib.hid (Blk.below HH2.out hb3 (Blk.lt HH2.out))
        have HD3 := Lib.hid (rd_step HD2.out hb3)
        have HX3 := Lib.hid (bx_later HX2.out hb3)
        clear hb3 s0 s1 t0 t1 t2 t3
        go_wp2_with fail
        refine (HWB.out _ _).mono ?_
        rintro e4 w4 ⟨rfl, rfl⟩
        rw [hb0]
        obtain ⟨c0, c1, f0, f1⟩ := rd_cells HD3.out
        go_wp2_with fail
        refine (wrong_any 6 q _).mono ?_
        rintro e w9 ⟨rfl, hb9⟩
        have HA9 := Lib.hid (Blk.below HA3.out hb9 (Blk.lt HA3.out))
        have HB9 := Lib.hid (Blk.below HB3.out hb9 (Blk.lt HB3.out))
        have HD9 := Lib.hid (rd_step HD3.out hb9)
        have HX9 := Lib.hid (bx_later HX3.out hb9)
        clear hb9
        obtain ⟨d0, d1, d2, d3⟩ := cell2b HB9.out
        obtain ⟨b0, b1, b2, b3⟩ := cell4b HA9.out
        have e0 := (HA9.out).frozen 0
        have e1 := (HA9.out).frozen 1
        have e2 := (HA9.out).frozen 2
        have e3 := (HA9.out).frozen 3
        unfold tokV spotV
        go_wp2
        obtain ⟨hA, hB⟩ := two_set HA9.out HB9.out (by omega) (.int .u8 0) (.string ⟨#[]⟩) (.int .u64 0) (.int .i64 0) (.int .i64 6) (.int .i64 q)
        have HB6 := two_below (g := w.heap.size) (h := w.heap.size + 1) (Below.refl w.heap.size w9) (Nat.le_refl _) (Nat.le_succ _) (.int .u8 0) (.string ⟨#[]⟩) (.int .u64 0) (.int .i64 0) (.int .i64 6) (.int .i64 q)
        clear d0 d1 d2 d3 b0 b1 b2 b3 e0 e1 e2 e3
        obtain ⟨d0, d1, _, _⟩ := cell2b hB
        obtain ⟨c0, c1, c2, c3⟩ := cell4b hA
        exact bodyPost_ret (v := .tuple #[tokV 0 ⟨#[]⟩ 0 0, spotV 6 q]) (by simp [results, Tryz.results16, go_sem, c0, c1, c2, c3, d0, d1, tokV, spotV]) rfl ⟨by rw [HRES.out], ⟨_, Blk.below (HD9).out HB6 hlt, HRN.out⟩, bx_more (HX9).out HB6⟩
set_option maxRecDepth 100000 in
set_option maxHeartbeats 8000000 in
theorem alone_text (g : Nat) (S : ByteArray) (p : Nat) (A : An) (w : World) (h : Rd w g S p) (hT : Tb w) (hEr : Er w) (hA : ∀ e q, A = .bad e q → e ≠ 0) (hK : ∀ W, Rd W g S p → Tb W → Er W → Calls Tryz.prog 49 #[.pointer (some ⟨g, 0, none⟩)] W (Tk S g A W)) :
    Calls Tryz.prog 16 #[.pointer (some ⟨g, 0, none⟩), .func (.func 49) #[.pointer (some ⟨g, 0, none⟩)] #[]] w (Tk S g (aloR S A) w) := by
  have HK := Lib.hid hK
  clear hK
  have hlt := Blk.lt h
  have hne : w.heap.size ≠ g := by omega
  have hne2 : w.heap.size + 1 ≠ g := by omega
  have HW := Lib.hid (bj13 (one_alloc (w := w) (o := tokA)) (one_alloc (o := spotA)))
  have HD := Lib.hid (rd_step h HW.out)
  have HT := Lib.hid (tb_step hT HW.out)
  have HER := Lib.hid (er_step hEr HW.out)
  obtain ⟨hA2, hB⟩ := two_blk w (.int .u8 0) (.string ⟨#[]⟩) (.int .u64 0) (.int .i64 0) (.int .i64 0) (.int .i64 0) 34 29
  have HA := Lib.hid hA2
  have HB := Lib.hid hB
  have HN := Lib.hid (fun q W hr => next_any g S q W hr)
  have HWB := Lib.hid lwor_any
  clear hA2 hB h hT hEr
  unfold Tk
  cases A with
  | bad e q0 =>
    have he0 : ((e : Int) != 0) = true := by rw [bne_iff_ne]; have := hA e q0 rfl; omega
    have HRES := Lib.hid (show anT (aloR S (.bad e q0)) = .tuple #[tokV 0 ⟨#[]⟩ 0 0, spotV e q0] from rfl)
    clear hA
    go_enter Tryz.func16, Tryz.ntmps16
    go_wp2_with fail
    refine (HK.out _ HD.out HT.out HER.out).mono ?_
    rintro e2 w1 ⟨rfl, ⟨q, hr, hq⟩, hb⟩
    have HD1 := Lib.hid hr
    have HRN := Lib.hid (show ∀ m, anQ (aloR S (.bad e q0)) = some m → q = m from fun m hm => by cases hm)
    have HA1 := Lib.hid (bx_blk HA.out hb hne)
    have HB1 := Lib.hid (bx_blk HB.out hb hne2)
    have HX1 := Lib.hid (bx_trans (bx_of HW.out rfl) hb)
    have hsz : w.heap.size + 2 ≤ w1.heap.size := by have := (HB1.out).lt; omega
    clear hr hb hq HD HT HER HK HA HB HW
    obtain ⟨h2, k2⟩ := two_blk w1 (.int .u8 0) (.string ⟨#[]⟩) (.int .u64 0) (.int .i64 0) (.int .i64 e) (.int .i64 q0) 34 29
    have HBB := bj13 (one_alloc (w := w1) (o := .cells #[.int .u8 0, .string ⟨#[]⟩, .int .u64 0, .int .i64 0] 34)) (one_alloc (o := .cells #[.int .i64 e, .int .i64 q0] 29))
    have HA2 := Lib.hid (Blk.below HA1.out HBB (Blk.lt HA1.out))
    have HB2 := Lib.hid (Blk.below HB1.out HBB (Blk.lt HB1.out))
    have HD2 := Lib.hid (rd_step HD1.out HBB)
    have HX2 := Lib.hid (bx_later HX1.out HBB)
    have HA2d := Lib.hid (Blk.drew HA2.out)
    have HB2d := Lib.hid (Blk.drew HB2.out)
    have HD2d := Lib.hid (rd_drew HD2.out)
    have HX2d := Lib.hid (bx_drew HX2.out)
    have k2d := Blk.drew k2
    obtain ⟨s0, s1, _, _⟩ := cell2b k2
    obtain ⟨s2, s3, _, _⟩ := cell2b k2d
    clear HBB h2 k2 k2d
    obtain ⟨d0, d1, d2, d3⟩ := cell2b HB2d.out
    obtain ⟨b0, b1, b2, b3⟩ := cell4b HA2d.out
    have e0 := (HA2d.out).frozen 0
    have e1 := (HA2d.out).frozen 1
    have e2 := (HA2d.out).frozen 2
    have e3 := (HA2d.out).frozen 3
    obtain ⟨j0, j1, j2, j3⟩ := cell2b HB2.out
    obtain ⟨m0, m1, m2, m3⟩ := cell4b HA2.out
    have n0 := (HA2.out).frozen 0
    have n1 := (HA2.out).frozen 1
    have n2 := (HA2.out).frozen 2
    have n3 := (HA2.out).frozen 3
    unfold anT tokV spotV
    go_wp2_with fail
    go_region
    all_goals
      go_wp2
      obtain ⟨hA, hB⟩ := two_set HA2.out HB2.out (by omega) (.int .u8 0) (.string ⟨#[]⟩) (.int .u64 0) (.int .i64 0) (.int .i64 e) (.int .i64 q0)
      have HB6 := Below.drew (two_below (g := w.heap.size) (h := w.heap.size + 1) (Below.refl w.heap.size (((w1.alloc (.cells #[.int .u8 0, .string ⟨#[]⟩, .int .u64 0, .int .i64 0] 34)).alloc (.cells #[.int .i64 e, .int .i64 q0] 29)))) (Nat.le_refl _) (Nat.le_succ _) (.int .u8 0) (.string ⟨#[]⟩) (.int .u64 0) (.int .i64 0) (.int .i64 e) (.int .i64 q0))
      have HF1 := Blk.below HD2.out HB6 hlt
      have HF2 := bx_more HX2.out HB6
      have HF := Lib.hid (And.intro HF1 HF2)
      have hA := Blk.drew hA
      have hB := Blk.drew hB
      clear d0 d1 d2 d3 b0 b1 b2 b3 e0 e1 e2 e3 s0 s1 s2 s3 j0 j1 j2 j3 m0 m1 m2 m3 n0 n1 n2 n3 HF1 HF2 HB6
      obtain ⟨d0, d1, _, _⟩ := cell2b hB
      obtain ⟨c0, c1, c2, c3⟩ := cell4b hA
      refine bodyPost_ret (v := .tuple #[tokV 0 ⟨#[]⟩ 0 0, spotV e q0]) ?_ rfl ?_
      · simp [results, Tryz.results16, go_sem, c0, c1, c2, c3, d0, d1, tokV, spotV]
      · exact ⟨by rw [HRES.out], ⟨_, HF.out.1, HRN.out⟩, HF.out.2⟩
  | ok k x n pp q0 =>
    obtain ⟨b, hb0⟩ : ∃ b, worB (atB S q0 : Int) = b := ⟨_, rfl⟩
    clear hA
    go_enter Tryz.func16, Tryz.ntmps16
    go_wp2_with fail
    refine (HK.out _ HD.out HT.out HER.out).mono ?_
    rintro e2 w1 ⟨rfl, ⟨q, hr, hq⟩, hb⟩
    obtain rfl : q = q0 := hq q0 rfl
    have HD1 := Lib.hid hr
    have HA1 := Lib.hid (bx_blk HA.out hb hne)
    have HB1 := Lib.hid (bx_blk HB.out hb hne2)
    have HX1 := Lib.hid (bx_trans (bx_of HW.out rfl) hb)
    have hsz : w.heap.size + 2 ≤ w1.heap.size := by have := (HB1.out).lt; omega
    clear hr hb hq HD HT HER HK HA HB HW
    obtain ⟨h2, k2⟩ := two_blk w1 (.int .u8 k) (.string x) (.int .u64 n) (.int .i64 pp) (.int .i64 0) (.int .i64 0) 34 29
    have HBB := bj13 (one_alloc (w := w1) (o := .cells #[.int .u8 k, .string x, .int .u64 n, .int .i64 pp] 34)) (one_alloc (o := .cells #[.int .i64 0, .int .i64 0] 29))
    have HA2 := Lib.hid (Blk.below HA1.out HBB (Blk.lt HA1.out))
    have HB2 := Lib.hid (Blk.below HB1.out HBB (Blk.lt HB1.out))
    have HD2 := Lib.hid (rd_step HD1.out HBB)
    have HX2 := Lib.hid (bx_later HX1.out HBB)
    obtain ⟨s0, s1, _, _⟩ := cell2b k2
    obtain ⟨t0, t1, t2, t3⟩ := cell4b h2
    have HH2 := Lib.hid h2
    clear HBB k2 h2
    by_cases hk6 : k = 6
    · have hkb : ((k : Int) != 6) = false := by rw [hk6]; rfl
      have hnot : ¬ (k ≠ 6 ∧ worB (atB S q : Int) = true) := fun hh => hh.1 hk6
      have HRES := Lib.hid (show anT (aloR S (.ok k x n pp q)) = .tuple #[tokV k x n pp, spotV 0 0] by rw [alo_no hnot]; rfl)
      have HRN := Lib.hid (show ∀ m, anQ (aloR S (.ok k x n pp q)) = some m → q = m by rw [alo_no hnot]; exact fun m hm => Option.some.inj hm)
      clear hnot hk6 hb0
      obtain ⟨d0, d1, d2, d3⟩ := cell2b HB2.out
      obtain ⟨b0, b1, b2, b3⟩ := cell4b HA2.out
      have e0 := (HA2.out).frozen 0
      have e1 := (HA2.out).frozen 1
      have e2 := (HA2.out).frozen 2
      have e3 := (HA2.out).frozen 3
      unfold anT tokV spotV
      go_wp2
      obtain ⟨hA, hB⟩ := two_set HA2.out HB2.out (by omega) (.int .u8 k) (.string x) (.int .u64 n) (.int .i64 pp) (.int .i64 0) (.int .i64 0)
      have HB6 := two_below (g := w.heap.size) (h := w.heap.size + 1) (Below.refl w.heap.size ((w1.alloc (.cells #[.int .u8 k, .string x, .int .u64 n, .int .i64 pp] 34)).alloc (.cells #[.int .i64 0, .int .i64 0] 29))) (Nat.le_refl _) (Nat.le_succ _) (.int .u8 k) (.string x) (.int .u64 n) (.int .i64 pp) (.int .i64 0) (.int .i64 0)
      clear s0 s1 t0 t1 t2 t3 d0 d1 d2 d3 b0 b1 b2 b3 e0 e1 e2 e3
      obtain ⟨d0, d1, _, _⟩ := cell2b hB
      obtain ⟨c0, c1, c2, c3⟩ := cell4b hA
      exact bodyPost_ret (v := .tuple #[tokV k x n pp, spotV 0 0]) (by simp [results, Tryz.results16, go_sem, c0, c1, c2, c3, d0, d1, tokV, spotV]) rfl ⟨by rw [HRES.out], ⟨_, Blk.below (HD2).out HB6 hlt, HRN.out⟩, bx_more (HX2).out HB6⟩
    · have hkb : ((k : Int) != 6) = true := by rw [bne_iff_ne]; omega
      cases b with
      | false =>
        have hnot : ¬ (k ≠ 6 ∧ worB (atB S q : Int) = true) := fun hh => by rw [hb0] at hh; exact absurd hh.2 (by decide)
        have HRES := Lib.hid (show anT (aloR S (.ok k x n pp q)) = .tuple #[tokV k x n pp, spotV 0 0] by rw [alo_no hnot]; rfl)
        have HRN := Lib.hid (show ∀ m, anQ (aloR S (.ok k x n pp q)) = some m → q = m by rw [alo_no hnot]; exact fun m hm => Option.some.inj hm)
        clear hnot hk6
        unfold anT tokV spotV
        go_wp2_with fail
        refine (HN.out q _ HD2.out).mono ?_
        rintro e3 w3 ⟨rfl, hb3⟩
        have HA3 := Lib.hid (Blk.below HA2.out hb3 (Blk.lt HA2.out))
        have HB3 := Lib.hid (Blk.below HB2.out hb3 (Blk.lt HB2.out))
        have HH3 := Lib.hid (Blk.below HH2.out hb3 (Blk.lt HH2.out))
        have HD3 := Lib.hid (rd_step HD2.out hb3)
        have HX3 := Lib.hid (bx_later HX2.out hb3)
        clear hb3 s0 s1 t0 t1 t2 t3
        obtain ⟨t0, t1, t2, t3⟩ := cell4b HH3.out
        go_wp2_with fail
        refine (HWB.out _ _).mono ?_
        rintro e4 w4 ⟨rfl, rfl⟩
        rw [hb0]
        obtain ⟨d0, d1, d2, d3⟩ := cell2b HB3.out
        obtain ⟨b0, b1, b2, b3⟩ := cell4b HA3.out
        have e0 := (HA3.out).frozen 0
        have e1 := (HA3.out).frozen 1
        have e2 := (HA3.out).frozen 2
        have e3 := (HA3.out).frozen 3
        go_wp2
        obtain ⟨hA, hB⟩ := two_set HA3.out HB3.out (by omega) (.int .u8 k) (.string x) (.int .u64 n) (.int .i64 pp) (.int .i64 0) (.int .i64 0)
        have HB6 := two_below (g := w.heap.size) (h := w.heap.size + 1) (Below.refl w.heap.size w3) (Nat.le_refl _) (Nat.le_succ _) (.int .u8 k) (.string x) (.int .u64 n) (.int .i64 pp) (.int .i64 0) (.int .i64 0)
        clear t0 t1 t2 t3 d0 d1 d2 d3 b0 b1 b2 b3 e0 e1 e2 e3
        obtain ⟨d0, d1, _, _⟩ := cell2b hB
        obtain ⟨c0, c1, c2, c3⟩ := cell4b hA
        exact bodyPost_ret (v := .tuple #[tokV k x n pp, spotV 0 0]) (by simp [results, Tryz.results16, go_sem, c0, c1, c2, c3, d0, d1, tokV, spotV]) rfl ⟨by rw [HRES.out], ⟨_, Blk.below (HD3).out HB6 hlt, HRN.out⟩, bx_more (HX3).out HB6⟩
      | true =>
        have hyes : k ≠ 6 ∧ worB (atB S q : Int) = true := ⟨hk6, hb0⟩
        have HRES := Lib.hid (show anT (aloR S (.ok k x n pp q)) = .tuple #[tokV 0 ⟨#[]⟩ 0 0, spotV 6 q] by rw [alo_yes hyes]; rfl)
        have HRN := Lib.hid (show ∀ m, anQ (aloR S (.ok k x n pp q)) = some m → q = m by rw [alo_yes hyes]; intro m hm; cases hm)
        clear hyes hk6
        unfold anT tokV spotV
        go_wp2_with fail
        refine (HN.out q _ HD2.out).mono ?_
        rintro e3 w3 ⟨rfl, hb3⟩
        have HA3 := Lib.hid (Blk.below HA2.out hb3 (Blk.lt HA2.out))
        have HB3 := Lib.hid (Blk.below HB2.out hb3 (Blk.lt HB2.out))
        have HH3 := Lib.hid (Blk.below HH2.out hb3 (Blk.lt HH2.out))
        have HD3 := Lib.hid (rd_step HD2.out hb3)
        have HX3 := Lib.hid (bx_later HX2.out hb3)
        clear hb3 s0 s1 t0 t1 t2 t3
        go_wp2_with fail
        refine (HWB.out _ _).mono ?_
        rintro e4 w4 ⟨rfl, rfl⟩
        rw [hb0]
        obtain ⟨c0, c1, f0, f1⟩ := rd_cells HD3.out
        go_wp2_with fail
        refine (wrong_any 6 q _).mono ?_
        rintro e w9 ⟨rfl, hb9⟩
        have HA9 := Lib.hid (Blk.below HA3.out hb9 (Blk.lt HA3.out))
        have HB9 := Lib.hid (Blk.below HB3.out hb9 (Blk.lt HB3.out))
        have HD9 := Lib.hid (rd_step HD3.out hb9)
        have HX9 := Lib.hid (bx_later HX3.out hb9)
        clear hb9
        obtain ⟨d0, d1, d2, d3⟩ := cell2b HB9.out
        obtain ⟨b0, b1, b2, b3⟩ := cell4b HA9.out
        have e0 := (HA9.out).frozen 0
        have e1 := (HA9.out).frozen 1
        have e2 := (HA9.out).frozen 2
        have e3 := (HA9.out).frozen 3
        unfold tokV spotV
        go_wp2
        obtain ⟨hA, hB⟩ := two_set HA9.out HB9.out (by omega) (.int .u8 0) (.string ⟨#[]⟩) (.int .u64 0) (.int .i64 0) (.int .i64 6) (.int .i64 q)
        have HB6 := two_below (g := w.heap.size) (h := w.heap.size + 1) (Below.refl w.heap.size w9) (Nat.le_refl _) (Nat.le_succ _) (.int .u8 0) (.string ⟨#[]⟩) (.int .u64 0) (.int .i64 0) (.int .i64 6) (.int .i64 q)
        clear d0 d1 d2 d3 b0 b1 b2 b3 e0 e1 e2 e3
        obtain ⟨d0, d1, _, _⟩ := cell2b hB
        obtain ⟨c0, c1, c2, c3⟩ := cell4b hA
        exact bodyPost_ret (v := .tuple #[tokV 0 ⟨#[]⟩ 0 0, spotV 6 q]) (by simp [results, Tryz.results16, go_sem, c0, c1, c2, c3, d0, d1, tokV, spotV]) rfl ⟨by rw [HRES.out], ⟨_, Blk.below (HD9).out HB6 hlt, HRN.out⟩, bx_more (HX9).out HB6⟩
set_option maxRecDepth 100000 in
set_option maxHeartbeats 8000000 in
theorem alone_sign (g : Nat) (S : ByteArray) (p : Nat) (A : An) (w : World) (h : Rd w g S p) (hT : Tb w) (hEr : Er w) (hA : ∀ e q, A = .bad e q → e ≠ 0) (hK : ∀ W, Rd W g S p → Tb W → Er W → Calls Tryz.prog 50 #[.pointer (some ⟨g, 0, none⟩)] W (Tk S g A W)) :
    Calls Tryz.prog 16 #[.pointer (some ⟨g, 0, none⟩), .func (.func 50) #[.pointer (some ⟨g, 0, none⟩)] #[]] w (Tk S g (aloR S A) w) := by
  have HK := Lib.hid hK
  clear hK
  have hlt := Blk.lt h
  have hne : w.heap.size ≠ g := by omega
  have hne2 : w.heap.size + 1 ≠ g := by omega
  have HW := Lib.hid (bj13 (one_alloc (w := w) (o := tokA)) (one_alloc (o := spotA)))
  have HD := Lib.hid (rd_step h HW.out)
  have HT := Lib.hid (tb_step hT HW.out)
  have HER := Lib.hid (er_step hEr HW.out)
  obtain ⟨hA2, hB⟩ := two_blk w (.int .u8 0) (.string ⟨#[]⟩) (.int .u64 0) (.int .i64 0) (.int .i64 0) (.int .i64 0) 34 29
  have HA := Lib.hid hA2
  have HB := Lib.hid hB
  have HN := Lib.hid (fun q W hr => next_any g S q W hr)
  have HWB := Lib.hid lwor_any
  clear hA2 hB h hT hEr
  unfold Tk
  cases A with
  | bad e q0 =>
    have he0 : ((e : Int) != 0) = true := by rw [bne_iff_ne]; have := hA e q0 rfl; omega
    have HRES := Lib.hid (show anT (aloR S (.bad e q0)) = .tuple #[tokV 0 ⟨#[]⟩ 0 0, spotV e q0] from rfl)
    clear hA
    go_enter Tryz.func16, Tryz.ntmps16
    go_wp2_with fail
    refine (HK.out _ HD.out HT.out HER.out).mono ?_
    rintro e2 w1 ⟨rfl, ⟨q, hr, hq⟩, hb⟩
    have HD1 := Lib.hid hr
    have HRN := Lib.hid (show ∀ m, anQ (aloR S (.bad e q0)) = some m → q = m from fun m hm => by cases hm)
    have HA1 := Lib.hid (bx_blk HA.out hb hne)
    have HB1 := Lib.hid (bx_blk HB.out hb hne2)
    have HX1 := Lib.hid (bx_trans (bx_of HW.out rfl) hb)
    have hsz : w.heap.size + 2 ≤ w1.heap.size := by have := (HB1.out).lt; omega
    clear hr hb hq HD HT HER HK HA HB HW
    obtain ⟨h2, k2⟩ := two_blk w1 (.int .u8 0) (.string ⟨#[]⟩) (.int .u64 0) (.int .i64 0) (.int .i64 e) (.int .i64 q0) 34 29
    have HBB := bj13 (one_alloc (w := w1) (o := .cells #[.int .u8 0, .string ⟨#[]⟩, .int .u64 0, .int .i64 0] 34)) (one_alloc (o := .cells #[.int .i64 e, .int .i64 q0] 29))
    have HA2 := Lib.hid (Blk.below HA1.out HBB (Blk.lt HA1.out))
    have HB2 := Lib.hid (Blk.below HB1.out HBB (Blk.lt HB1.out))
    have HD2 := Lib.hid (rd_step HD1.out HBB)
    have HX2 := Lib.hid (bx_later HX1.out HBB)
    have HA2d := Lib.hid (Blk.drew HA2.out)
    have HB2d := Lib.hid (Blk.drew HB2.out)
    have HD2d := Lib.hid (rd_drew HD2.out)
    have HX2d := Lib.hid (bx_drew HX2.out)
    have k2d := Blk.drew k2
    obtain ⟨s0, s1, _, _⟩ := cell2b k2
    obtain ⟨s2, s3, _, _⟩ := cell2b k2d
    clear HBB h2 k2 k2d
    obtain ⟨d0, d1, d2, d3⟩ := cell2b HB2d.out
    obtain ⟨b0, b1, b2, b3⟩ := cell4b HA2d.out
    have e0 := (HA2d.out).frozen 0
    have e1 := (HA2d.out).frozen 1
    have e2 := (HA2d.out).frozen 2
    have e3 := (HA2d.out).frozen 3
    obtain ⟨j0, j1, j2, j3⟩ := cell2b HB2.out
    obtain ⟨m0, m1, m2, m3⟩ := cell4b HA2.out
    have n0 := (HA2.out).frozen 0
    have n1 := (HA2.out).frozen 1
    have n2 := (HA2.out).frozen 2
    have n3 := (HA2.out).frozen 3
    unfold anT tokV spotV
    go_wp2_with fail
    go_region
    all_goals
      go_wp2
      obtain ⟨hA, hB⟩ := two_set HA2.out HB2.out (by omega) (.int .u8 0) (.string ⟨#[]⟩) (.int .u64 0) (.int .i64 0) (.int .i64 e) (.int .i64 q0)
      have HB6 := Below.drew (two_below (g := w.heap.size) (h := w.heap.size + 1) (Below.refl w.heap.size (((w1.alloc (.cells #[.int .u8 0, .string ⟨#[]⟩, .int .u64 0, .int .i64 0] 34)).alloc (.cells #[.int .i64 e, .int .i64 q0] 29)))) (Nat.le_refl _) (Nat.le_succ _) (.int .u8 0) (.string ⟨#[]⟩) (.int .u64 0) (.int .i64 0) (.int .i64 e) (.int .i64 q0))
      have HF1 := Blk.below HD2.out HB6 hlt
      have HF2 := bx_more HX2.out HB6
      have HF := Lib.hid (And.intro HF1 HF2)
      have hA := Blk.drew hA
      have hB := Blk.drew hB
      clear d0 d1 d2 d3 b0 b1 b2 b3 e0 e1 e2 e3 s0 s1 s2 s3 j0 j1 j2 j3 m0 m1 m2 m3 n0 n1 n2 n3 HF1 HF2 HB6
      obtain ⟨d0, d1, _, _⟩ := cell2b hB
      obtain ⟨c0, c1, c2, c3⟩ := cell4b hA
      refine bodyPost_ret (v := .tuple #[tokV 0 ⟨#[]⟩ 0 0, spotV e q0]) ?_ rfl ?_
      · simp [results, Tryz.results16, go_sem, c0, c1, c2, c3, d0, d1, tokV, spotV]
      · exact ⟨by rw [HRES.out], ⟨_, HF.out.1, HRN.out⟩, HF.out.2⟩
  | ok k x n pp q0 =>
    obtain ⟨b, hb0⟩ : ∃ b, worB (atB S q0 : Int) = b := ⟨_, rfl⟩
    clear hA
    go_enter Tryz.func16, Tryz.ntmps16
    go_wp2_with fail
    refine (HK.out _ HD.out HT.out HER.out).mono ?_
    rintro e2 w1 ⟨rfl, ⟨q, hr, hq⟩, hb⟩
    obtain rfl : q = q0 := hq q0 rfl
    have HD1 := Lib.hid hr
    have HA1 := Lib.hid (bx_blk HA.out hb hne)
    have HB1 := Lib.hid (bx_blk HB.out hb hne2)
    have HX1 := Lib.hid (bx_trans (bx_of HW.out rfl) hb)
    have hsz : w.heap.size + 2 ≤ w1.heap.size := by have := (HB1.out).lt; omega
    clear hr hb hq HD HT HER HK HA HB HW
    obtain ⟨h2, k2⟩ := two_blk w1 (.int .u8 k) (.string x) (.int .u64 n) (.int .i64 pp) (.int .i64 0) (.int .i64 0) 34 29
    have HBB := bj13 (one_alloc (w := w1) (o := .cells #[.int .u8 k, .string x, .int .u64 n, .int .i64 pp] 34)) (one_alloc (o := .cells #[.int .i64 0, .int .i64 0] 29))
    have HA2 := Lib.hid (Blk.below HA1.out HBB (Blk.lt HA1.out))
    have HB2 := Lib.hid (Blk.below HB1.out HBB (Blk.lt HB1.out))
    have HD2 := Lib.hid (rd_step HD1.out HBB)
    have HX2 := Lib.hid (bx_later HX1.out HBB)
    obtain ⟨s0, s1, _, _⟩ := cell2b k2
    obtain ⟨t0, t1, t2, t3⟩ := cell4b h2
    have HH2 := Lib.hid h2
    clear HBB k2 h2
    by_cases hk6 : k = 6
    · have hkb : ((k : Int) != 6) = false := by rw [hk6]; rfl
      have hnot : ¬ (k ≠ 6 ∧ worB (atB S q : Int) = true) := fun hh => hh.1 hk6
      have HRES := Lib.hid (show anT (aloR S (.ok k x n pp q)) = .tuple #[tokV k x n pp, spotV 0 0] by rw [alo_no hnot]; rfl)
      have HRN := Lib.hid (show ∀ m, anQ (aloR S (.ok k x n pp q)) = some m → q = m by rw [alo_no hnot]; exact fun m hm => Option.some.inj hm)
      clear hnot hk6 hb0
      obtain ⟨d0, d1, d2, d3⟩ := cell2b HB2.out
      obtain ⟨b0, b1, b2, b3⟩ := cell4b HA2.out
      have e0 := (HA2.out).frozen 0
      have e1 := (HA2.out).frozen 1
      have e2 := (HA2.out).frozen 2
      have e3 := (HA2.out).frozen 3
      unfold anT tokV spotV
      go_wp2
      obtain ⟨hA, hB⟩ := two_set HA2.out HB2.out (by omega) (.int .u8 k) (.string x) (.int .u64 n) (.int .i64 pp) (.int .i64 0) (.int .i64 0)
      have HB6 := two_below (g := w.heap.size) (h := w.heap.size + 1) (Below.refl w.heap.size ((w1.alloc (.cells #[.int .u8 k, .string x, .int .u64 n, .int .i64 pp] 34)).alloc (.cells #[.int .i64 0, .int .i64 0] 29))) (Nat.le_refl _) (Nat.le_succ _) (.int .u8 k) (.string x) (.int .u64 n) (.int .i64 pp) (.int .i64 0) (.int .i64 0)
      clear s0 s1 t0 t1 t2 t3 d0 d1 d2 d3 b0 b1 b2 b3 e0 e1 e2 e3
      obtain ⟨d0, d1, _, _⟩ := cell2b hB
      obtain ⟨c0, c1, c2, c3⟩ := cell4b hA
      exact bodyPost_ret (v := .tuple #[tokV k x n pp, spotV 0 0]) (by simp [results, Tryz.results16, go_sem, c0, c1, c2, c3, d0, d1, tokV, spotV]) rfl ⟨by rw [HRES.out], ⟨_, Blk.below (HD2).out HB6 hlt, HRN.out⟩, bx_more (HX2).out HB6⟩
    · have hkb : ((k : Int) != 6) = true := by rw [bne_iff_ne]; omega
      cases b with
      | false =>
        have hnot : ¬ (k ≠ 6 ∧ worB (atB S q : Int) = true) := fun hh => by rw [hb0] at hh; exact absurd hh.2 (by decide)
        have HRES := Lib.hid (show anT (aloR S (.ok k x n pp q)) = .tuple #[tokV k x n pp, spotV 0 0] by rw [alo_no hnot]; rfl)
        have HRN := Lib.hid (show ∀ m, anQ (aloR S (.ok k x n pp q)) = some m → q = m by rw [alo_no hnot]; exact fun m hm => Option.some.inj hm)
        clear hnot hk6
        unfold anT tokV spotV
        go_wp2_with fail
        refine (HN.out q _ HD2.out).mono ?_
        rintro e3 w3 ⟨rfl, hb3⟩
        have HA3 := Lib.hid (Blk.below HA2.out hb3 (Blk.lt HA2.out))
        have HB3 := Lib.hid (Blk.below HB2.out hb3 (Blk.lt HB2.out))
        have HH3 := Lib.hid (Blk.below HH2.out hb3 (Blk.lt HH2.out))
        have HD3 := Lib.hid (rd_step HD2.out hb3)
        have HX3 := Lib.hid (bx_later HX2.out hb3)
        clear hb3 s0 s1 t0 t1 t2 t3
        obtain ⟨t0, t1, t2, t3⟩ := cell4b HH3.out
        go_wp2_with fail
        refine (HWB.out _ _).mono ?_
        rintro e4 w4 ⟨rfl, rfl⟩
        rw [hb0]
        obtain ⟨d0, d1, d2, d3⟩ := cell2b HB3.out
        obtain ⟨b0, b1, b2, b3⟩ := cell4b HA3.out
        have e0 := (HA3.out).frozen 0
        have e1 := (HA3.out).frozen 1
        have e2 := (HA3.out).frozen 2
        have e3 := (HA3.out).frozen 3
        go_wp2
        obtain ⟨hA, hB⟩ := two_set HA3.out HB3.out (by omega) (.int .u8 k) (.string x) (.int .u64 n) (.int .i64 pp) (.int .i64 0) (.int .i64 0)
        have HB6 := two_below (g := w.heap.size) (h := w.heap.size + 1) (Below.refl w.heap.size w3) (Nat.le_refl _) (Nat.le_succ _) (.int .u8 k) (.string x) (.int .u64 n) (.int .i64 pp) (.int .i64 0) (.int .i64 0)
        clear t0 t1 t2 t3 d0 d1 d2 d3 b0 b1 b2 b3 e0 e1 e2 e3
        obtain ⟨d0, d1, _, _⟩ := cell2b hB
        obtain ⟨c0, c1, c2, c3⟩ := cell4b hA
        exact bodyPost_ret (v := .tuple #[tokV k x n pp, spotV 0 0]) (by simp [results, Tryz.results16, go_sem, c0, c1, c2, c3, d0, d1, tokV, spotV]) rfl ⟨by rw [HRES.out], ⟨_, Blk.below (HD3).out HB6 hlt, HRN.out⟩, bx_more (HX3).out HB6⟩
      | true =>
        have hyes : k ≠ 6 ∧ worB (atB S q : Int) = true := ⟨hk6, hb0⟩
        have HRES := Lib.hid (show anT (aloR S (.ok k x n pp q)) = .tuple #[tokV 0 ⟨#[]⟩ 0 0, spotV 6 q] by rw [alo_yes hyes]; rfl)
        have HRN := Lib.hid (show ∀ m, anQ (aloR S (.ok k x n pp q)) = some m → q = m by rw [alo_yes hyes]; intro m hm; cases hm)
        clear hyes hk6
        unfold anT tokV spotV
        go_wp2_with fail
        refine (HN.out q _ HD2.out).mono ?_
        rintro e3 w3 ⟨rfl, hb3⟩
        have HA3 := Lib.hid (Blk.below HA2.out hb3 (Blk.lt HA2.out))
        have HB3 := Lib.hid (Blk.below HB2.out hb3 (Blk.lt HB2.out))
        have HH3 := Lib.hid (Blk.below HH2.out hb3 (Blk.lt HH2.out))
        have HD3 := Lib.hid (rd_step HD2.out hb3)
        have HX3 := Lib.hid (bx_later HX2.out hb3)
        clear hb3 s0 s1 t0 t1 t2 t3
        go_wp2_with fail
        refine (HWB.out _ _).mono ?_
        rintro e4 w4 ⟨rfl, rfl⟩
        rw [hb0]
        obtain ⟨c0, c1, f0, f1⟩ := rd_cells HD3.out
        go_wp2_with fail
        refine (wrong_any 6 q _).mono ?_
        rintro e w9 ⟨rfl, hb9⟩
        have HA9 := Lib.hid (Blk.below HA3.out hb9 (Blk.lt HA3.out))
        have HB9 := Lib.hid (Blk.below HB3.out hb9 (Blk.lt HB3.out))
        have HD9 := Lib.hid (rd_step HD3.out hb9)
        have HX9 := Lib.hid (bx_later HX3.out hb9)
        clear hb9
        obtain ⟨d0, d1, d2, d3⟩ := cell2b HB9.out
        obtain ⟨b0, b1, b2, b3⟩ := cell4b HA9.out
        have e0 := (HA9.out).frozen 0
        have e1 := (HA9.out).frozen 1
        have e2 := (HA9.out).frozen 2
        have e3 := (HA9.out).frozen 3
        unfold tokV spotV
        go_wp2
        obtain ⟨hA, hB⟩ := two_set HA9.out HB9.out (by omega) (.int .u8 0) (.string ⟨#[]⟩) (.int .u64 0) (.int .i64 0) (.int .i64 6) (.int .i64 q)
        have HB6 := two_below (g := w.heap.size) (h := w.heap.size + 1) (Below.refl w.heap.size w9) (Nat.le_refl _) (Nat.le_succ _) (.int .u8 0) (.string ⟨#[]⟩) (.int .u64 0) (.int .i64 0) (.int .i64 6) (.int .i64 q)
        clear d0 d1 d2 d3 b0 b1 b2 b3 e0 e1 e2 e3
        obtain ⟨d0, d1, _, _⟩ := cell2b hB
        obtain ⟨c0, c1, c2, c3⟩ := cell4b hA
        exact bodyPost_ret (v := .tuple #[tokV 0 ⟨#[]⟩ 0 0, spotV 6 q]) (by simp [results, Tryz.results16, go_sem, c0, c1, c2, c3, d0, d1, tokV, spotV]) rfl ⟨by rw [HRES.out], ⟨_, Blk.below (HD9).out HB6 hlt, HRN.out⟩, bx_more (HX9).out HB6⟩
end Go.Proofs.YtibnmkjabpoppaaGreatDoor
