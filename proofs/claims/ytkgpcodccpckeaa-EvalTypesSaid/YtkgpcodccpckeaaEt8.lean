/- ref15.Type of any expression. Conditions: how it lies in memory. -/
import Derived.Test.YtkgpcodccpckeaaEt7
namespace Go.Proofs.Ytkgpcodccpckeaa
open Go Go.RowKit
set_option linter.unusedVariables false
set_option linter.unusedSimpArgs false
theorem bx_row {w W W' : World} {x : Ex} {row : Option Nat} (h : Bx w x W) (hg : W.grownBy W' row) (hr : ∀ z, row = some z → w.heap.size + 1 ≤ z) : Bx w x W' := by
  obtain ⟨h1, h2⟩ := h
  have := h1.lt
  exact ⟨h1.grown hg (fun e => by have := hr _ e.symm; omega), h2.grown hg (by omega) (fun z e => by have := hr _ e; omega)⟩
set_option maxRecDepth 100000 in
set_option maxHeartbeats 16000000 in
theorem rt_low (op : Int) (v : Val) (tb nm : ByteArray) (n : Int) (A : Option Addr) (m c : Nat) (ks : List XT) (cols : List Int) (CA : Option Addr) (cn cc : Nat) (g : Bool) (w : World) (hop : 3 ≤ op) (hop2 : op < 20) (hm : m = ks.length) (hm2 : m ≤ 2) (hmz : m = 0 → op = 20) (hm12 : 12 ≤ op → op ≤ 17 → m = 2) (hK : Kids w w.heap.size A (ks.map XT.ex))
    (HM : Hid (∀ W : World, Below w.heap.size w W → Calls Try.prog 36 #[exV ⟨op, v, tb, nm, n, A, m, c⟩, .int .i64 cn, .int .i64 2] W fun e w' => e = .returned (.bool true) ∧ Below W.heap.size W w'))
    (hk : ∀ (j : Nat) x, ks[j]? = some x → ∀ W, Below w.heap.size w W → Calls Try.prog 23 #[exV x.ex, .slice CA cn cc, .bool g] W fun e w' => e = .returned (.tuple #[.int .u8 (kindP cols x g).1, .int .i64 (kindP cols x g).2]) ∧ Below W.heap.size W w') :
    Calls Try.prog 23 #[exV ⟨op, v, tb, nm, n, A, m, c⟩, .slice CA cn cc, .bool g] w fun e w' => e = .returned (.tuple #[.int .u8 (kindF op (kindL cols ks g)).1, .int .i64 (kindF op (kindL cols ks g)).2]) ∧ Below w.heap.size w w' := by
  obtain ⟨vk, vn, vs⟩ := v
  have HB := Lib.hid (bx_new w ⟨op, (vk, vn, vs), tb, nm, n, A, m, c⟩)
  have HK := Lib.hid hk
  have HKI := Lib.hid hK
  have HN := Lib.hid (And.intro hm hm2)
  have HZ := Lib.hid (And.intro hmz hm12)
  have HOP := Lib.hid (show 3 ≤ op ∧ op ≤ 23 by omega)
  have e1 := beq_no (a := op) (b := 1) (by omega)
  have e2 := beq_no (a := op) (b := 2) (by omega)
  have d20 : decide (20 ≤ op) = false := decide_eq_false (by omega)
  have hmI : (m : Int) ≤ 2 := by omega
  obtain ⟨iv, hv1, hv2, hv3, hv4⟩ := info_parts (show (Try.prog.info? 5).map (fun i => (i.zero, i.size, i.bytes)) = some (some (.int .u8 0), 1, 1) by kernel_rfl)
  obtain ⟨R, hR⟩ : ∃ R, kindL cols ks g = R := ⟨_, rfl⟩
  have HR := Lib.hid hR
  rw [hR]
  clear hk hK hm hm2 hmz hm12 hop hop2 hR
  go_enter Try.func23, Try.ntmps23
  go_wp2_with fail
  refine (HM.out _ HB.out.2).mono ?_
  rintro e w2 ⟨rfl, hb2⟩
  have HB2 := Lib.hid (bx_below HB.out hb2)
  obtain ⟨c0, c1, c2, c3, c4, c5, c6, c7⟩ := bx_cells (bx_below HB.out hb2)
  clear hb2 HM HB
  have HS2 := Lib.hid (show w.heap.size + 1 ≤ w2.heap.size by have := HB2.out.1.lt; omega)
  go_wp2
  go_loopw [8, 9] (fun lv i wr => ∃ (j : Nat) (K : List Int), j ≤ m ∧ i = .int .i64 j ∧ K.length = j ∧ wr.ownsRow (w.heap.size + 1) 5 1 lv j (u8L K) ∧ R = (K ++ (kindL cols (ks.drop j) g).1, (kindL cols (ks.drop j) g).2) ∧ Bx w ⟨op, (vk, vn, vs), tb, nm, n, A, m, c⟩ wr) (fun _ i _ => m - (intOf i).toNat)
  case atStart => exact ⟨0, [], by omega, rfl, rfl, World.ownsRow_nil _ _ _ _, by rw [← HR.out]; rfl, HB2.out⟩
  case round =>
    clear HB2 c0 c1 c2 c3 c4 c5 c6 c7 HR
    obtain ⟨j, K, hj, rfl, hKl, hown, heq, hb⟩ := hrel
    obtain ⟨c0, c1, c2, c3, c4, c5, c6, c7⟩ := bx_cells hb
    have HKL := Lib.hid hKl
    have HO := Lib.hid hown
    have HBW := Lib.hid hb
    have HQ := Lib.hid heq
    clear hKl hown hb heq
    by_cases hjm : j < m
    · have hjl : j < ks.length := by have := HN.out.1; omega
      have hjx : (ks.map XT.ex)[j]? = some ks[j].ex := by rw [List.getElem?_map, List.getElem?_eq_getElem hjl]; rfl
      obtain ⟨b, o, rfl, hbl, hc⟩ := kids_get HKI.out (fun e => by rw [e] at hjx; simp at hjx)
      obtain ⟨a0, a1, a2, a3, a4, a5, a6, a7⟩ := cells8_below (hc j _ hjx) HBW.out.2 hbl
      have hkc := HK.out j ks[j] (List.getElem?_eq_getElem hjl)
      have hd : ks.drop j = ks[j] :: ks.drop (j + 1) := List.drop_eq_getElem_cons hjl
      have heq := HQ.out
      rw [hd, kindL] at heq
      generalize ks[j] = y at *
      obtain ⟨yo, ⟨y1, y2, y3⟩, yt, yn, yN, yA, yc, yk⟩ := y
      simp only [XT.ex] at a0 a1 a2 a3 a4 a5 a6 a7
      generalize hkk : kindP cols (XT.mk yo (y1, y2, y3) yt yn yN yA yc yk) g = r at *
      obtain ⟨r1, r2⟩ := r
      have HKC := Lib.hid hkc
      clear hkc hd hjx hbl hc hkk HQ
      by_cases hr : r2 = 0
      · subst hr
        have HQ2 := Lib.hid (show R = ((K ++ [r1]) ++ (kindL cols (ks.drop (j + 1)) g).1, (kindL cols (ks.drop (j + 1)) g).2) by rw [heq, if_neg (by simp)]; simp)
        clear heq
        go_wp2_with fail
        refine (HKC.out _ HBW.out.2).mono ?_
        rintro e w5 ⟨rfl, hb5⟩
        have HO5 := Lib.hid (own_stepK (own_stepK HO.out hb5) (one_alloc (o := .cells #[.int .u8 r1] 5)))
        have HB5 := Lib.hid (bx_below (bx_below HBW.out hb5) (one_alloc (o := .cells #[.int .u8 r1] 5)))
        have HBS : Hid (w.heap.size + 1 ≤ (w5.alloc (.cells #[.int .u8 r1] 5)).heap.size) := Lib.hid (by have := HB5.out.1.lt; omega)
        have hrd := readsK w5 (.int .u8 r1)
        have hKj := HKL.out
        clear hb5 HKC HO HBW c0 c1 c2 c3 c4 c5 c6 c7
        go_wp2_with (at_builtin; refine wpList_append_any _ rfl (.tmp 57) (.tmp 59) 44 rfl (w.heap.size + 1) 5 iv _ 1 1 Try.underlying44 hv1 hv2 hv3 hv4 rfl (by omega) _ j (u8L K) rfl HO5.out (w5.heap.size + 1) (some ⟨w5.heap.size, 0, none⟩) 1 1 [.int .u8 r1] rfl hrd (by intro u hu; simp at hu; subst hu; rfl) (by simp only [maxLen]; omega) (by omega) HBS.out ?_; intro v1 w6 hown1 hg1 hat1; (have HB6 := Lib.hid (bx_row HB5.out hg1 (fun z hz => (HO5.out.lt z hz).1))); (have HO6 : Hid (w6.ownsRow (w.heap.size + 1) 5 1 v1 (j + 1) (u8L (K ++ [r1]))) := Lib.hid (by simpa [u8L] using hown1)); clear hown1 hg1 hat1 hrd)
        go_roundw
        case rel => exact ⟨j + 1, K ++ [r1], by omega, by go_num, by simp [hKj], HO6.out, HQ2.out, HB6.out⟩
        case measure => simp [intOf]; omega
      · have hrb : (r2 != 0) = true := by simp [bne, hr]
        have HQ2 := Lib.hid (show kindF op R = (0, r2) by rw [heq, if_pos hr]; unfold kindF; rw [if_pos hr])
        clear heq
        go_wp2_with fail
        refine (HKC.out _ HBW.out.2).mono ?_
        rintro e w5 ⟨rfl, hb5⟩
        have HB5 := Lib.hid (bx_below HBW.out hb5)
        clear hb5 HKC hr
        go_wp2
        go_ret2
        exact ⟨by rw [HQ2.out]; rfl, HB5.out.2⟩
    · obtain rfl : j = m := by omega
      have HQ2 := Lib.hid (show R = (K, 0) by rw [HQ.out, List.drop_of_length_le (by have := HN.out.1; omega)]; simp [kindL])
      obtain ⟨A1, c1', hv, hU⟩ := u8s_own HO.out HKL.out.symm
      subst hv
      have HU := Lib.hid hU
      have HFT := Lib.hid (fit_any op A1 K j c1' wr HOP.out.1 HOP.out.2 hU HKL.out.symm (by have := HN.out.2; omega) (fun a b => by rw [HKL.out]; exact HZ.out.2 a b) (by
        rcases Nat.eq_zero_or_pos j with h | h
        · exact .inl (HZ.out.1 h)
        · exact .inr (fun e => by have := HKL.out; rw [e] at this; simp at this; omega)))
      rw [fit_tog op K HOP.out (fun a b => by rw [HKL.out]; exact HZ.out.2 a b)] at HFT
      clear hU HQ HO
      cases ht : togA op K
      · rw [ht] at HFT
        have HF := Lib.hid (show kindF op R = (0, 150) by rw [HQ2.out]; unfold kindF; rw [if_neg (by simp)]; simp only [ht]; rfl)
        clear ht
        go_wp2_with fail
        refine HFT.out.mono ?_
        rintro e w5 ⟨rfl, hb5⟩
        have HB5 := Lib.hid (bx_below HBW.out hb5)
        clear hb5
        go_wp2
        go_ret2
        exact ⟨by rw [HF.out]; rfl, HB5.out.2⟩
      · rw [ht] at HFT
        by_cases h11 : op = 11
        · have HF := Lib.hid (show kindF op R = (2, 0) by rw [HQ2.out]; unfold kindF; rw [if_neg (by simp)]; simp only [ht]; rw [if_neg (by simp), if_pos h11])
          have b1 : (op == 11) = true := by simp [h11]
          clear ht h11
          go_wp2_with fail
          refine HFT.out.mono ?_
          rintro e w5 ⟨rfl, hb5⟩
          have HB5 := Lib.hid (bx_below HBW.out hb5)
          obtain ⟨c0, c1, c2, c3, c4, c5, c6, c7⟩ := bx_cells (bx_below HBW.out hb5)
          clear hb5
          go_wp2
          go_ret2
          exact ⟨by rw [HF.out]; rfl, HB5.out.2⟩
        have b1 := beq_no h11
        by_cases h22 : 22 ≤ op
        · have hj0 : 0 < j := by
            rcases Nat.eq_zero_or_pos j with h | h
            · have := HZ.out.1 h; omega
            · exact h
          obtain ⟨k0, K', rfl⟩ : ∃ k0 K', K = k0 :: K' := by
            cases K with
            | nil => have := HKL.out; simp at this; omega
            | cons a l => exact ⟨a, l, rfl⟩
          have HF := Lib.hid (show kindF op R = (k0, 0) by rw [HQ2.out]; unfold kindF; rw [if_neg (by simp)]; simp only [ht]; rw [if_neg (by simp), if_neg h11, if_pos h22]; rfl)
          have b2 : decide (22 ≤ op) = true := decide_eq_true h22
          obtain ⟨b, o, rfl, hbl, hcc⟩ := u8s_get HU.out (by simp)
          have hk0 := hcc 0 k0 rfl
          have HK0 := Lib.hid (And.intro hbl hk0)
          have hj0I : (0 : Int) < j := by omega
          clear ht h11 h22 hcc hbl hk0
          go_wp2_with fail
          refine HFT.out.mono ?_
          rintro e w5 ⟨rfl, hb5⟩
          have HB5 := Lib.hid (bx_below HBW.out hb5)
          obtain ⟨c0, c1, c2, c3, c4, c5, c6, c7⟩ := bx_cells (bx_below HBW.out hb5)
          have hk0 := (hb5.cell (p := ⟨b, o + 0, none⟩) HK0.out.1).trans HK0.out.2
          rw [Nat.add_zero] at hk0
          clear hb5
          go_wp2
          go_ret2
          exact ⟨by rw [HF.out]; rfl, HB5.out.2⟩
        have b2 : decide (22 ≤ op) = false := decide_eq_false h22
        have HF := Lib.hid (show kindF op R = (1, 0) by rw [HQ2.out]; unfold kindF; rw [if_neg (by simp)]; simp only [ht]; rw [if_neg (by simp), if_neg h11, if_neg h22])
        clear ht h11 h22
        go_wp2_with fail
        refine HFT.out.mono ?_
        rintro e w5 ⟨rfl, hb5⟩
        have HB5 := Lib.hid (bx_below HBW.out hb5)
        obtain ⟨c0, c1, c2, c3, c4, c5, c6, c7⟩ := bx_cells (bx_below HBW.out hb5)
        clear hb5
        go_wp2
        go_ret2
        exact ⟨by rw [HF.out]; rfl, HB5.out.2⟩
set_option maxRecDepth 100000 in
set_option maxHeartbeats 16000000 in
theorem rt_grp (op : Int) (v : Val) (tb nm : ByteArray) (n : Int) (A : Option Addr) (m c : Nat) (ks : List XT) (cols : List Int) (CA : Option Addr) (cn cc : Nat) (g : Bool) (w : World) (hop : 20 ≤ op) (hop2 : op ≤ 23) (hm : m = ks.length) (hm2 : m ≤ 2) (hmz : m = 0 → op = 20) (hm12 : 12 ≤ op → op ≤ 17 → m = 2) (hK : Kids w w.heap.size A (ks.map XT.ex))
    (HM : Hid (∀ W : World, Below w.heap.size w W → Calls Try.prog 36 #[exV ⟨op, v, tb, nm, n, A, m, c⟩, .int .i64 cn, .int .i64 2] W fun e w' => e = .returned (.bool true) ∧ Below W.heap.size W w'))
    (hk : ∀ (j : Nat) x, ks[j]? = some x → ∀ W, Below w.heap.size w W → Calls Try.prog 23 #[exV x.ex, .slice CA cn cc, .bool false] W fun e w' => e = .returned (.tuple #[.int .u8 (kindP cols x false).1, .int .i64 (kindP cols x false).2]) ∧ Below W.heap.size W w') :
    Calls Try.prog 23 #[exV ⟨op, v, tb, nm, n, A, m, c⟩, .slice CA cn cc, .bool true] w fun e w' => e = .returned (.tuple #[.int .u8 (kindF op (kindL cols ks false)).1, .int .i64 (kindF op (kindL cols ks false)).2]) ∧ Below w.heap.size w w' := by
  obtain ⟨vk, vn, vs⟩ := v
  have HB := Lib.hid (bx_new w ⟨op, (vk, vn, vs), tb, nm, n, A, m, c⟩)
  have HK := Lib.hid hk
  have HKI := Lib.hid hK
  have HN := Lib.hid (And.intro hm hm2)
  have HZ := Lib.hid (And.intro hmz hm12)
  have HOP := Lib.hid (show 3 ≤ op ∧ op ≤ 23 by omega)
  have e1 := beq_no (a := op) (b := 1) (by omega)
  have e2 := beq_no (a := op) (b := 2) (by omega)
  have d20 : decide (20 ≤ op) = true := decide_eq_true (by omega)
  have hmI : (m : Int) ≤ 2 := by omega
  obtain ⟨iv, hv1, hv2, hv3, hv4⟩ := info_parts (show (Try.prog.info? 5).map (fun i => (i.zero, i.size, i.bytes)) = some (some (.int .u8 0), 1, 1) by kernel_rfl)
  obtain ⟨R, hR⟩ : ∃ R, kindL cols ks false = R := ⟨_, rfl⟩
  have HR := Lib.hid hR
  rw [hR]
  clear hk hK hm hm2 hmz hm12 hop hop2 hR
  go_enter Try.func23, Try.ntmps23
  go_wp2_with fail
  refine (HM.out _ HB.out.2).mono ?_
  rintro e w2 ⟨rfl, hb2⟩
  have HB2 := Lib.hid (bx_below HB.out hb2)
  obtain ⟨c0, c1, c2, c3, c4, c5, c6, c7⟩ := bx_cells (bx_below HB.out hb2)
  clear hb2 HM HB
  have HS2 := Lib.hid (show w.heap.size + 1 ≤ w2.heap.size by have := HB2.out.1.lt; omega)
  go_wp2
  go_loopw [8, 9] (fun lv i wr => ∃ (j : Nat) (K : List Int), j ≤ m ∧ i = .int .i64 j ∧ K.length = j ∧ wr.ownsRow (w.heap.size + 1) 5 1 lv j (u8L K) ∧ R = (K ++ (kindL cols (ks.drop j) false).1, (kindL cols (ks.drop j) false).2) ∧ Bx w ⟨op, (vk, vn, vs), tb, nm, n, A, m, c⟩ wr) (fun _ i _ => m - (intOf i).toNat)
  case atStart => exact ⟨0, [], by omega, rfl, rfl, World.ownsRow_nil _ _ _ _, by rw [← HR.out]; rfl, HB2.out⟩
  case round =>
    clear HB2 c0 c1 c2 c3 c4 c5 c6 c7 HR
    obtain ⟨j, K, hj, rfl, hKl, hown, heq, hb⟩ := hrel
    obtain ⟨c0, c1, c2, c3, c4, c5, c6, c7⟩ := bx_cells hb
    have HKL := Lib.hid hKl
    have HO := Lib.hid hown
    have HBW := Lib.hid hb
    have HQ := Lib.hid heq
    clear hKl hown hb heq
    by_cases hjm : j < m
    · have hjl : j < ks.length := by have := HN.out.1; omega
      have hjx : (ks.map XT.ex)[j]? = some ks[j].ex := by rw [List.getElem?_map, List.getElem?_eq_getElem hjl]; rfl
      obtain ⟨b, o, rfl, hbl, hc⟩ := kids_get HKI.out (fun e => by rw [e] at hjx; simp at hjx)
      obtain ⟨a0, a1, a2, a3, a4, a5, a6, a7⟩ := cells8_below (hc j _ hjx) HBW.out.2 hbl
      have hkc := HK.out j ks[j] (List.getElem?_eq_getElem hjl)
      have hd : ks.drop j = ks[j] :: ks.drop (j + 1) := List.drop_eq_getElem_cons hjl
      have heq := HQ.out
      rw [hd, kindL] at heq
      generalize ks[j] = y at *
      obtain ⟨yo, ⟨y1, y2, y3⟩, yt, yn, yN, yA, yc, yk⟩ := y
      simp only [XT.ex] at a0 a1 a2 a3 a4 a5 a6 a7
      generalize hkk : kindP cols (XT.mk yo (y1, y2, y3) yt yn yN yA yc yk) false = r at *
      obtain ⟨r1, r2⟩ := r
      have HKC := Lib.hid hkc
      clear hkc hd hjx hbl hc hkk HQ
      by_cases hr : r2 = 0
      · subst hr
        have HQ2 := Lib.hid (show R = ((K ++ [r1]) ++ (kindL cols (ks.drop (j + 1)) false).1, (kindL cols (ks.drop (j + 1)) false).2) by rw [heq, if_neg (by simp)]; simp)
        clear heq
        go_wp2_with fail
        refine (HKC.out _ HBW.out.2).mono ?_
        rintro e w5 ⟨rfl, hb5⟩
        have HO5 := Lib.hid (own_stepK (own_stepK HO.out hb5) (one_alloc (o := .cells #[.int .u8 r1] 5)))
        have HB5 := Lib.hid (bx_below (bx_below HBW.out hb5) (one_alloc (o := .cells #[.int .u8 r1] 5)))
        have HBS : Hid (w.heap.size + 1 ≤ (w5.alloc (.cells #[.int .u8 r1] 5)).heap.size) := Lib.hid (by have := HB5.out.1.lt; omega)
        have hrd := readsK w5 (.int .u8 r1)
        have hKj := HKL.out
        clear hb5 HKC HO HBW c0 c1 c2 c3 c4 c5 c6 c7
        go_wp2_with (at_builtin; refine wpList_append_any _ rfl (.tmp 57) (.tmp 59) 44 rfl (w.heap.size + 1) 5 iv _ 1 1 Try.underlying44 hv1 hv2 hv3 hv4 rfl (by omega) _ j (u8L K) rfl HO5.out (w5.heap.size + 1) (some ⟨w5.heap.size, 0, none⟩) 1 1 [.int .u8 r1] rfl hrd (by intro u hu; simp at hu; subst hu; rfl) (by simp only [maxLen]; omega) (by omega) HBS.out ?_; intro v1 w6 hown1 hg1 hat1; (have HB6 := Lib.hid (bx_row HB5.out hg1 (fun z hz => (HO5.out.lt z hz).1))); (have HO6 : Hid (w6.ownsRow (w.heap.size + 1) 5 1 v1 (j + 1) (u8L (K ++ [r1]))) := Lib.hid (by simpa [u8L] using hown1)); clear hown1 hg1 hat1 hrd)
        go_roundw
        case rel => exact ⟨j + 1, K ++ [r1], by omega, by go_num, by simp [hKj], HO6.out, HQ2.out, HB6.out⟩
        case measure => simp [intOf]; omega
      · have hrb : (r2 != 0) = true := by simp [bne, hr]
        have HQ2 := Lib.hid (show kindF op R = (0, r2) by rw [heq, if_pos hr]; unfold kindF; rw [if_pos hr])
        clear heq
        go_wp2_with fail
        refine (HKC.out _ HBW.out.2).mono ?_
        rintro e w5 ⟨rfl, hb5⟩
        have HB5 := Lib.hid (bx_below HBW.out hb5)
        clear hb5 HKC hr
        go_wp2
        go_ret2
        exact ⟨by rw [HQ2.out]; rfl, HB5.out.2⟩
    · obtain rfl : j = m := by omega
      have HQ2 := Lib.hid (show R = (K, 0) by rw [HQ.out, List.drop_of_length_le (by have := HN.out.1; omega)]; simp [kindL])
      obtain ⟨A1, c1', hv, hU⟩ := u8s_own HO.out HKL.out.symm
      subst hv
      have HU := Lib.hid hU
      have HFT := Lib.hid (fit_any op A1 K j c1' wr HOP.out.1 HOP.out.2 hU HKL.out.symm (by have := HN.out.2; omega) (fun a b => by rw [HKL.out]; exact HZ.out.2 a b) (by
        rcases Nat.eq_zero_or_pos j with h | h
        · exact .inl (HZ.out.1 h)
        · exact .inr (fun e => by have := HKL.out; rw [e] at this; simp at this; omega)))
      rw [fit_tog op K HOP.out (fun a b => by rw [HKL.out]; exact HZ.out.2 a b)] at HFT
      clear hU HQ HO
      cases ht : togA op K
      · rw [ht] at HFT
        have HF := Lib.hid (show kindF op R = (0, 150) by rw [HQ2.out]; unfold kindF; rw [if_neg (by simp)]; simp only [ht]; rfl)
        clear ht
        go_wp2_with fail
        refine HFT.out.mono ?_
        rintro e w5 ⟨rfl, hb5⟩
        have HB5 := Lib.hid (bx_below HBW.out hb5)
        clear hb5
        go_wp2
        go_ret2
        exact ⟨by rw [HF.out]; rfl, HB5.out.2⟩
      · rw [ht] at HFT
        by_cases h11 : op = 11
        · have HF := Lib.hid (show kindF op R = (2, 0) by rw [HQ2.out]; unfold kindF; rw [if_neg (by simp)]; simp only [ht]; rw [if_neg (by simp), if_pos h11])
          have b1 : (op == 11) = true := by simp [h11]
          clear ht h11
          go_wp2_with fail
          refine HFT.out.mono ?_
          rintro e w5 ⟨rfl, hb5⟩
          have HB5 := Lib.hid (bx_below HBW.out hb5)
          obtain ⟨c0, c1, c2, c3, c4, c5, c6, c7⟩ := bx_cells (bx_below HBW.out hb5)
          clear hb5
          go_wp2
          go_ret2
          exact ⟨by rw [HF.out]; rfl, HB5.out.2⟩
        have b1 := beq_no h11
        by_cases h22 : 22 ≤ op
        · have hj0 : 0 < j := by
            rcases Nat.eq_zero_or_pos j with h | h
            · have := HZ.out.1 h; omega
            · exact h
          obtain ⟨k0, K', rfl⟩ : ∃ k0 K', K = k0 :: K' := by
            cases K with
            | nil => have := HKL.out; simp at this; omega
            | cons a l => exact ⟨a, l, rfl⟩
          have HF := Lib.hid (show kindF op R = (k0, 0) by rw [HQ2.out]; unfold kindF; rw [if_neg (by simp)]; simp only [ht]; rw [if_neg (by simp), if_neg h11, if_pos h22]; rfl)
          have b2 : decide (22 ≤ op) = true := decide_eq_true h22
          obtain ⟨b, o, rfl, hbl, hcc⟩ := u8s_get HU.out (by simp)
          have hk0 := hcc 0 k0 rfl
          have HK0 := Lib.hid (And.intro hbl hk0)
          have hj0I : (0 : Int) < j := by omega
          clear ht h11 h22 hcc hbl hk0
          go_wp2_with fail
          refine HFT.out.mono ?_
          rintro e w5 ⟨rfl, hb5⟩
          have HB5 := Lib.hid (bx_below HBW.out hb5)
          obtain ⟨c0, c1, c2, c3, c4, c5, c6, c7⟩ := bx_cells (bx_below HBW.out hb5)
          have hk0 := (hb5.cell (p := ⟨b, o + 0, none⟩) HK0.out.1).trans HK0.out.2
          rw [Nat.add_zero] at hk0
          clear hb5
          go_wp2
          go_ret2
          exact ⟨by rw [HF.out]; rfl, HB5.out.2⟩
        have b2 : decide (22 ≤ op) = false := decide_eq_false h22
        have HF := Lib.hid (show kindF op R = (1, 0) by rw [HQ2.out]; unfold kindF; rw [if_neg (by simp)]; simp only [ht]; rw [if_neg (by simp), if_neg h11, if_neg h22])
        clear ht h11 h22
        go_wp2_with fail
        refine HFT.out.mono ?_
        rintro e w5 ⟨rfl, hb5⟩
        have HB5 := Lib.hid (bx_below HBW.out hb5)
        obtain ⟨c0, c1, c2, c3, c4, c5, c6, c7⟩ := bx_cells (bx_below HBW.out hb5)
        clear hb5
        go_wp2
        go_ret2
        exact ⟨by rw [HF.out]; rfl, HB5.out.2⟩
def rtP (cols : List Int) (T : XT) (g : Bool) : Int × Int := if mayR cols.length T 2 = true then kindP cols T g else (0, 2)
theorem allR_map (k g : Int) : ∀ l : List XT, mayRL k l g = (l.map fun x => mayR k x g).all id
  | [] => rfl
  | x :: l => by rw [mayRL, List.map_cons, List.all_cons, allR_map k g l]; rfl
/-- ref15's Type, of any expression -/
theorem rtype_tree (cols : List Int) (CA : Option Addr) (cn cc : Nat) (hn : cn = cols.length) (T : XT) : ∀ (w : World) (g : Bool), InT w w.heap.size T → U8s w w.heap.size CA cols →
    Calls Try.prog 23 #[exV T.ex, .slice CA cn cc, .bool g] w fun e w' => e = .returned (.tuple #[.int .u8 (rtP cols T g).1, .int .i64 (rtP cols T g).2]) ∧ Below w.heap.size w w' := by
  induction T using xt_ind with
  | h op v tb nm n A c ks ih =>
    intro w g hin hV
    have hmc := fun (W : World) (hb : Below w.heap.size w W) => rmay_tree cn (.mk op v tb nm n A c ks) W 2 (int_step hin hb)
    cases hin with
    | mk _ _ _ _ _ _ _ _ h0 h1 h2 h3 h4 hk hi =>
    show Calls Try.prog 23 #[exV ⟨op, v, tb, nm, n, A, ks.length, c⟩, .slice CA cn cc, .bool g] w _
    unfold rtP
    rw [← hn]
    cases hM : mayR cn (.mk op v tb nm n A c ks) 2
    · rw [hM] at hmc
      rw [if_neg (by simp)]
      exact rt_no op v tb nm n A ks.length c CA cn cc g w (Lib.hid hmc)
    rw [hM] at hmc
    rw [if_pos rfl]
    rw [mayR, Bool.and_eq_true] at hM
    obtain ⟨hH, hL⟩ := hM
    have hop := mayRh_op hH
    have hgg : (if 20 ≤ op ∧ (2 : Int) = 1 then (0 : Int) else 2) = 2 := if_neg (by omega)
    rw [hgg, allR_map] at hL
    rw [kindP]
    by_cases o1 : op = 1
    · subst o1
      rw [if_pos rfl]
      exact rt_leaf v tb nm n A ks.length c CA cn cc g w (Lib.hid hmc)
    rw [if_neg o1]
    by_cases o2 : op = 2
    · subst o2
      rw [if_pos rfl]
      have hr : ks.length = 0 ∧ 0 ≤ n ∧ n < cn := by unfold mayRh at hH; simpa using hH
      obtain ⟨p, hp⟩ : ∃ p : Nat, (p : Int) = n := ⟨n.toNat, by omega⟩
      have hpl : p < cols.length := by omega
      obtain ⟨b, o, hA, hbl, hc⟩ := u8s_get hV (fun e => by rw [e] at hpl; simp at hpl)
      have hx := hc p cols[p] (List.getElem?_eq_getElem hpl)
      have e : cols.getD n.toNat 0 = cols[p] := by rw [← hp, Int.toNat_natCast, List.getD_eq_getElem?_getD, List.getElem?_eq_getElem hpl]; rfl
      rw [e]
      exact rt_col v tb nm n A ks.length c CA cn cc g w p hp (by omega) cols[p] b o hA hbl hx (Lib.hid hmc)
    rw [if_neg o2]
    have hgr : groupedB op = decide (20 ≤ op) := by unfold groupedB; simp; intro; omega
    by_cases og : (groupedB op && !g) = true
    · rw [if_pos og]
      rw [Bool.and_eq_true, hgr] at og
      obtain rfl : g = false := by simpa using og.2
      exact rt_group op v tb nm n A ks.length c CA cn cc false w (of_decide_eq_true og.1) rfl (Lib.hid hmc)
    rw [if_neg og]
    have hlen : ks.length ≤ 2 ∧ (ks.length = 0 → op = 20) ∧ (12 ≤ op → op ≤ 17 → ks.length = 2) := by
      unfold mayRh at hH
      rw [if_neg o1, if_neg o2] at hH
      repeat' split at hH
      all_goals
        simp at hH
      all_goals omega
    have IH : ∀ g1 (j : Nat) x, ks[j]? = some x → ∀ W, Below w.heap.size w W → Calls Try.prog 23 #[exV x.ex, .slice CA cn cc, .bool g1] W fun e w' => e = .returned (.tuple #[.int .u8 (kindP cols x g1).1, .int .i64 (kindP cols x g1).2]) ∧ Below W.heap.size W w' := by
      intro g1 j x hx W hW
      have hm := List.mem_of_getElem? hx
      have hxm : mayR cn x 2 = true := List.all_eq_true.1 hL (mayR cn x 2) (List.mem_map_of_mem hm)
      have := ih x hm W g1 (int_step (hi x hm) hW) (u8s_step hV hW)
      rwa [show rtP cols x g1 = kindP cols x g1 by unfold rtP; rw [← hn, if_pos hxm]] at this
    by_cases o20 : 20 ≤ op
    · have hg : groupedB op = true := by rw [hgr]; exact decide_eq_true o20
      rw [hg] at og ⊢
      obtain rfl : g = true := by cases g <;> simp_all
      exact rt_grp op v tb nm n A ks.length c ks cols CA cn cc true w o20 hop.2 rfl hlen.1 hlen.2.1 hlen.2.2 hk (Lib.hid hmc) (IH false)
    · have hg : groupedB op = false := by rw [hgr]; exact decide_eq_false o20
      rw [hg]
      exact rt_low op v tb nm n A ks.length c ks cols CA cn cc g w (by omega) (by omega) rfl hlen.1 hlen.2.1 hlen.2.2 hk (Lib.hid hmc) (IH g)
end Go.Proofs.Ytkgpcodccpckeaa
