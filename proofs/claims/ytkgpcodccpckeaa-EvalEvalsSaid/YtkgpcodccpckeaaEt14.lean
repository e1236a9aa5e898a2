/- ref15.do of any op and values. Conditions: how they lie in memory; the op has as many kids as it wants. -/
import Derived.Test.YtkgpcodccpckeaaEt13
import Derived.Test.YtkgpcodccpckeaaEt10
import Derived.Test.YtkgpcodccpckeaaEt7
import Derived.Test.YtkgpcodccpckeaaEv21
namespace Go.Proofs.Ytkgpcodccpckeaa
open Go Go.RowKit
set_option linter.unusedVariables false
set_option linter.unusedSimpArgs false
def zeroB (v : Val) : Bool := v.1 == 1 && v.2.1 == 0
theorem any_snoc (f : Val → Bool) (l : List Val) (j : Nat) (x : Val) (hx : l[j]? = some x) : (l.take (j + 1)).any f = ((l.take j).any f || f x) := by
  rw [List.take_add_one, hx]
  simp
theorem kinds_snoc (l : List Val) (j : Nat) (x : Val) (hx : l[j]? = some x) : u8L ((l.take (j + 1)).map (·.1)) = u8L ((l.take j).map (·.1)) ++ [.int .u8 x.1] := by
  rw [List.take_add_one, hx]
  simp [u8L]
theorem yes_true (w : World) : Calls Try.prog 74 #[.bool true] w fun e w' => e = .returned (valV (truthV true)) ∧ Below w.heap.size w w' := by
  have HA := Lib.hid (Blk.new w 23 #[.int .u8 0, .int .i64 0, .string ⟨#[]⟩])
  obtain ⟨c0, c1, c2, f0, f1, f2⟩ := cell3 HA.out
  go_enter Try.func74, Try.ntmps74
  go_wp2_with fail
  refine (whole_any _ _).mono ?_
  rintro e w3 ⟨rfl, hb3⟩
  have HA3 := Lib.hid (blk_step HA.out hb3)
  obtain ⟨c0, c1, c2, f0, f1, f2⟩ := cell3 HA3.out
  have HB := Lib.hid (bj one_alloc hb3)
  clear hb3
  go_wp2
  obtain ⟨e0, e1, e2, _, _, _⟩ := cell3 (blk3_set HA3.out (.int .u8 1) (.int .i64 1) (.string ⟨#[]⟩))
  exact bodyPost_ret (v := .agg #[.int .u8 1, .int .i64 1, .string ⟨#[]⟩]) (by simp [results, Try.results74, go_sem, e0, e1, e2]) rfl ⟨rfl, below3_set HB.out _ _ _⟩
theorem yes_false (w : World) : Calls Try.prog 74 #[.bool false] w fun e w' => e = .returned (valV (truthV false)) ∧ Below w.heap.size w w' := by
  have HA := Lib.hid (Blk.new w 23 #[.int .u8 0, .int .i64 0, .string ⟨#[]⟩])
  obtain ⟨c0, c1, c2, f0, f1, f2⟩ := cell3 HA.out
  go_enter Try.func74, Try.ntmps74
  go_wp2_with fail
  refine (whole_any _ _).mono ?_
  rintro e w3 ⟨rfl, hb3⟩
  have HA3 := Lib.hid (blk_step HA.out hb3)
  obtain ⟨c0, c1, c2, f0, f1, f2⟩ := cell3 HA3.out
  have HB := Lib.hid (bj one_alloc hb3)
  clear hb3
  go_wp2
  obtain ⟨e0, e1, e2, _, _, _⟩ := cell3 (blk3_set HA3.out (.int .u8 1) (.int .i64 0) (.string ⟨#[]⟩))
  exact bodyPost_ret (v := .agg #[.int .u8 1, .int .i64 0, .string ⟨#[]⟩]) (by simp [results, Try.results74, go_sem, e0, e1, e2]) rfl ⟨rfl, below3_set HB.out _ _ _⟩
theorem yes_any (b : Bool) (w : World) : Calls Try.prog 74 #[.bool b] w fun e w' => e = .returned (valV (truthV b)) ∧ Below w.heap.size w w' := by
  cases b
  · exact yes_false w
  · exact yes_true w
/-- one kid's kind, or two: as the other one's nought would have it -/
theorem tog_1 (op k : Int) (h1 : 3 ≤ op) (h2 : op ≤ 5) : togA op [k] = togB op [k, 0] := by
  unfold togA togB
  rw [if_neg (by omega)]
  by_cases h5 : op = 5
  · rw [if_pos h5, if_pos h5]
  · have hc : comparesB op = false := by unfold comparesB; simp; intro; omega
    rw [if_neg h5, if_neg h5, if_neg (show ¬ op = 11 by omega), if_neg (show ¬ op = 11 by omega), hc]
    simp [onlyB]
theorem tog_2 (op k k' : Int) (h1 : 6 ≤ op) (h2 : op ≤ 19) : togA op [k, k'] = togB op [k, k'] := by
  unfold togA
  rw [if_neg (by omega)]
theorem logic18 (a b : Val) (ha : a.1 = 0 ∨ a.1 = 1) (hb : b.1 = 0 ∨ b.1 = 1) : logicZ 18 a b = if (zeroB a || zeroB b) = true then truthV false else if (nullV a || nullV b) = true then (0, 0, ⟨#[]⟩) else truthV true := by
  obtain ⟨k, q, s⟩ := a
  obtain ⟨k', q', s'⟩ := b
  simp only at ha hb
  rcases ha with rfl | rfl <;> rcases hb with rfl | rfl <;> simp [logicZ, zeroB, nullV, trueB]
theorem logic19 (a b : Val) (ha : a.1 = 0 ∨ a.1 = 1) (hb : b.1 = 0 ∨ b.1 = 1) : logicZ 19 a b = if (trueB a || trueB b) = true then truthV true else if (nullV a || nullV b) = true then (0, 0, ⟨#[]⟩) else truthV false := by
  obtain ⟨k, q, s⟩ := a
  obtain ⟨k', q', s'⟩ := b
  simp only at ha hb
  rcases ha with rfl | rfl <;> rcases hb with rfl | rfl <;> simp [logicZ, zeroB, nullV, trueB]
set_option maxRecDepth 100000 in
set_option maxHeartbeats 16000000 in
theorem do_any (op : Int) (l : List Val) (b o m c : Nat) (w : World) (h1 : 3 ≤ op) (h2 : op ≤ 19) (hm : m = l.length) (hm1 : m = 1 ∨ m = 2) (hop1 : op ≤ 5 → m = 1) (hop2 : 6 ≤ op → m = 2) (hV : Vals w w.heap.size (some ⟨b, o, none⟩) l) (hl : ∀ x ∈ l, Vk x) :
    Calls Try.prog 55 #[.int .u8 op, .slice (some ⟨b, o, none⟩) m c] w fun e w' => e = .returned (.tuple #[valV (doK op m (l.getD 0 zV) (l.getD 1 zV)).1, .int .i64 (doK op m (l.getD 0 zV) (l.getD 1 zV)).2]) ∧ Below w.heap.size w w' := by
  obtain ⟨b', o', hA, hbl, hc⟩ := vals_get hV (fun e => by rw [e] at hm; simp at hm; omega)
  obtain ⟨rfl, rfl⟩ : b = b' ∧ o = o' := by simpa using hA
  obtain ⟨y1, y2, y3, ye, hZ⟩ : ∃ y1 y2 y3 ye, doK op m (l.getD 0 zV) (l.getD 1 zV) = ((y1, y2, y3), ye) := ⟨_, _, _, _, rfl⟩
  rw [hZ]
  have HZZ := Lib.hid hZ
  have HC := Lib.hid hc
  have HBL := Lib.hid hbl
  have HN := Lib.hid hm
  have HM := Lib.hid (And.intro hm1 (And.intro hop1 hop2))
  have HOP := Lib.hid (And.intro h1 h2)
  have HVK := Lib.hid hl
  have hmI : (m : Int) ≤ 2 := by omega
  have HST := Lib.hid (dn_new w)
  obtain ⟨iv, hv1, hv2, hv3, hv4⟩ := info_parts (show (Try.prog.info? 5).map (fun i => (i.zero, i.size, i.bytes)) = some (some (.int .u8 0), 1, 1) by kernel_rfl)
  clear hZ hA hc hbl hm hm1 hop1 hop2 h1 h2 hl hV
  go_enter Try.func55, Try.ntmps55
  go_upto_block 0 with fail
  go_cut [6, 7, 8, 9] (fun s6 s7 s8 s9 wx => s7 = .bool (l.any nullV) ∧ s8 = .bool (l.any zeroB) ∧ s9 = .bool (l.any trueB) ∧ wx.ownsRow (w.heap.size + 1) 5 1 s6 m (u8L (l.map (·.1))) ∧ Dn w wx)
  case first =>
    go_wp2_with fail
    go_loopw [6, 7, 8, 9, 10] (fun kv nl z on i wr => ∃ (j : Nat) (nb zb ob : Bool), j ≤ m ∧ i = .int .i64 j ∧ nl = .bool nb ∧ z = .bool zb ∧ on = .bool ob ∧ (l.take j).any nullV = nb ∧ (l.take j).any zeroB = zb ∧ (l.take j).any trueB = ob ∧ wr.ownsRow (w.heap.size + 1) 5 1 kv j (u8L ((l.take j).map (·.1))) ∧ Dn w wr) (fun _ _ _ _ i _ => m - (intOf i).toNat)
    case atStart => exact ⟨0, false, false, false, by omega, rfl, rfl, rfl, rfl, rfl, rfl, rfl, World.ownsRow_nil _ _ _ _, HST.out⟩
    case round =>
      clear HST
      obtain ⟨j, nb, zb, ob, hj, rfl, rfl, rfl, rfl, h1, h2, h3, hown, hst⟩ := hrel
      have HST := Lib.hid hst
      have HO0 := Lib.hid hown
      clear hst hown
      by_cases hjm : j < m
      · have hjl : j < l.length := by have := HN.out; omega
        obtain ⟨x0, x1, _⟩ := HC.out j l[j] (List.getElem?_eq_getElem hjl)
        have c0 := (HST.out.2.1.cell (p := ⟨b, o + j * 3, none⟩) HBL.out).trans x0
        have c1 := (HST.out.2.1.cell (p := ⟨b, o + j * 3 + 1, none⟩) HBL.out).trans x1
        have HA1 := Lib.hid (any_snoc nullV l j l[j] (List.getElem?_eq_getElem hjl))
        have HA2 := Lib.hid (any_snoc zeroB l j l[j] (List.getElem?_eq_getElem hjl))
        have HA3 := Lib.hid (any_snoc trueB l j l[j] (List.getElem?_eq_getElem hjl))
        have HKS := Lib.hid (kinds_snoc l j l[j] (List.getElem?_eq_getElem hjl))
        generalize l[j] = y at *
        obtain ⟨k, q, s⟩ := y
        simp only at c0 c1 HKS
        rw [h1] at HA1
        rw [h2] at HA2
        rw [h3] at HA3
        have HO := Lib.hid (own_step1 HO0.out (one_alloc (o := .cells #[.int .u8 k] 5)))
        have HS4 := Lib.hid (dn_step HST.out (one_alloc (o := .cells #[.int .u8 k] 5)))
        have HBS := Lib.hid HS4.out.2.2
        have hrd := readsK wr (.int .u8 k)
        have HCC : Hid (∀ W, Dn w W → W.cell? ⟨b, o + j * 3, none⟩ = some (.int .u8 k) ∧ W.cell? ⟨b, o + j * 3 + 1, none⟩ = some (.int .i64 q)) := Lib.hid fun W h => ⟨(h.2.1.cell (p := ⟨b, o + j * 3, none⟩) HBL.out).trans x0, (h.2.1.cell (p := ⟨b, o + j * 3 + 1, none⟩) HBL.out).trans x1⟩
        clear h1 h2 h3 x0 x1
        cases hk1 : (k == 1)
        all_goals
          have HZ2 := Lib.hid (show zeroB (k, q, s) = ((k == 1) && (q == 0)) from rfl)
          have HZ3 := Lib.hid (show trueB (k, q, s) = ((k == 1) && (q != 0)) from rfl)
          have HZ1 := Lib.hid (show nullV (k, q, s) = (k == 0) from rfl)
          rw [hk1] at HZ2 HZ3
          cases nb
          all_goals
            cases zb
            all_goals
              cases ob
              all_goals
                go_wp2_with (at_builtin; refine wpList_append_any _ rfl (.tmp 18) (.tmp 24) 44 rfl (w.heap.size + 1) 5 iv _ 1 1 Try.underlying44 hv1 hv2 hv3 hv4 rfl (by omega) _ j (u8L ((l.take j).map (·.1))) rfl ?_ (wr.heap.size + 1) (some ⟨wr.heap.size, 0, none⟩) 1 1 [.int .u8 k] rfl ?_ ?_ ?_ ?_ ?_ ?_; exact HO.out; exact hrd; (intro u hu; simp at hu; subst hu; rfl); (simp only [maxLen]; omega); omega; exact HBS.out; intro v1 w4 hown1 hg1 hat1; (have HS5 := Lib.hid (dn_grown HS4.out hg1 (fun z hz => (HO.out.lt z hz).1))); (have HO5 := Lib.hid hown1); (obtain ⟨d0, d1⟩ := HCC.out _ HS5.out); clear hown1 hg1 hat1 hrd)
                go_roundw
                case rel => exact ⟨j + 1, _, _, _, by omega, by go_num, rfl, rfl, rfl, by rw [HA1.out, HZ1.out]; first | rfl | simp, by rw [HA2.out, HZ2.out]; first | rfl | simp, by rw [HA3.out, HZ3.out]; first | rfl | simp, by rw [HKS.out]; exact HO5.out, HS5.out⟩
                case measure => simp only [intOf]; omega
      · obtain rfl : j = m := by omega
        have ht : l.take j = l := List.take_of_length_le (by have := HN.out; omega)
        rw [ht] at h1 h2 h3 HO0
        subst h1 h2 h3
        go_wp2_with fail
        go_meet
        exact ⟨rfl, rfl, rfl, HO0.out, HST.out⟩
  case rest =>
    obtain ⟨rfl, rfl, rfl, hown, hst⟩ := hcut
    obtain ⟨A1, c1', hv, hU⟩ := u8s_own hown (by rw [List.length_map]; exact HN.out)
    subst hv
    have HST2 := Lib.hid hst
    have HL2 : Hid (12 ≤ op → op ≤ 17 → (l.map (·.1)).length = 2) := Lib.hid (fun a b => by rw [List.length_map]; have := HM.out.2.2 (by omega); have := HN.out; omega)
    have HNE : Hid (l.map (·.1) ≠ []) := Lib.hid (fun e => by
      have h := congrArg List.length e
      rw [List.length_map, ← HN.out] at h
      have := HM.out.1
      simp at h
      omega)
    have HFT := Lib.hid (fit_any op A1 (l.map (·.1)) m c1' wc HOP.out.1 (by have := HOP.out.2; omega) hU (by rw [List.length_map]; exact HN.out) (by omega) HL2.out (.inr HNE.out))
    rw [fit_tog op _ ⟨HOP.out.1, by have := HOP.out.2; omega⟩ HL2.out] at HFT
    clear hown hst hU HL2 HNE
    have HYES := Lib.hid yes_any
    rcases HM.out.1 with hm1 | hm1
    · subst hm1
      have hop5 : op ≤ 5 := by
        by_cases h : op ≤ 5
        · exact h
        · have := HM.out.2.2 (by omega); omega
      obtain ⟨a, rfl⟩ : ∃ a, l = [a] := List.length_eq_one_iff.1 HN.out.symm
      obtain ⟨k, q, s⟩ := a
      obtain ⟨x0, x1, _⟩ := HC.out 0 (k, q, s) rfl
      simp only [Nat.zero_mul, Nat.add_zero] at x0 x1
      have hk := HVK.out (k, q, s) (List.mem_singleton.2 rfl)
      rw [show [(k, q, s)].map (·.1) = [k] from rfl, tog_1 op k HOP.out.1 hop5] at HFT
      rw [show [(k, q, s)].any nullV = (k == 0) by simp [nullV], show [(k, q, s)].any zeroB = ((k == 1) && (q == 0)) by simp [zeroB], show [(k, q, s)].any trueB = ((k == 1) && (q != 0)) by simp [trueB]]
      have hz := HZZ.out
      rw [show [(k, q, s)].getD 0 zV = (k, q, s) from rfl, show [(k, q, s)].getD 1 zV = zV from rfl] at hz
      unfold doK doZ at hz
      simp only at hz
      have HK := Lib.hid hk
      have h3 := HOP.out.1
      clear HZZ HC HN HM HVK hk
      have b18 := beq_no (a := op) (b := 18) (by omega)
      have b19 := beq_no (a := op) (b := 19) (by omega)
      cases htg : togB op [k, 0]
      · rw [if_pos htg] at hz
        simp only [Prod.mk.injEq] at hz
        obtain ⟨⟨rfl, rfl, rfl⟩, rfl⟩ := hz
        rw [htg] at HFT
        clear htg hop5 h3
        go_wp2_with fail
        refine HFT.out.mono ?_
        rintro e w5 ⟨rfl, hb5⟩
        have HS5 := Lib.hid (dn_step HST2.out hb5)
        obtain ⟨r0, r1, r2, f0, f1, f2⟩ := cell3 HS5.out.1
        clear hb5
        go_wp2
        obtain ⟨e0, e1, e2, _, _, _⟩ := cell3 (blk3_set HS5.out.1 (.int .u8 0) (.int .i64 0) (.string ⟨#[]⟩))
        exact bodyPost_ret (v := .tuple #[.agg #[.int .u8 0, .int .i64 0, .string ⟨#[]⟩], .int .i64 150]) (by simp [results, Try.results55, go_sem, e0, e1, e2]) rfl ⟨rfl, below3_set HS5.out.2.1 _ _ _⟩
      rw [if_neg (by rw [htg]; simp)] at hz
      rw [htg] at HFT
      by_cases h5 : op = 5
      · subst h5
        rw [if_pos rfl] at hz
        have hz2 : truthV (k == 0) = (y1, y2, y3) ∧ 0 = ye := by simpa [nullV] using hz
        obtain ⟨hz3, rfl⟩ := hz2
        have hy := fun W => HYES.out (k == 0) W
        rw [hz3] at hy
        have HY := Lib.hid hy
        generalize (k == 0) = B0 at *
        clear hz hz3 hy htg hop5 h3 HYES
        go_wp2_with fail
        refine HFT.out.mono ?_
        rintro e w5 ⟨rfl, hb5⟩
        have HS5 := Lib.hid (dn_step HST2.out hb5)
        clear hb5
        go_wp2_with fail
        refine (HY.out _).mono ?_
        rintro e w6 ⟨rfl, hb6⟩
        have HS6 := Lib.hid (dn_step HS5.out hb6)
        obtain ⟨r0, r1, r2, f0, f1, f2⟩ := cell3 HS6.out.1
        clear hb6
        go_wp2
        obtain ⟨e0, e1, e2, _, _, _⟩ := cell3 (blk3_set HS6.out.1 (.int .u8 y1) (.int .i64 y2) (.string y3))
        exact bodyPost_ret (v := .tuple #[.agg #[.int .u8 y1, .int .i64 y2, .string y3], .int .i64 0]) (by simp [results, Try.results55, go_sem, e0, e1, e2]) rfl ⟨rfl, below3_set HS6.out.2.1 _ _ _⟩
      have b5 := beq_no h5
      rw [if_neg h5, if_neg (show ¬ (op = 18 ∨ op = 19) by omega)] at hz
      by_cases hk0 : k = 0
      · have hkb : (k == 0) = true := by simp [hk0]
        rw [if_pos (by simp [nullV, hk0])] at hz
        simp only [Prod.mk.injEq] at hz
        obtain ⟨⟨rfl, rfl, rfl⟩, rfl⟩ := hz
        rw [hkb]
        generalize ((k == 1) && (q == 0)) = B1
        generalize ((k == 1) && (q != 0)) = B2
        clear htg hop5 h3 h5 hk0 hkb
        go_wp2_with fail
        refine HFT.out.mono ?_
        rintro e w5 ⟨rfl, hb5⟩
        have HS5 := Lib.hid (dn_step HST2.out hb5)
        obtain ⟨r0, r1, r2, f0, f1, f2⟩ := cell3 HS5.out.1
        clear hb5
        go_wp2
        obtain ⟨e0, e1, e2, _, _, _⟩ := cell3 (blk3_set HS5.out.1 (.int .u8 0) (.int .i64 0) (.string ⟨#[]⟩))
        exact bodyPost_ret (v := .tuple #[.agg #[.int .u8 0, .int .i64 0, .string ⟨#[]⟩], .int .i64 0]) (by simp [results, Try.results55, go_sem, e0, e1, e2]) rfl ⟨rfl, below3_set HS5.out.2.1 _ _ _⟩
      have hkb := beq_no hk0
      rw [hkb]
      obtain rfl : k = 1 := by
        have hc : comparesB op = false := by unfold comparesB; simp; intro; omega
        unfold togB at htg
        rw [if_neg h5, if_neg (show ¬ op = 11 by omega), hc] at htg
        simp [onlyB] at htg
        omega
      rw [if_neg (by simp [nullV]), show comparesB op = false by unfold comparesB; simp; intro; omega] at hz
      simp only [Bool.false_eq_true, if_false] at hz
      rw [show (((1 : Int) == 1) && (q == 0)) = (q == 0) by simp, show (((1 : Int) == 1) && (q != 0)) = (q != 0) by simp]
      by_cases h4 : op = 4
      · subst h4
        rw [if_pos rfl, show (!trueB (1, q, s)) = (q == 0) by simp [trueB]; rfl] at hz
        simp only [Prod.mk.injEq] at hz
        obtain ⟨hz3, rfl⟩ := hz
        have hy := fun W => HYES.out (q == 0) W
        rw [hz3] at hy
        have HY := Lib.hid hy
        generalize (q == 0) = B0 at *
        generalize (q != 0) = B2 at *
        clear hz3 hy htg hop5 h3 h5 HYES hk0 hkb b5 b18 b19
        go_wp2_with fail
        refine HFT.out.mono ?_
        rintro e w5 ⟨rfl, hb5⟩
        have HS5 := Lib.hid (dn_step HST2.out hb5)
        clear hb5
        go_wp2_with fail
        refine (HY.out _).mono ?_
        rintro e w6 ⟨rfl, hb6⟩
        have HSX := Lib.hid (dn_step HS5.out hb6)
        clear hb6
        obtain ⟨r0, r1, r2, f0, f1, f2⟩ := cell3 HSX.out.1
        go_wp2
        obtain ⟨e0, e1, e2, _, _, _⟩ := cell3 (blk3_set HSX.out.1 (.int .u8 y1) (.int .i64 y2) (.string y3))
        exact bodyPost_ret (v := .tuple #[.agg #[.int .u8 y1, .int .i64 y2, .string y3], .int .i64 0]) (by simp [results, Try.results55, go_sem, e0, e1, e2]) rfl ⟨rfl, below3_set HSX.out.2.1 _ _ _⟩
      have b4 := beq_no h4
      rw [if_neg h4] at hz
      obtain rfl : op = 3 := by omega
      have hnum := fun W => num15_any 7 0 q (by omega) (by unfold I64; omega) (HK.out.1.2.2) W
      rw [show numZ 7 0 q = ((y1, y2, y3), ye) by rw [← hz]; unfold rzZ numZ; simp] at hnum
      have HNUM := Lib.hid hnum
      generalize (q == 0) = B0 at *
      generalize (q != 0) = B2 at *
      clear hz hnum htg hop5 h3 h5 HYES hk0 hkb b5 b18 b19 b4 h4
      go_wp2_with fail
      refine HFT.out.mono ?_
      rintro e w5 ⟨rfl, hb5⟩
      have HS5 := Lib.hid (dn_step HST2.out hb5)
      clear hb5
      have q1 := (HS5.out.2.1.cell (p := ⟨b, o + 1, none⟩) HBL.out).trans x1
      go_wp2_with fail
      refine (HNUM.out _).mono ?_
      rintro e w6 ⟨rfl, hb6⟩
      have HSX := Lib.hid (dn_step HS5.out hb6)
      clear hb6
      obtain ⟨r0, r1, r2, f0, f1, f2⟩ := cell3 HSX.out.1
      go_wp2
      obtain ⟨e0, e1, e2, _, _, _⟩ := cell3 (blk3_set HSX.out.1 (.int .u8 y1) (.int .i64 y2) (.string y3))
      exact bodyPost_ret (v := .tuple #[.agg #[.int .u8 y1, .int .i64 y2, .string y3], .int .i64 ye]) (by simp [results, Try.results55, go_sem, e0, e1, e2]) rfl ⟨rfl, below3_set HSX.out.2.1 _ _ _⟩
    · subst hm1
      have hop6 : 6 ≤ op := by
        by_cases h : 6 ≤ op
        · exact h
        · have := HM.out.2.1 (by omega); omega
      obtain ⟨va, vb, rfl⟩ : ∃ a b, l = [a, b] := by
        match l, HN.out with
        | [a, b], _ => exact ⟨a, b, rfl⟩
      obtain ⟨x0, x1, x2⟩ := HC.out 0 va rfl
      obtain ⟨x3, x4, x5⟩ := HC.out 1 vb rfl
      simp only [Nat.zero_mul, Nat.add_zero, Nat.one_mul] at x0 x1 x2 x3 x4 x5
      have HKA := Lib.hid (HVK.out va (by simp))
      have HKB := Lib.hid (HVK.out vb (by simp))
      have hop := HOP.out.2
      rw [show [va, vb].map (·.1) = [va.1, vb.1] from rfl, tog_2 op va.1 vb.1 hop6 hop] at HFT
      rw [show [va, vb].any nullV = (nullV va || nullV vb) by simp, show [va, vb].any zeroB = (zeroB va || zeroB vb) by simp, show [va, vb].any trueB = (trueB va || trueB vb) by simp]
      have hz := HZZ.out
      rw [show [va, vb].getD 0 zV = va from rfl, show [va, vb].getD 1 zV = vb from rfl] at hz
      unfold doK doZ at hz
      rw [show ([va, vb].take 2).any nullV = (nullV va || nullV vb) by simp] at hz
      have b5 := beq_no (a := op) (b := 5) (by omega)
      have b4 := beq_no (a := op) (b := 4) (by omega)
      have b3 := beq_no (a := op) (b := 3) (by omega)
      have HX := Lib.hid (show (w.cell? ⟨b, o, none⟩ = some (.int .u8 va.1) ∧ w.cell? ⟨b, o + 1, none⟩ = some (.int .i64 va.2.1) ∧ w.cell? ⟨b, o + 2, none⟩ = some (.string va.2.2)) ∧ w.cell? ⟨b, o + 3, none⟩ = some (.int .u8 vb.1) ∧ w.cell? ⟨b, o + 3 + 1, none⟩ = some (.int .i64 vb.2.1) ∧ w.cell? ⟨b, o + 3 + 2, none⟩ = some (.string vb.2.2) from ⟨⟨x0, x1, x2⟩, x3, x4, x5⟩)
      clear HZZ HC HN HM HVK x0 x1 x2 x3 x4 x5
      cases htg : togB op [va.1, vb.1]
      · rw [if_pos htg] at hz
        simp only [Prod.mk.injEq] at hz
        obtain ⟨⟨rfl, rfl, rfl⟩, rfl⟩ := hz
        rw [htg] at HFT
        generalize (nullV va || nullV vb) = NB at *
        generalize (zeroB va || zeroB vb) = ZB at *
        generalize (trueB va || trueB vb) = OB at *
        clear htg hop hop6
        go_wp2_with fail
        refine HFT.out.mono ?_
        rintro e w5 ⟨rfl, hb5⟩
        have HS5 := Lib.hid (dn_step HST2.out hb5)
        clear hb5
        obtain ⟨r0, r1, r2, f0, f1, f2⟩ := cell3 HS5.out.1
        go_wp2
        obtain ⟨e0, e1, e2, _, _, _⟩ := cell3 (blk3_set HS5.out.1 (.int .u8 0) (.int .i64 0) (.string ⟨#[]⟩))
        exact bodyPost_ret (v := .tuple #[.agg #[.int .u8 0, .int .i64 0, .string ⟨#[]⟩], .int .i64 150]) (by simp [results, Try.results55, go_sem, e0, e1, e2]) rfl ⟨rfl, below3_set HS5.out.2.1 _ _ _⟩
      rw [if_neg (by rw [htg]; simp), if_neg (show ¬ op = 5 by omega)] at hz
      rw [htg] at HFT
      by_cases hlg : op = 18 ∨ op = 19
      · rw [if_pos hlg] at hz
        have hkk : (va.1 = 0 ∨ va.1 = 1) ∧ (vb.1 = 0 ∨ vb.1 = 1) := by
          have hc : comparesB op = false := by unfold comparesB; simp; intro; omega
          unfold togB at htg
          rw [if_neg (show ¬ op = 5 by omega), if_neg (show ¬ op = 11 by omega), hc] at htg
          simp [onlyB] at htg
          omega
        simp only [Prod.mk.injEq] at hz
        obtain ⟨hz, rfl⟩ := hz
        have l18 := logic18 va vb hkk.1 hkk.2
        have l19 := logic19 va vb hkk.1 hkk.2
        generalize (nullV va || nullV vb) = NB at *
        generalize (zeroB va || zeroB vb) = ZB at *
        generalize (trueB va || trueB vb) = OB at *
        rcases hlg with rfl | rfl
        · rw [l18] at hz
          clear l18 l19 hkk htg hop hop6 b5 b4 b3
          cases ZB
          · cases NB
            · simp only [Bool.false_eq_true, if_false] at hz
              have HY := Lib.hid (fun W => by have h := HYES.out true W; rw [hz] at h; exact h)
              clear hz
              go_wp2_with fail
              refine HFT.out.mono ?_
              rintro e w5 ⟨rfl, hb5⟩
              have HS5 := Lib.hid (dn_step HST2.out hb5)
              clear hb5
              go_wp2_with fail
              refine (HY.out _).mono ?_
              rintro e w6 ⟨rfl, hb6⟩
              have HSX := Lib.hid (dn_step HS5.out hb6)
              clear hb6
              obtain ⟨r0, r1, r2, f0, f1, f2⟩ := cell3 HSX.out.1
              go_wp2
              obtain ⟨e0, e1, e2, _, _, _⟩ := cell3 (blk3_set HSX.out.1 (.int .u8 y1) (.int .i64 y2) (.string y3))
              exact bodyPost_ret (v := .tuple #[.agg #[.int .u8 y1, .int .i64 y2, .string y3], .int .i64 0]) (by simp [results, Try.results55, go_sem, e0, e1, e2]) rfl ⟨rfl, below3_set HSX.out.2.1 _ _ _⟩
            · simp only [Bool.false_eq_true, if_true, if_false] at hz
              simp only [Prod.mk.injEq] at hz
              obtain ⟨rfl, rfl, rfl⟩ := hz
              go_wp2_with fail
              refine HFT.out.mono ?_
              rintro e w5 ⟨rfl, hb5⟩
              have HS5 := Lib.hid (dn_step HST2.out hb5)
              clear hb5
              obtain ⟨r0, r1, r2, f0, f1, f2⟩ := cell3 HS5.out.1
              go_wp2
              obtain ⟨e0, e1, e2, _, _, _⟩ := cell3 (blk3_set HS5.out.1 (.int .u8 0) (.int .i64 0) (.string ⟨#[]⟩))
              exact bodyPost_ret (v := .tuple #[.agg #[.int .u8 0, .int .i64 0, .string ⟨#[]⟩], .int .i64 0]) (by simp [results, Try.results55, go_sem, e0, e1, e2]) rfl ⟨rfl, below3_set HS5.out.2.1 _ _ _⟩
          · simp only [if_true] at hz
            have HY := Lib.hid (fun W => by have h := HYES.out false W; rw [hz] at h; exact h)
            clear hz
            go_wp2_with fail
            refine HFT.out.mono ?_
            rintro e w5 ⟨rfl, hb5⟩
            have HS5 := Lib.hid (dn_step HST2.out hb5)
            clear hb5
            go_wp2_with fail
            refine (HY.out _).mono ?_
            rintro e w6 ⟨rfl, hb6⟩
            have HSX := Lib.hid (dn_step HS5.out hb6)
            clear hb6
            obtain ⟨r0, r1, r2, f0, f1, f2⟩ := cell3 HSX.out.1
            go_wp2
            obtain ⟨e0, e1, e2, _, _, _⟩ := cell3 (blk3_set HSX.out.1 (.int .u8 y1) (.int .i64 y2) (.string y3))
            exact bodyPost_ret (v := .tuple #[.agg #[.int .u8 y1, .int .i64 y2, .string y3], .int .i64 0]) (by simp [results, Try.results55, go_sem, e0, e1, e2]) rfl ⟨rfl, below3_set HSX.out.2.1 _ _ _⟩
        · rw [l19] at hz
          clear l18 l19 hkk htg hop hop6 b5 b4 b3
          cases OB
          · cases NB
            · simp only [Bool.false_eq_true, if_false] at hz
              have HY := Lib.hid (fun W => by have h := HYES.out false W; rw [hz] at h; exact h)
              clear hz
              go_wp2_with fail
              refine HFT.out.mono ?_
              rintro e w5 ⟨rfl, hb5⟩
              have HS5 := Lib.hid (dn_step HST2.out hb5)
              clear hb5
              go_wp2_with fail
              refine (HY.out _).mono ?_
              rintro e w6 ⟨rfl, hb6⟩
              have HSX := Lib.hid (dn_step HS5.out hb6)
              clear hb6
              obtain ⟨r0, r1, r2, f0, f1, f2⟩ := cell3 HSX.out.1
              go_wp2
              obtain ⟨e0, e1, e2, _, _, _⟩ := cell3 (blk3_set HSX.out.1 (.int .u8 y1) (.int .i64 y2) (.string y3))
              exact bodyPost_ret (v := .tuple #[.agg #[.int .u8 y1, .int .i64 y2, .string y3], .int .i64 0]) (by simp [results, Try.results55, go_sem, e0, e1, e2]) rfl ⟨rfl, below3_set HSX.out.2.1 _ _ _⟩
            · simp only [Bool.false_eq_true, if_true, if_false] at hz
              simp only [Prod.mk.injEq] at hz
              obtain ⟨rfl, rfl, rfl⟩ := hz
              go_wp2_with fail
              refine HFT.out.mono ?_
              rintro e w5 ⟨rfl, hb5⟩
              have HS5 := Lib.hid (dn_step HST2.out hb5)
              clear hb5
              obtain ⟨r0, r1, r2, f0, f1, f2⟩ := cell3 HS5.out.1
              go_wp2
              obtain ⟨e0, e1, e2, _, _, _⟩ := cell3 (blk3_set HS5.out.1 (.int .u8 0) (.int .i64 0) (.string ⟨#[]⟩))
              exact bodyPost_ret (v := .tuple #[.agg #[.int .u8 0, .int .i64 0, .string ⟨#[]⟩], .int .i64 0]) (by simp [results, Try.results55, go_sem, e0, e1, e2]) rfl ⟨rfl, below3_set HS5.out.2.1 _ _ _⟩
          · simp only [if_true] at hz
            have HY := Lib.hid (fun W => by have h := HYES.out true W; rw [hz] at h; exact h)
            clear hz
            go_wp2_with fail
            refine HFT.out.mono ?_
            rintro e w5 ⟨rfl, hb5⟩
            have HS5 := Lib.hid (dn_step HST2.out hb5)
            clear hb5
            go_wp2_with fail
            refine (HY.out _).mono ?_
            rintro e w6 ⟨rfl, hb6⟩
            have HSX := Lib.hid (dn_step HS5.out hb6)
            clear hb6
            obtain ⟨r0, r1, r2, f0, f1, f2⟩ := cell3 HSX.out.1
            go_wp2
            obtain ⟨e0, e1, e2, _, _, _⟩ := cell3 (blk3_set HSX.out.1 (.int .u8 y1) (.int .i64 y2) (.string y3))
            exact bodyPost_ret (v := .tuple #[.agg #[.int .u8 y1, .int .i64 y2, .string y3], .int .i64 0]) (by simp [results, Try.results55, go_sem, e0, e1, e2]) rfl ⟨rfl, below3_set HSX.out.2.1 _ _ _⟩
      · rw [if_neg hlg] at hz
        have b18 := beq_no (a := op) (b := 18) (by omega)
        have b19 := beq_no (a := op) (b := 19) (by omega)
        generalize (zeroB va || zeroB vb) = ZB at *
        generalize (trueB va || trueB vb) = OB at *
        generalize (nullV va || nullV vb) = NB at *
        cases NB
        case' true =>
          simp only [if_true, Prod.mk.injEq] at hz
          obtain ⟨⟨rfl, rfl, rfl⟩, rfl⟩ := hz
          clear htg hop hop6 hlg
          go_wp2_with fail
          refine HFT.out.mono ?_
          rintro e w5 ⟨rfl, hb5⟩
          have HS5 := Lib.hid (dn_step HST2.out hb5)
          clear hb5
          obtain ⟨r0, r1, r2, f0, f1, f2⟩ := cell3 HS5.out.1
          go_wp2
          obtain ⟨e0, e1, e2, _, _, _⟩ := cell3 (blk3_set HS5.out.1 (.int .u8 0) (.int .i64 0) (.string ⟨#[]⟩))
          exact bodyPost_ret (v := .tuple #[.agg #[.int .u8 0, .int .i64 0, .string ⟨#[]⟩], .int .i64 0]) (by simp [results, Try.results55, go_sem, e0, e1, e2]) rfl ⟨rfl, below3_set HS5.out.2.1 _ _ _⟩
        simp only [Bool.false_eq_true, if_false] at hz
        by_cases h12 : 12 ≤ op
        · have hcb : comparesB op = true := by unfold comparesB; simp; omega
          rw [hcb] at hz
          simp only [if_true, Prod.mk.injEq] at hz
          obtain ⟨hz, rfl⟩ := hz
          have h17 : op ≤ 17 := by omega
          have hcm := fun W => compare_any_big va vb W HKA.out.1 HKA.out.2 HKB.out.1 HKB.out.2
          obtain ⟨va1, va2, va3⟩ := va
          obtain ⟨vb1, vb2, vb3⟩ := vb
          simp only at HX
          generalize valCmp (va1, va2, va3) (vb1, vb2, vb3) = cc at *
          have HCM := Lib.hid hcm
          have HY := Lib.hid (fun W => by have h := HYES.out (holdsB op cc) W; rw [hz] at h; exact h)
          have b11 := beq_no (a := op) (b := 11) (by omega)
          have d12 : decide (12 ≤ op) = true := decide_eq_true h12
          have H17 := Lib.hid (And.intro h12 h17)
          clear hz hcm htg hop hop6 hlg h12 h17 hcb HYES HKA HKB
          go_wp2_with fail
          refine HFT.out.mono ?_
          rintro e w5 ⟨rfl, hb5⟩
          have HSD := Lib.hid (dn_drew (dn_step HST2.out hb5))
          have a0 := (HSD.out.2.1.cell (p := ⟨b, o, none⟩) HBL.out).trans HX.out.1.1
          have a1 := (HSD.out.2.1.cell (p := ⟨b, o + 1, none⟩) HBL.out).trans HX.out.1.2.1
          have a2 := (HSD.out.2.1.cell (p := ⟨b, o + 2, none⟩) HBL.out).trans HX.out.1.2.2
          have a3 := (HSD.out.2.1.cell (p := ⟨b, o + 3, none⟩) HBL.out).trans HX.out.2.1
          have a4 := (HSD.out.2.1.cell (p := ⟨b, o + 3 + 1, none⟩) HBL.out).trans HX.out.2.2.1
          have a5 := (HSD.out.2.1.cell (p := ⟨b, o + 3 + 2, none⟩) HBL.out).trans HX.out.2.2.2
          clear hb5
          go_wp2_with fail
          go_region_with (go_at_call 73; (refine (HCM.out _).mono ?_); rintro e w3 ⟨rfl, hb3⟩)
          all_goals
            have HS3 := Lib.hid (dn_step HSD.out hb3)
            clear hb3 a0 a1 a2 a3 a4 a5
            obtain rfl | rfl | rfl | rfl | rfl | rfl : op = 12 ∨ op = 13 ∨ op = 14 ∨ op = 15 ∨ op = 16 ∨ op = 17 := by have := H17.out; omega
            all_goals
              simp only [holdsB, reduceIte, Int.reduceEq] at HY
              go_wp2_with fail
              refine (HY.out _).mono ?_
              rintro e w6 ⟨rfl, hb6⟩
              have HS6 := Lib.hid (dn_step (dn_step HS3.out one_alloc) hb6)
              obtain ⟨r0, r1, r2, f0, f1, f2⟩ := cell3 HS6.out.1
              clear hb6
              go_wp2
              obtain ⟨e0, e1, e2, _, _, _⟩ := cell3 (blk3_set HS6.out.1 (.int .u8 y1) (.int .i64 y2) (.string y3))
              exact bodyPost_ret (v := .tuple #[.agg #[.int .u8 y1, .int .i64 y2, .string y3], .int .i64 0]) (by simp [results, Try.results55, go_sem, e0, e1, e2]) rfl ⟨rfl, below3_set HS6.out.2.1 _ _ _⟩
        by_cases h11 : op = 11
        · subst h11
          have hc : comparesB 11 = false := rfl
          rw [hc] at hz
          simp only [Bool.false_eq_true, if_false] at hz
          rw [if_neg (show ¬ (11 : Int) = 4 by omega), show rzZ 11 va vb = joinZ va vb from rfl] at hz
          obtain ⟨va1, va2, s⟩ := va
          obtain ⟨vb1, vb2, s'⟩ := vb
          have hs1 := HKA.out.2
          have hs2 := HKB.out.2
          simp only at hs1 hs2 HX
          unfold joinZ at hz
          simp only at hz
          obtain ⟨NN, hNN⟩ : ∃ NN : Nat, s.size + s'.size = NN := ⟨_, rfl⟩
          have hw : IntKind.i64.wrap ((s.size : Int) + s'.size) = (NN : Int) := by rw [IntKind.wrap_i64]; omega
          have k1 : s.size + s'.size ≤ 9223372036854775807 := by omega
          have k2 : (s.size : Int) + s'.size ≤ 9223372036854775807 := by omega
          have k3 : ¬ (9223372036854775807 < s.size + s'.size) := by omega
          rw [hNN] at hz
          by_cases hl : 1000 < NN
          · rw [if_pos hl] at hz
            have hd : decide (1000 < (NN : Int)) = true := decide_eq_true (by omega)
            simp only [Prod.mk.injEq] at hz
            obtain ⟨⟨rfl, rfl, rfl⟩, rfl⟩ := hz
            clear htg hop hop6 hlg h12 hc hs1 hs2 k1 k2 k3 hl hNN
            go_wp2_with fail
            refine HFT.out.mono ?_
            rintro e w5 ⟨rfl, hb5⟩
            have HS5 := Lib.hid (dn_step HST2.out hb5)
            have HSD := Lib.hid (dn_drew (dn_step HST2.out hb5))
            clear hb5
            have q2 := (HSD.out.2.1.cell (p := ⟨b, o + 2, none⟩) HBL.out).trans HX.out.1.2.2
            have q5 := (HSD.out.2.1.cell (p := ⟨b, o + 3 + 2, none⟩) HBL.out).trans HX.out.2.2.2
            obtain ⟨r0, r1, r2, f0, f1, f2⟩ := cell3 HS5.out.1
            go_wp2_with fail
            go_region
            all_goals
              go_wp2
              obtain ⟨e0, e1, e2, _, _, _⟩ := cell3 (blk3_set HS5.out.1 (.int .u8 0) (.int .i64 0) (.string ⟨#[]⟩))
              exact bodyPost_ret (v := .tuple #[.agg #[.int .u8 0, .int .i64 0, .string ⟨#[]⟩], .int .i64 3]) (by simp [results, Try.results55, go_sem, e0, e1, e2]) rfl ⟨rfl, (below3_set HS5.out.2.1 _ _ _).drew⟩
          · rw [if_neg hl] at hz
            have hd : decide (1000 < (NN : Int)) = false := decide_eq_false (by omega)
            simp only [Prod.mk.injEq] at hz
            obtain ⟨⟨rfl, rfl, rfl⟩, rfl⟩ := hz
            clear htg hop hop6 hlg h12 hc hs1 hs2 hl hNN
            go_wp2_with fail
            refine HFT.out.mono ?_
            rintro e w5 ⟨rfl, hb5⟩
            have HS5 := Lib.hid (dn_step HST2.out hb5)
            have HSD := Lib.hid (dn_drew (dn_step HST2.out hb5))
            clear hb5
            have q2 := (HSD.out.2.1.cell (p := ⟨b, o + 2, none⟩) HBL.out).trans HX.out.1.2.2
            have q5 := (HSD.out.2.1.cell (p := ⟨b, o + 3 + 2, none⟩) HBL.out).trans HX.out.2.2.2
            obtain ⟨r0, r1, r2, f0, f1, f2⟩ := cell3 HS5.out.1
            go_wp2_with fail
            go_region
            all_goals
              have HSE := Lib.hid (dn_drew HSD.out)
              clear q2 q5 r0 r1 r2 f0 f1 f2
              have q2 := (HSE.out.2.1.cell (p := ⟨b, o + 2, none⟩) HBL.out).trans HX.out.1.2.2
              have q5 := (HSE.out.2.1.cell (p := ⟨b, o + 3 + 2, none⟩) HBL.out).trans HX.out.2.2.2
              obtain ⟨r0, r1, r2, f0, f1, f2⟩ := cell3 HS5.out.1
              go_wp2_with fail
              go_region
              all_goals
                go_wp2
                obtain ⟨e0, e1, e2, _, _, _⟩ := cell3 (blk3_set HS5.out.1 (.int .u8 2) (.int .i64 0) (.string (s ++ s')))
                exact bodyPost_ret (v := .tuple #[.agg #[.int .u8 2, .int .i64 0, .string (s ++ s')], .int .i64 0]) (by simp [results, Try.results55, go_sem, e0, e1, e2]) rfl ⟨rfl, (below3_set HS5.out.2.1 _ _ _).drew.drew⟩
        have hc : comparesB op = false := by unfold comparesB; simp; intro; omega
        rw [hc] at hz
        simp only [Bool.false_eq_true, if_false] at hz
        rw [if_neg (show ¬ op = 4 by omega), show rzZ op va vb = numZ op va.2.1 vb.2.1 by unfold rzZ; rw [if_neg h11]] at hz
        have b11 := beq_no h11
        have d12 : decide (12 ≤ op) = false := decide_eq_false h12
        have hnum := fun W => num15_any op va.2.1 vb.2.1 (by omega) HKA.out.1.2.2 HKB.out.1.2.2 W
        rw [hz] at hnum
        have HNUM := Lib.hid hnum
        clear hz hnum htg hop hop6 hlg h12 h11 hc
        go_wp2_with fail
        refine HFT.out.mono ?_
        rintro e w5 ⟨rfl, hb5⟩
        have HSD := Lib.hid (dn_drew (dn_step HST2.out hb5))
        have a1 := (HSD.out.2.1.cell (p := ⟨b, o + 1, none⟩) HBL.out).trans HX.out.1.2.1
        have a4 := (HSD.out.2.1.cell (p := ⟨b, o + 3 + 1, none⟩) HBL.out).trans HX.out.2.2.1
        clear hb5
        go_wp2_with fail
        go_region_with (go_at_call 75; (refine (HNUM.out _).mono ?_); rintro e w3 ⟨rfl, hb3⟩; obtain ⟨r0, r1, r2, f0, f1, f2⟩ := cell3 (dn_step HSD.out hb3).1)
        all_goals
          have hs3 := dn_step HSD.out hb3
          go_wp2
          obtain ⟨e0, e1, e2, _, _, _⟩ := cell3 (blk3_set hs3.1 (.int .u8 y1) (.int .i64 y2) (.string y3))
          exact bodyPost_ret (v := .tuple #[.agg #[.int .u8 y1, .int .i64 y2, .string y3], .int .i64 ye]) (by simp [results, Try.results55, go_sem, e0, e1, e2]) rfl ⟨rfl, below3_set hs3.2.1 _ _ _⟩
end Go.Proofs.Ytkgpcodccpckeaa
