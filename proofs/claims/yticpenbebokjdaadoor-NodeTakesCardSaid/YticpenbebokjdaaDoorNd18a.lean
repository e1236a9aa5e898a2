/- ref10.Bytes. Conditions: those of each lemma. -/
import Derived.Test.YticpenbebokjdaaDoorNd18
namespace Go.Proofs.YticpenbebokjdaaDoor
open Go.RowKit Go
set_option linter.unusedVariables false
set_option linter.unusedSimpArgs false
set_option maxRecDepth 100000 in
set_option maxHeartbeats 8000000 in
theorem rbytes_1 (first : Int) (A : Option Addr) (l : List Cl) (n c : Nat) (data : ByteArray) (w : World) (hC : Cls w w.heap.size A l) (hn : n = l.length) (hm : n ≤ 1000000) (hl : n ≤ 65535) (hmay : mayB 1 first l data = true) :
    Calls Tryd.prog 18 #[.agg #[.int .u8 1, .int .i64 first, .slice A n c, .string data]] w fun e w' => e = .returned (.string (bstr (nodeL 1 first l data))) ∧ Below w.heap.size w w' := by
  have hshort := may_short hmay
  have hleaf := okL_all l none (okl_1 hmay)
  have hdata : data = ⟨#[]⟩ := by
    rw [may_1] at hmay
    simp only [Bool.and_eq_true] at hmay
    exact emp_of hmay.1.2
  have HRES : Hid (bstr (nodeL 1 first l data) = bstr (acc1 n l n)) := Lib.hid (by unfold acc1; rw [List.take_of_length_le (Nat.le_of_eq hn.symm), hn, hdata]; simp [nodeL, headL, bts]; rfl)
  have HN := Lib.hid hn
  have HSH := Lib.hid hshort
  have HLF := Lib.hid hleaf
  have hmI : (n : Int) ≤ 65535 := by omega
  have HNB := Lib.hid (nb_new w 1 first A n c data)
  have HN1 := Lib.hid (fun W => rnum_v 1 1 1 1 rfl rfl (by omega) (by omega) (by omega) W)
  have HN2 := Lib.hid (fun W => rnum_v n 2 n 2 rfl rfl (by omega) (by omega) (by omega) W)
  have s1 := num_size 1 1
  have s2 := num_size n 2
  have hcat : bstr (numL 1 1) ++ bstr (numL n 2) = bstr (numL 1 1 ++ numL n 2) := bstr_append _ _
  have HCAT : Hid (bstr (numL 1 1) ++ bstr (numL n 2) = bstr (acc1 n l 0)) := Lib.hid (by rw [hcat]; simp [cellsL, acc1])
  generalize hE : bstr (numL 1 1) = E at *
  generalize hG : bstr (numL n 2) = G at *
  have z0 : E.size + G.size ≤ 9223372036854775807 := by omega
  have z0' : ¬ (9223372036854775807 < E.size + G.size) := by omega
  have z0I : (E.size : Int) + G.size ≤ 9223372036854775807 := by omega
  clear hn hmay hshort hleaf hdata hcat hE hG hm hl s1 s2
  go_enter Tryd.func18, Tryd.ntmps18
  obtain ⟨c0, c1, c2, c3⟩ := cell4 HNB.out.1
  go_wp2_with fail
  refine (HN1.out _).mono ?_
  rintro e w1 ⟨rfl, hb1⟩
  have HNB1 := Lib.hid (nb_below HNB.out hb1)
  clear c0 c1 c2 c3 hb1 HNB HN1
  obtain ⟨c0, c1, c2, c3⟩ := cell4 HNB1.out.1
  go_wp2_with fail
  refine (HN2.out _).mono ?_
  rintro e w2 ⟨rfl, hb2⟩
  have HNB2 := Lib.hid (nb_below HNB1.out hb2)
  clear c0 c1 c2 c3 hb2 HNB1 HN2
  obtain ⟨c0, c1, c2, c3⟩ := cell4 HNB2.out.1
  go_wp2
  rw [HCAT.out]
  clear HCAT z0 z0' z0I
  go_loopw [3, 4] (fun s i wr => ∃ j : Nat, j ≤ n ∧ i = .int .i64 j ∧ s = .string (bstr (acc1 n l j)) ∧ Nb w 1 first A n c data wr) (fun _ i _ => n - (intOf i).toNat)
  case atStart => exact ⟨0, by omega, rfl, rfl, HNB2.out⟩
  case round =>
    clear HNB2 c0 c1 c2 c3
    obtain ⟨j, hj, rfl, rfl, hnb⟩ := hrel
    obtain ⟨e0, e1, e2, e3⟩ := cell4 hnb.1
    by_cases hjn : j < n
    · have hlt : j < l.length := by have := HN.out; omega
      obtain ⟨b, o, rfl, hbl, hcs⟩ := cls_get hC (fun e => by rw [e] at hlt; simp at hlt)
      obtain ⟨a0, a1, a2, a3⟩ := cells4_below (hcs j l[j] (List.getElem?_eq_getElem hlt)) hnb.2 hbl
      have hsh := HSH.out.1 l[j] (List.getElem_mem hlt)
      obtain ⟨f1, f2, f3, f4, f5⟩ := leaf_is (HLF.out l[j] (List.getElem_mem hlt))
      have htk := cellsL_take 1 l j hlt
      have hsz : (bstr (acc1 n l j)).size ≤ 300000000 := by
        rw [bstr_size, acc1, List.length_append, List.length_append, numL_length, numL_length, cellsL_length]
        have h1 := cellsZ_le (kind := 1) (l.take j) (fun c hc => HSH.out.1 c (List.mem_of_mem_take hc))
        rw [List.length_take] at h1
        have := hmI
        omega
      obtain ⟨x, hx⟩ : ∃ x, l[j] = x := ⟨_, rfl⟩
      rw [hx] at a0 a1 a2 a3 hsh f1 f2 f3 f4 f5 htk
      obtain ⟨k, z, lo, p⟩ := x
      simp only at a0 a1 a2 a3 hsh f1 f2 f3 f4 f5
      have hst : Bst w 1 first (some ⟨b, o, none⟩) n c data wr.heap.size ⟨k, z, lo, p⟩ (wr.alloc (.cells #[.string k, .int .i64 z, .string lo, .int .i64 p] 30)) := ⟨nb_below hnb one_alloc, Blk.new _ _ _⟩
      obtain ⟨d0, d1, d2, d3⟩ := cell4 (nb_below hnb (one_alloc (o := .cells #[.string k, .int .i64 z, .string lo, .int .i64 p] 30))).1
      have hs0 := bst_step hst (Below.refl _ _).drew
      obtain ⟨q, rfl⟩ : ∃ q : Nat, z = (q : Int) := ⟨z.toNat, by omega⟩
      have HK := Lib.hid (fun (W : World) (h : Bst w 1 first (some ⟨b, o, none⟩) n c data wr.heap.size ⟨k, q, lo, p⟩ W) => (rnum_v k.size 1 k.size 1 rfl rfl (by omega) (by omega) (by omega) W).mono (fun e w' he => (⟨he.1, bst_step h he.2⟩ : e = .returned (.string (bstr (numL k.size 1))) ∧ Bst w 1 first (some ⟨b, o, none⟩) n c data wr.heap.size ⟨k, q, lo, p⟩ w')))
      have HZ := Lib.hid (fun (W : World) (h : Bst w 1 first (some ⟨b, o, none⟩) n c data wr.heap.size ⟨k, q, lo, p⟩ W) => (rnum_v q 2 q 2 rfl rfl (by omega) (by omega) (by omega) W).mono (fun e w' he => (⟨he.1, bst_step h he.2⟩ : e = .returned (.string (bstr (numL q 2))) ∧ Bst w 1 first (some ⟨b, o, none⟩) n c data wr.heap.size ⟨k, q, lo, p⟩ w')))
      have HNX : Hid ((q : Int) ≤ 100 → bstr (acc1 n l j) ++ bstr (numL k.size 1) ++ k ++ bstr (numL q 2) ++ lo = bstr (acc1 n l (j + 1))) := Lib.hid (fun hq => by
        have h1 := bstr_bts k
        have h2 := bstr_bts lo
        conv => lhs; rw [← h1, ← h2]
        unfold acc1
        rw [htk, bstr_append, bstr_append, bstr_append, bstr_append, h1]
        simp only [cellL]
        rw [if_pos trivial, if_neg (by omega)]
        simp)
      have HNY : Hid (100 < (q : Int) → bstr (acc1 n l j) ++ bstr (numL k.size 1) ++ k ++ bstr (numL q 2) ++ lo ++ bstr (numL p.toNat 4) = bstr (acc1 n l (j + 1))) := Lib.hid (fun hq => by
        have h1 := bstr_bts k
        have h2 := bstr_bts lo
        conv => lhs; rw [← h1, ← h2]
        unfold acc1
        rw [htk, bstr_append, bstr_append, bstr_append, bstr_append, bstr_append, h1]
        simp only [cellL]
        rw [if_pos trivial, if_pos (.inr (by omega))]
        simp)
      have sk := num_size k.size 1
      have sq := num_size q 2
      have sp := num_size p.toNat 4
      generalize bstr (acc1 n l j) = T at *
      generalize bstr (numL k.size 1) = E1 at *
      generalize bstr (numL q 2) = E2 at *
      have hjI : (j : Int) < n := by omega
      have f4' := f4
      clear hcs hx hnb hlt hbl htk hst
      have z0 : T.size + E1.size ≤ 9223372036854775807 := by omega
      have z0' : ¬ (9223372036854775807 < T.size + E1.size) := by omega
      have z0I : ((T.size : Nat) : Int) + ((E1.size : Nat) : Int) ≤ 9223372036854775807 := by omega
      have z1 : T.size + E1.size + k.size ≤ 9223372036854775807 := by omega
      have z1' : ¬ (9223372036854775807 < T.size + E1.size + k.size) := by omega
      have z1I : ((T.size : Nat) : Int) + ((E1.size : Nat) : Int) + ((k.size : Nat) : Int) ≤ 9223372036854775807 := by omega
      have z2 : T.size + E1.size + k.size + E2.size ≤ 9223372036854775807 := by omega
      have z2' : ¬ (9223372036854775807 < T.size + E1.size + k.size + E2.size) := by omega
      have z2I : ((T.size : Nat) : Int) + ((E1.size : Nat) : Int) + ((k.size : Nat) : Int) + ((E2.size : Nat) : Int) ≤ 9223372036854775807 := by omega
      have z3 : T.size + E1.size + k.size + E2.size + lo.size ≤ 9223372036854775807 := by omega
      have z3' : ¬ (9223372036854775807 < T.size + E1.size + k.size + E2.size + lo.size) := by omega
      have z3I : ((T.size : Nat) : Int) + ((E1.size : Nat) : Int) + ((k.size : Nat) : Int) + ((E2.size : Nat) : Int) + ((lo.size : Nat) : Int) ≤ 9223372036854775807 := by omega
      have hbig : T.size + E1.size + k.size + E2.size + lo.size ≤ 300000300 := by omega
      clear hsh f1 f2 f3 f4 f5 sk sq
      go_wp2_with fail
      go_region_held3 (fun W => W.cell? ⟨wr.heap.size, 0, none⟩ = some (.string k) ∧ W.cell? ⟨wr.heap.size, 1, none⟩ = some (.int .i64 q) ∧ W.cell? ⟨wr.heap.size, 2, none⟩ = some (.string lo) ∧ W.cell? ⟨wr.heap.size, 3, none⟩ = some (.int .i64 p) ∧ Bst w 1 first (some ⟨b, o, none⟩) n c data wr.heap.size ⟨k, q, lo, p⟩ W)
        (exact bst_S (by assumption))
        (first
          | (go_at_call 36; (with_reducible refine (HK.out _ (by assumption)).mono ?_); rintro e w3 ⟨rfl, hs⟩)
          | (go_at_call 36; (with_reducible refine (HZ.out _ (by assumption)).mono ?_); rintro e w4 ⟨rfl, hs⟩))
      all_goals
        obtain ⟨g0, g1, g2, g3, _⟩ := bst_S hs
        have HSS := Lib.hid hs
        by_cases hq : (q : Int) ≤ 100
        · have hq2 : decide (100 < (q : Int)) = false := decide_eq_false (by omega)
          have HNXX := Lib.hid (HNX.out hq)
          clear hs0 HNX HNY HK HZ
          go_wp2
          go_roundw
          case rel => exact ⟨j + 1, by omega, by go_num, by first | exact HNXX.out | exact congrArg Value.string HNXX.out, HSS.out.1⟩
          case measure => simp [intOf]; omega
        · have hq2 : 100 < (q : Int) := by omega
          have HNYY := Lib.hid (HNY.out hq2)
          have hp := f4' hq2
          obtain ⟨pn, rfl⟩ : ∃ pn : Nat, p = (pn : Int) := ⟨p.toNat, by omega⟩
          rw [Int.toNat_natCast] at sp HNYY
          have HPN := Lib.hid (fun W => rnum_v pn 4 pn 4 rfl rfl (by omega) (by omega) (by omega) W)
          generalize bstr (numL pn 4) = E3 at *
          have y0 : T.size + E1.size + k.size + E2.size + lo.size + E3.size ≤ 9223372036854775807 := by omega
          have y0' : ¬ (9223372036854775807 < T.size + E1.size + k.size + E2.size + lo.size + E3.size) := by omega
          have y0I : (T.size : Int) + E1.size + k.size + E2.size + lo.size + E3.size ≤ 9223372036854775807 := by omega
          clear hs0 HNX HNY HK HZ sp hp f4' hq
          go_wp2_with fail
          refine (HPN.out _).mono ?_
          rintro e w5 ⟨rfl, hb5⟩
          have HSS5 := Lib.hid (bst_step HSS.out hb5)
          clear hb5
          go_wp2
          go_roundw
          case rel => exact ⟨j + 1, by omega, by go_num, by first | exact HNYY.out | exact congrArg Value.string HNYY.out, HSS5.out.1⟩
          case measure => simp [intOf]; omega
    · obtain rfl : j = n := by omega
      have HB := Lib.hid hnb
      have HRJ := Lib.hid HRES.out
      clear hnb hC
      go_wp2
      go_ret
      exact ⟨congrArg (fun x => Ending.returned (.string x)) HRJ.out.symm, HB.out.2⟩
end Go.Proofs.YticpenbebokjdaaDoor
