/- ref10.Bytes. Conditions: those of each lemma. -/
import Derived.Test.YticpenbebokjdaaDoorNd18
namespace Go.Proofs.YticpenbebokjdaaDoor
open Go.RowKit Go
set_option linter.unusedVariables false
set_option linter.unusedSimpArgs false
set_option maxRecDepth 100000 in
set_option maxHeartbeats 8000000 in
theorem rbytes_2 (first : Int) (A : Option Addr) (l : List Cl) (n c : Nat) (data : ByteArray) (w : World) (hC : Cls w w.heap.size A l) (hn : n = l.length) (hm : n ≤ 1000000) (hl : n ≤ 65535) (hmay : mayB 2 first l data = true) :
    Calls Tryd.prog 18 #[.agg #[.int .u8 2, .int .i64 first, .slice A n c, .string data]] w fun e w' => e = .returned (.string (bstr (nodeL 2 first l data))) ∧ Below w.heap.size w w' := by
  have hshort := may_short hmay
  have hfr := may_first hmay (by decide)
  obtain ⟨f, rfl⟩ : ∃ f : Nat, first = (f : Int) := ⟨first.toNat, by omega⟩
  have hx : data = ⟨#[]⟩ := by
    rw [may_2] at hmay
    simp only [Bool.and_eq_true] at hmay
    exact emp_of hmay.1.1.2
  have HLF := Lib.hid (okL_all l none (okl_2 hmay))
  have HRES : Hid (bstr (nodeL 2 f l data) = bstr (acc2 n f l n)) := Lib.hid (by unfold acc2; rw [List.take_of_length_le (Nat.le_of_eq hn.symm), hn, hx]; simp [nodeL, headL, bts]; rfl)
  have HN := Lib.hid hn
  have HSH := Lib.hid hshort
  have hmI : (n : Int) ≤ 65535 := by omega
  have HNB := Lib.hid (nb_new w 2 f A n c data)
  have HN1 := Lib.hid (fun W => rnum_v 2 1 2 1 rfl rfl (by omega) (by omega) (by omega) W)
  have HN2 := Lib.hid (fun (W : World) (h : Nb w 2 f A n c data W) => (rnum_v n 2 n 2 rfl rfl (by omega) (by omega) (by omega) W).mono (fun e w' he => (⟨he.1, nb_below h he.2⟩ : e = .returned (.string (bstr (numL n 2))) ∧ Nb w 2 f A n c data w')))
  have HN4 := Lib.hid (fun (W : World) (h : Nb w 2 f A n c data W) => (rnum_v f 4 f 4 rfl rfl (by omega) (by omega) (by omega) W).mono (fun e w' he => (⟨he.1, nb_below h he.2⟩ : e = .returned (.string (bstr (numL f 4))) ∧ Nb w 2 f A n c data w')))
  have s1 := num_size 2 1
  have s2 := num_size n 2
  have s4 := num_size f 4
  have HCAT : Hid (bstr (numL 2 1) ++ bstr (numL n 2) ++ bstr (numL f 4) = bstr (acc2 n f l 0)) := Lib.hid (by rw [bstr_append, bstr_append]; simp [acc2, cellsL])
  generalize hE : bstr (numL 2 1) = E at *
  generalize hG : bstr (numL n 2) = G at *
  generalize hF : bstr (numL f 4) = F at *
  have z0 : E.size + G.size ≤ 9223372036854775807 := by omega
  have z0' : ¬ (9223372036854775807 < E.size + G.size) := by omega
  have z0I : (E.size : Int) + G.size ≤ 9223372036854775807 := by omega
  have z1 : E.size + G.size + F.size ≤ 9223372036854775807 := by omega
  have z1' : ¬ (9223372036854775807 < E.size + G.size + F.size) := by omega
  have z1I : (E.size : Int) + G.size + F.size ≤ 9223372036854775807 := by omega
  clear hn hmay hshort hE hG hF hm hl s1 s2 s4 hfr hx
  go_enter Tryd.func18, Tryd.ntmps18
  obtain ⟨c0, c1, c2, c3⟩ := cell4 HNB.out.1
  go_wp2_with fail
  refine (HN1.out _).mono ?_
  rintro e w1 ⟨rfl, hb1⟩
  have hnb1 := nb_below HNB.out hb1
  have hs0 := nb_below hnb1 (Below.refl _ _).drew
  clear c0 c1 c2 c3 hb1 HNB HN1
  obtain ⟨c0, c1, c2, c3⟩ := cell4 hnb1.1
  go_wp2_with fail
  go_region_held3 (fun W => W.cell? ⟨w.heap.size, 0, none⟩ = some (.int .u8 2) ∧ W.cell? ⟨w.heap.size, 1, none⟩ = some (.int .i64 f) ∧ W.cell? ⟨w.heap.size, 2, none⟩ = some (.slice A n c) ∧ W.cell? ⟨w.heap.size, 3, none⟩ = some (.string data) ∧ Nb w 2 f A n c data W)
    (exact nb_S (by assumption))
    (first
      | (go_at_call 36; (with_reducible refine (HN2.out _ (by assumption)).mono ?_); rintro e w3 ⟨rfl, hs⟩)
      | (go_at_call 36; (with_reducible refine (HN4.out _ (by assumption)).mono ?_); rintro e w4 ⟨rfl, hs⟩))
  all_goals
    have HSS := Lib.hid hs
    go_wp2
    rw [HCAT.out]
    clear HCAT z0 z0' z0I z1 z1' z1I
    go_loopw [3, 6] (fun s i wr => ∃ j : Nat, j ≤ n ∧ i = .int .i64 j ∧ s = .string (bstr (acc2 n f l j)) ∧ Nb w 2 f A n c data wr) (fun _ i _ => n - (intOf i).toNat)
    case atStart => exact ⟨0, by omega, rfl, rfl, HSS.out⟩
    case round =>
      clear HSS c0 c1 c2 c3
      obtain ⟨j, hj, rfl, rfl, hnb⟩ := hrel
      obtain ⟨e0, e1, e2, e3⟩ := cell4 hnb.1
      by_cases hjn : j < n
      · have hlt : j < l.length := by have := HN.out; omega
        obtain ⟨b, o, rfl, hbl, hcs⟩ := cls_get hC (fun e => by rw [e] at hlt; simp at hlt)
        have hxx := hcs j l[j] (List.getElem?_eq_getElem hlt)
        have hsh := HSH.out.1 l[j] (List.getElem_mem hlt)
        have hin := inner_is (HLF.out l[j] (List.getElem_mem hlt))
        have htk := cellsL_take 2 l j hlt
        have hsz : (bstr (acc2 n f l j)).size ≤ 300000000 := by
          rw [bstr_size, acc2, List.length_append, List.length_append, List.length_append, numL_length, numL_length, numL_length, cellsL_length]
          have h1 := cellsZ_le (kind := 2) (l.take j) (fun c hc => HSH.out.1 c (List.mem_of_mem_take hc))
          rw [List.length_take] at h1
          have := hmI
          omega
        obtain ⟨x, hx⟩ : ∃ x, l[j] = x := ⟨_, rfl⟩
        rw [hx] at hxx hsh hin htk
        obtain ⟨k, z, lo, p⟩ := x
        simp only at hsh hin
        obtain ⟨i1, i2, i3, i4⟩ := hin
        obtain ⟨pn, rfl⟩ : ∃ pn : Nat, p = (pn : Int) := ⟨p.toNat, by omega⟩
        have hst : Cst w 2 f b o n c data j ⟨k, z, lo, pn⟩ wr := ⟨hnb, hxx, hbl⟩
        have hs0 := cst_step hst (Below.refl _ _).drew
        have HK := Lib.hid (fun (W : World) (h : Cst w 2 f b o n c data j ⟨k, z, lo, pn⟩ W) => (rnum_v k.size 1 k.size 1 rfl rfl (by omega) (by omega) (by omega) W).mono (fun e w' he => (⟨he.1, cst_step h he.2⟩ : e = .returned (.string (bstr (numL k.size 1))) ∧ Cst w 2 f b o n c data j ⟨k, z, lo, pn⟩ w')))
        have HZ := Lib.hid (fun (W : World) (h : Cst w 2 f b o n c data j ⟨k, z, lo, pn⟩ W) => (rnum_v pn 4 pn 4 rfl rfl (by omega) (by omega) (by omega) W).mono (fun e w' he => (⟨he.1, cst_step h he.2⟩ : e = .returned (.string (bstr (numL pn 4))) ∧ Cst w 2 f b o n c data j ⟨k, z, lo, pn⟩ w')))
        have HNX : Hid (bstr (acc2 n f l j) ++ bstr (numL k.size 1) ++ k ++ bstr (numL pn 4) = bstr (acc2 n f l (j + 1))) := Lib.hid (by
          have h1 := bstr_bts k
          conv => lhs; rw [← h1]
          unfold acc2
          rw [htk, bstr_append, bstr_append, bstr_append, h1]
          simp only [cellL]
          rw [if_neg (by omega), if_pos (.inl trivial), Int.toNat_natCast]
          simp)
        have sk := num_size k.size 1
        have sp := num_size pn 4
        generalize bstr (acc2 n f l j) = T at *
        generalize bstr (numL k.size 1) = E1 at *
        generalize bstr (numL pn 4) = E2 at *
        have hjI : (j : Int) < n := by omega
        clear hcs hx hlt hbl htk hxx hs
        have z0 : T.size + E1.size ≤ 9223372036854775807 := by omega
        have z0' : ¬ (9223372036854775807 < T.size + E1.size) := by omega
        have z0I : ((T.size : Nat) : Int) + ((E1.size : Nat) : Int) ≤ 9223372036854775807 := by omega
        have z1 : T.size + E1.size + k.size ≤ 9223372036854775807 := by omega
        have z1' : ¬ (9223372036854775807 < T.size + E1.size + k.size) := by omega
        have z1I : ((T.size : Nat) : Int) + ((E1.size : Nat) : Int) + ((k.size : Nat) : Int) ≤ 9223372036854775807 := by omega
        have z2 : T.size + E1.size + k.size + E2.size ≤ 9223372036854775807 := by omega
        have z2' : ¬ (9223372036854775807 < T.size + E1.size + k.size + E2.size) := by omega
        have z2I : ((T.size : Nat) : Int) + ((E1.size : Nat) : Int) + ((k.size : Nat) : Int) + ((E2.size : Nat) : Int) ≤ 9223372036854775807 := by omega
        clear hsh i1 i2 i3 i4 sk sp
        go_wp2_with fail
        go_region_held3 (fun W => W.cell? ⟨w.heap.size, 2, none⟩ = some (.slice (some ⟨b, o, none⟩) n c) ∧ W.cell? ⟨b, o + j * 4, none⟩ = some (.string k) ∧ W.cell? ⟨b, o + j * 4 + 3, none⟩ = some (.int .i64 pn) ∧ Cst w 2 f b o n c data j ⟨k, z, lo, pn⟩ W)
          (exact cst_S (by assumption))
          (first
            | (go_at_call 36; (with_reducible refine (HK.out _ (by assumption)).mono ?_); rintro e w5 ⟨rfl, hs⟩)
            | (go_at_call 36; (with_reducible refine (HZ.out _ (by assumption)).mono ?_); rintro e w6 ⟨rfl, hs⟩))
        all_goals
          have HSS := Lib.hid hs
          go_wp2
          go_roundw
          case rel => exact ⟨j + 1, by omega, by go_num, by first | exact HNX.out | exact congrArg Value.string HNX.out, HSS.out.1⟩
          case measure => simp [intOf]; omega
      · obtain rfl : j = n := by omega
        have HB := Lib.hid hnb
        have HRJ := Lib.hid HRES.out
        clear hnb hC hs
        go_wp2
        go_ret
        exact ⟨congrArg (fun x => Ending.returned (.string x)) HRJ.out.symm, HB.out.2⟩
end Go.Proofs.YticpenbebokjdaaDoor
