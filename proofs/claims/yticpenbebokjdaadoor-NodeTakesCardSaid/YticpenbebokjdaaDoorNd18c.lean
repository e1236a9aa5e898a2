/- ref10.Bytes. Conditions: those of each lemma. -/
import Derived.Test.YticpenbebokjdaaDoorNd18
namespace Go.Proofs.YticpenbebokjdaaDoor
open Go.RowKit Go
set_option linter.unusedVariables false
set_option linter.unusedSimpArgs false
set_option maxRecDepth 100000 in
set_option maxHeartbeats 8000000 in
theorem rbytes_3 (first : Int) (A : Option Addr) (l : List Cl) (n c : Nat) (data : ByteArray) (w : World) (hC : Cls w w.heap.size A l) (hn : n = l.length) (hm : n ≤ 1000000) (hl : n ≤ 65535) (hmay : mayB 3 first l data = true) :
    Calls Tryd.prog 18 #[.agg #[.int .u8 3, .int .i64 first, .slice A n c, .string data]] w fun e w' => e = .returned (.string (bstr (nodeL 3 first l data))) ∧ Below w.heap.size w w' := by
  have hshort := may_short hmay
  have hfr := may_first hmay (by decide)
  obtain ⟨f, rfl⟩ : ∃ f : Nat, first = (f : Int) := ⟨first.toNat, by omega⟩
  have hx : l = [] := by
    rw [may_3] at hmay
    simp only [Bool.and_eq_true, beq_iff_eq] at hmay
    exact List.length_eq_zero_iff.1 hmay.1.1.2
  have HN := Lib.hid hn
  have HSH := Lib.hid hshort
  have hmI : (n : Int) ≤ 65535 := by omega
  have HNB := Lib.hid (nb_new w 3 f A n c data)
  have HN1 := Lib.hid (fun W => rnum_v 3 1 3 1 rfl rfl (by omega) (by omega) (by omega) W)
  have HN2 := Lib.hid (fun (W : World) (h : Nb w 3 f A n c data W) => (rnum_v data.size 2 data.size 2 rfl rfl (by omega) (by omega) (by omega) W).mono (fun e w' he => (⟨he.1, nb_below h he.2⟩ : e = .returned (.string (bstr (numL data.size 2))) ∧ Nb w 3 f A n c data w')))
  have HN4 := Lib.hid (fun (W : World) (h : Nb w 3 f A n c data W) => (rnum_v f 4 f 4 rfl rfl (by omega) (by omega) (by omega) W).mono (fun e w' he => (⟨he.1, nb_below h he.2⟩ : e = .returned (.string (bstr (numL f 4))) ∧ Nb w 3 f A n c data w')))
  have s1 := num_size 3 1
  have s2 := num_size data.size 2
  have s4 := num_size f 4
  have HCAT : Hid (bstr (numL 3 1) ++ bstr (numL data.size 2) ++ bstr (numL f 4) ++ data = bstr (nodeL 3 f l data)) := Lib.hid ((congrArg (fun x => bstr (numL 3 1) ++ bstr (numL data.size 2) ++ bstr (numL f 4) ++ x) (bstr_bts data).symm).trans (by show bstr (numL 3 1) ++ bstr (numL data.size 2) ++ bstr (numL f 4) ++ bstr (bts data) = _; rw [bstr_append, bstr_append, bstr_append, hx]; simp [nodeL, headL, cellsL]))
  generalize hE : bstr (numL 3 1) = E at *
  generalize hG : bstr (numL data.size 2) = G at *
  generalize hF : bstr (numL f 4) = F at *
  have z0 : E.size + G.size ≤ 9223372036854775807 := by omega
  have z0' : ¬ (9223372036854775807 < E.size + G.size) := by omega
  have z0I : (E.size : Int) + G.size ≤ 9223372036854775807 := by omega
  have z1 : E.size + G.size + F.size ≤ 9223372036854775807 := by omega
  have z1' : ¬ (9223372036854775807 < E.size + G.size + F.size) := by omega
  have z1I : (E.size : Int) + G.size + F.size ≤ 9223372036854775807 := by omega
  have z2 : E.size + G.size + F.size + data.size ≤ 9223372036854775807 := by omega
  have z2' : ¬ (9223372036854775807 < E.size + G.size + F.size + data.size) := by omega
  have z2I : (E.size : Int) + G.size + F.size + data.size ≤ 9223372036854775807 := by omega
  clear hn hmay hshort hE hG hF hm hl s1 s2 s4 hfr hx
  go_enter Tryd.func18, Tryd.ntmps18
  obtain ⟨c0, c1, c2, c3⟩ := cell4 HNB.out.1
  go_wp2_with fail
  refine (HN1.out _).mono ?_
  rintro e w1 ⟨rfl, hb1⟩
  have hnb1 := nb_below HNB.out hb1
  have hs0 := nb_below hnb1 (Below.refl _ _).drew
  clear c0 c1 c2 c3 hb1 HNB HN1
  obtain ⟨c0, c1, c2, c3⟩ := cell4 hnb1.1
  go_wp2_with fail
  go_region_held3 (fun W => W.cell? ⟨w.heap.size, 0, none⟩ = some (.int .u8 3) ∧ W.cell? ⟨w.heap.size, 1, none⟩ = some (.int .i64 f) ∧ W.cell? ⟨w.heap.size, 2, none⟩ = some (.slice A n c) ∧ W.cell? ⟨w.heap.size, 3, none⟩ = some (.string data) ∧ Nb w 3 f A n c data W)
    (exact nb_S (by assumption))
    (first
      | (go_at_call 36; (with_reducible refine (HN2.out _ (by assumption)).mono ?_); rintro e w3 ⟨rfl, hs⟩)
      | (go_at_call 36; (with_reducible refine (HN4.out _ (by assumption)).mono ?_); rintro e w4 ⟨rfl, hs⟩))
  all_goals
    have HSS := Lib.hid hs
    go_wp2
    go_ret
    exact ⟨congrArg (fun x => Ending.returned (.string x)) HCAT.out, HSS.out.2⟩
end Go.Proofs.YticpenbebokjdaaDoor
