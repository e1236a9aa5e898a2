/- ref15.do of two whole numbers. Conditions: the op is one of 6 to 10. -/
import Derived.Test.YtkgpcodccpckeaaEv20
import Derived.Test.YtkgpcodccpckeaaEv10
namespace Go.Proofs.Ytkgpcodccpckeaa
open Go.RowKit
set_option linter.unusedVariables false
set_option linter.unusedSimpArgs false
set_option maxRecDepth 100000 in
set_option maxHeartbeats 4000000 in
theorem fit_ones (op : Int) (h1 : 6 ≤ op) (h2 : op ≤ 10) (b o n c : Nat) (hn : n ≤ 2) (w : World) (hU : ∀ j, j < n → w.cell? ⟨b, o + j, none⟩ = some (.int .u8 1)) :
    Calls Try.prog 37 #[.int .u8 op, .slice (some ⟨b, o, none⟩) n c] w fun e w' => e = .returned (.bool true) ∧ w = w' := by
  have b5 := beq_noI (show op ≠ 5 by omega)
  have b20 := beq_noI (show op ≠ 20 by omega)
  have b11 := beq_noI (show op ≠ 11 by omega)
  have d22 : decide (22 ≤ op) = false := decide_eq_false (by omega)
  have d12 : decide (12 ≤ op) = false := decide_eq_false (by omega)
  have HU := Lib.hid hU
  have HN := Lib.hid hn
  have hnI : (n : Int) ≤ 2 := by omega
  clear h1 h2 hU hn
  go_enter Try.func37, Try.ntmps37
  go_wp2
  go_loopw [6] (fun i wr => ∃ j : Nat, j ≤ n ∧ i = .int .i64 j ∧ w = wr) (fun i _ => n - (intOf i).toNat)
  case atStart => exact ⟨0, by omega, rfl, rfl⟩
  case round =>
    obtain ⟨j, hj, rfl, rfl⟩ := hrel
    by_cases hjn : j < n
    · have c0 := HU.out j hjn
      go_wp2
      go_roundw
      case rel => exact ⟨j + 1, by omega, by go_num, by first | rfl | trivial⟩
      case measure => simp [intOf]; omega
    · obtain rfl : j = n := by omega
      go_wp2
      go_ret
      exact ⟨rfl, by first | trivial | rfl⟩
theorem ones_of_own {W : World} {base : Nat} {v : Value} {n : Nat} (h : W.ownsRow base 5 1 v n (List.replicate n (.int .u8 1))) (hn : 0 < n) : ∃ g c, v = .slice (some ⟨g, 0, none⟩) n c ∧ ∀ j, j < n → W.cell? ⟨g, 0 + j, none⟩ = some (.int .u8 1) := by
  rcases h.2 with ⟨_, h0⟩ | ⟨g, cap, cur, hv, hr⟩
  · omega
  · refine ⟨g, cap, hv, fun j hj => ?_⟩
    have hx := h.cells (g := g) (by rw [hv]; rfl) j (.int .u8 1) (by rw [List.getElem?_replicate, if_pos hj])
    have e : (⟨g, 0, none⟩ : Addr).add j = ⟨g, 0 + j, none⟩ := by
      by_cases h0 : j = 0
      · subst h0; rfl
      · simp [Addr.add, h0]
    rw [← e]
    exact hx
theorem reads1g (W : World) (x : Value) : Reads (W.alloc (.cells #[x] 5)) (W.heap.size + 1) 1 (some ⟨W.heap.size, 0, none⟩) 1 [x] := by
  refine ⟨rfl, fun _ => ⟨_, rfl, by simp, fun j u hj => ?_⟩⟩
  match j, hj with
  | 0, hj => simp at hj; subst hj; simp [Addr.add]
theorem own_step1 {W W' : World} {base : Nat} {e : TypeId} {size n : Nat} {v : Value} {xs : List Value} (h : W.ownsRow base e size v n xs) (hb : Below W.heap.size W W') : W'.ownsRow base e size v n xs := by
  obtain ⟨hl, h | ⟨g, cap, cur, hv, hbg, hg, hr⟩⟩ := h
  · exact ⟨hl, .inl h⟩
  · exact ⟨hl, .inr ⟨g, cap, cur, hv, hbg, blk_step (t := e) (cs := cur) hg hb, hr⟩⟩
/-- the answer's box beside what is made -/
def Dn (w : World) (W : World) : Prop := Blk W w.heap.size 23 #[.int .u8 0, .int .i64 0, .string ⟨#[]⟩] ∧ Below w.heap.size w W ∧ w.heap.size + 1 ≤ W.heap.size
theorem dn_step {w W W' : World} (h : Dn w W) (hb : Below W.heap.size W W') : Dn w W' := ⟨blk_step h.1 hb, bj h.2.1 hb, Nat.le_trans h.2.2 hb.size⟩
theorem dn_drew {w W : World} (h : Dn w W) : Dn w W.drew := ⟨h.1.drew, h.2.1.drew, by simpa using h.2.2⟩
theorem dn_new (w : World) : Dn w (w.alloc (.cells #[.int .u8 0, .int .i64 0, .string ⟨#[]⟩] 23)) := ⟨Blk.new _ _ _, one_alloc, by simp⟩
theorem dn_grown {w W W' : World} {row : Option Nat} (h : Dn w W) (hg : W.grownBy W' row) (hr : ∀ z, row = some z → w.heap.size + 1 ≤ z) : Dn w W' := by
  obtain ⟨h1, h2, h3⟩ := h
  refine ⟨h1.grown hg (fun e => by have := hr _ e.symm; omega), h2.grown hg (by omega) (fun z e => by have := hr _ e; omega), ?_⟩
  exact Nat.le_trans h3 ((Below.refl (w.heap.size + 1) W).grown hg h3 hr).size
theorem rep_snoc (n : Nat) : List.replicate (n + 1) (Value.int .u8 1) = List.replicate n (Value.int .u8 1) ++ [.int .u8 1] := by rw [List.replicate_succ']
set_option maxRecDepth 100000 in
set_option maxHeartbeats 8000000 in
theorem do_num (op : Int) (h1 : 6 ≤ op) (h2 : op ≤ 10) (x y : Int) (hx : I64 x) (hy : I64 y) (b o c : Nat) (w : World) (hV : Vals w w.heap.size (some ⟨b, o, none⟩) [(1, x, ⟨#[]⟩), (1, y, ⟨#[]⟩)]) (z1 z2 ze : Int) (z3 : ByteArray) (hr : numZ op x y = ((z1, z2, z3), ze)) :
    Calls Try.prog 55 #[.int .u8 op, .slice (some ⟨b, o, none⟩) 2 c] w fun e w' => e = .returned (.tuple #[.agg #[.int .u8 z1, .int .i64 z2, .string z3], .int .i64 ze]) ∧ Below w.heap.size w w' := by
  obtain ⟨b', o', hA, hbl, hc⟩ := vals_get hV (by simp)
  obtain ⟨rfl, rfl⟩ : b = b' ∧ o = o' := by simpa using hA
  have HBL := Lib.hid hbl
  obtain ⟨x0, x1, x2⟩ := hc 0 _ rfl
  obtain ⟨y0, y1, y2⟩ := hc 1 _ rfl
  have HX := Lib.hid (And.intro x0 x1)
  have HY := Lib.hid (And.intro y0 y1)
  have HF := Lib.hid (fit_ones op h1 h2)
  have H4 := num15_any op x y (by omega) hx hy
  rw [hr] at H4
  have HNUM := Lib.hid H4
  have b5 := beq_noI (show op ≠ 5 by omega)
  have b18 := beq_noI (show op ≠ 18 by omega)
  have b19 := beq_noI (show op ≠ 19 by omega)
  have b4 := beq_noI (show op ≠ 4 by omega)
  have b3 := beq_noI (show op ≠ 3 by omega)
  have b11 := beq_noI (show op ≠ 11 by omega)
  have d12 : decide (12 ≤ op) = false := decide_eq_false (by omega)
  have HST := Lib.hid (dn_new w)
  obtain ⟨iv, hv1, hv2, hv3, hv4⟩ := info_parts (show (Try.prog.info? 5).map (fun i => (i.zero, i.size, i.bytes)) = some (some (.int .u8 0), 1, 1) by kernel_rfl)
  clear h1 h2 hx hy hA hbl hc x0 x1 x2 y0 y1 y2 hr H4 hV
  go_enter Try.func55, Try.ntmps55
  go_wp2
  go_loopw [6, 7, 8, 9, 10] (fun k nl z on i wr => ∃ (j : Nat) (zb ob : Bool), j ≤ 2 ∧ i = .int .i64 j ∧ nl = .bool false ∧ z = .bool zb ∧ on = .bool ob ∧ wr.ownsRow (w.heap.size + 1) 5 1 k j (List.replicate j (.int .u8 1)) ∧ Dn w wr) (fun _ _ _ _ i _ => 2 - (intOf i).toNat)
  case atStart => exact ⟨0, false, false, by omega, rfl, rfl, rfl, rfl, World.ownsRow_nil _ _ _ _, HST.out⟩
  case round =>
    clear HST
    obtain ⟨j, zb, ob, hj, rfl, rfl, rfl, rfl, hown, hst⟩ := hrel
    have HST := Lib.hid hst
    have HO0 := Lib.hid hown
    clear hst
    by_cases hj2 : j < 2
    · obtain ⟨q, hcs⟩ : ∃ q, ∀ W, Dn w W → W.cell? ⟨b, o + j * 3, none⟩ = some (.int .u8 1) ∧ W.cell? ⟨b, o + j * 3 + 1, none⟩ = some (.int .i64 q) := by
        rcases (show j = 0 ∨ j = 1 by omega) with rfl | rfl
        · exact ⟨x, fun W h => ⟨(h.2.1.cell (p := ⟨b, o + 0 * 3, none⟩) HBL.out).trans HX.out.1, (h.2.1.cell (p := ⟨b, o + 0 * 3 + 1, none⟩) HBL.out).trans HX.out.2⟩⟩
        · exact ⟨y, fun W h => ⟨(h.2.1.cell (p := ⟨b, o + 1 * 3, none⟩) HBL.out).trans HY.out.1, (h.2.1.cell (p := ⟨b, o + 1 * 3 + 1, none⟩) HBL.out).trans HY.out.2⟩⟩
      have HC := Lib.hid hcs
      have hjI : (j : Int) < 2 := by omega
      obtain ⟨c0, c1⟩ := hcs _ HST.out
      have HO := Lib.hid (own_step1 HO0.out (one_alloc (o := .cells #[.int .u8 1] 5)))
      have HS4 := Lib.hid (dn_step HST.out (one_alloc (o := .cells #[.int .u8 1] 5)))
      have HBS := Lib.hid HS4.out.2.2
      clear hcs hown
      have hrd := reads1g wr (.int .u8 1)
      rcases Decidable.em (q = 0) with rfl | hq
      case' inr => have hqb := beq_noI hq
      all_goals
        cases zb
        all_goals
          cases ob
          all_goals
            go_wp2_with (at_builtin; refine wpList_append_any _ rfl (.tmp 18) (.tmp 24) 44 rfl (w.heap.size + 1) 5 iv _ 1 1 Try.underlying44 hv1 hv2 hv3 hv4 rfl (by omega) _ j (List.replicate j (.int .u8 1)) rfl HO.out (wr.heap.size + 1) (some ⟨wr.heap.size, 0, none⟩) 1 1 [.int .u8 1] rfl hrd (by intro u hu; simp at hu; subst hu; rfl) (by simp only [maxLen]; omega) (by omega) HBS.out ?_; intro v1 w4 hown1 hg1 hat1; (have HS5 := Lib.hid (dn_grown HS4.out hg1 (fun z hz => (HO.out.lt z hz).1))); (have HO5 := Lib.hid hown1); (obtain ⟨d0, d1⟩ := HC.out _ HS5.out); clear hown1 hg1 hat1 hrd)
            go_roundw
            case rel => exact ⟨j + 1, _, _, by omega, by go_num, rfl, rfl, rfl, by rw [rep_snoc]; exact HO5.out, HS5.out⟩
            case measure => simp only [intOf]; omega
    · obtain rfl : j = 2 := by omega
      obtain ⟨g, cg, rfl, hones⟩ := ones_of_own HO0.out (by omega)
      have HON := Lib.hid hones
      have HDX := Lib.hid (fun (W : World) (h : Dn w W) => (⟨(h.2.1.cell (p := ⟨b, o, none⟩) HBL.out).trans (by simpa using HX.out.1), (h.2.1.cell (p := ⟨b, o + 1, none⟩) HBL.out).trans (by simpa using HX.out.2), (h.2.1.cell (p := ⟨b, o + 3, none⟩) HBL.out).trans (by simpa using HY.out.1), (h.2.1.cell (p := ⟨b, o + 3 + 1, none⟩) HBL.out).trans (by simpa using HY.out.2)⟩ : W.cell? ⟨b, o, none⟩ = some (.int .u8 1) ∧ W.cell? ⟨b, o + 1, none⟩ = some (.int .i64 x) ∧ W.cell? ⟨b, o + 3, none⟩ = some (.int .u8 1) ∧ W.cell? ⟨b, o + 3 + 1, none⟩ = some (.int .i64 y)))
      obtain ⟨a0, a1, a2, a3⟩ := HDX.out _ HST.out
      clear hones hown hj hj2
      go_wp2_with fail
      refine (HF.out g 0 2 cg (by omega) _ HON.out).mono ?_
      rintro e wf ⟨rfl, rfl⟩
      have HSD := Lib.hid (dn_drew HST.out)
      obtain ⟨a0, a1, a2, a3⟩ := HDX.out _ HSD.out
      go_wp2_with fail
      go_region_with (go_at_call 75; (refine (HNUM.out _).mono ?_); rintro e w3 ⟨rfl, hb3⟩; obtain ⟨r0, r1, r2, f0, f1, f2⟩ := cell3 (dn_step HSD.out hb3).1)
      all_goals
        have hs3 := dn_step HSD.out hb3
        go_wp2
        obtain ⟨e0, e1, e2, _, _, _⟩ := cell3 (blk3_set hs3.1 (.int .u8 z1) (.int .i64 z2) (.string z3))
        exact bodyPost_ret (v := .tuple #[.agg #[.int .u8 z1, .int .i64 z2, .string z3], .int .i64 ze]) (by simp [results, Try.results55, go_sem, e0, e1, e2]) rfl ⟨rfl, below3_set hs3.2.1 _ _ _⟩
end Go.Proofs.Ytkgpcodccpckeaa
