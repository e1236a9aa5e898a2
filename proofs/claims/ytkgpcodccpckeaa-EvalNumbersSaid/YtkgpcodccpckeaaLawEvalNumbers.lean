/- The walk of EvalNumbers. Conditions: the numbers fit their kinds. -/
import Derived.Test.YtkgpcodccpckeaaEv22
namespace Go.Proofs.Ytkgpcodccpckeaa
open Go.RowKit Go
set_option linter.unusedVariables false
set_option linter.unusedSimpArgs false
theorem doZ_num (op a b : Int) (rz : Val × Int) (h1 : 6 ≤ op) (h2 : op ≤ 10) : doZ op 2 (1, a, ⟨#[]⟩) (1, b, ⟨#[]⟩) rz = rz := by
  have hc : comparesB op = false := by unfold comparesB; rw [decide_eq_false (show ¬ 12 ≤ op by omega)]; rfl
  have ht : togB op [1, 1] = true := by
    unfold togB
    rw [if_neg (show ¬ op = 5 by omega), if_neg (show ¬ op = 11 by omega), hc]
    rfl
  have hn : (([(1, a, ⟨#[]⟩), (1, b, ⟨#[]⟩)] : List Val).take 2).any nullV = false := rfl
  unfold doZ
  rw [if_neg (by simp only [ht]; decide), if_neg (by omega), if_neg (by omega), hn, if_neg (by decide), hc, if_neg (by decide), if_neg (by omega)]
theorem int_chk (q : Int) : chk (1, q, ⟨#[]⟩) = 0 := by
  have h0 : ((⟨#[]⟩ : ByteArray).size : Nat) = 0 := rfl
  unfold chk
  rw [if_neg (by
    rintro (h | h | h)
    · simp only at h; omega
    · exact h.1 rfl
    · exact h.2 h0), if_neg (by simp only [h0]; omega)]
/-- the kids, the expression's box, the answer's -/
def Nx (w : World) (op a b : Int) (g gx gw : Nat) (z : Val) (W : World) : Prop := Kids W W.heap.size (some ⟨g, 0, none⟩) [leafX (1, a, ⟨#[]⟩), leafX (1, b, ⟨#[]⟩)] ∧ Blk W gx 29 (exC (nodeX op (some ⟨g, 0, none⟩) 2 2)) ∧ Blk W gw 23 (valC z) ∧ Below w.heap.size w W
theorem nx_step {w W W' : World} {op a b : Int} {g gx gw : Nat} {z : Val} (h : Nx w op a b g gx gw z W) (hb : Below W.heap.size W W') : Nx w op a b g gx gw z W' := ⟨kids_step h.1 hb, blk_step h.2.1 hb, blk_step h.2.2.1 hb, bj h.2.2.2 hb⟩
theorem nx_drew {w W : World} {op a b : Int} {g gx gw : Nat} {z : Val} (h : Nx w op a b g gx gw z W) : Nx w op a b g gx gw z W.drew := nx_step h ((Below.refl _ _).drew)
set_option maxRecDepth 100000 in
set_option maxHeartbeats 8000000 in
theorem evnum_any (op a b K : Int) (h0 : 0 ≤ op) (hK : K = 6 + op % 5) (ha : I64 a) (hb : I64 b) (z1 z2 ze : Int) (z3 : ByteArray) (hr : numZ K a b = ((z1, z2, z3), ze)) (w : World) :
    Calls Try.prog 6 #[.int .u8 op, .int .i64 a, .int .i64 b] w fun e w' => e = .returned (.bool true) ∧ Below w.heap.size w w' := by
  have hk1 : 6 ≤ K := by omega
  have hk2 : K ≤ 10 := by omega
  have hm : op.tmod 5 = op % 5 := Int.tmod_eq_emod_of_nonneg h0
  obtain ⟨R, hR⟩ : ∃ R, op % 5 = R := ⟨_, rfl⟩
  rw [hR] at hm hK
  have hwK : IntKind.u8.wrap (6 + R) = K := by rw [IntKind.wrap_u8]; omega
  have fa : Fits (1, a, ⟨#[]⟩) := ⟨by show (0 : Int) ≤ 1; omega, by show (1 : Int) < 256; omega, ha.1, ha.2⟩
  have fb : Fits (1, b, ⟨#[]⟩) := ⟨by show (0 : Int) ≤ 1; omega, by show (1 : Int) < 256; omega, hb.1, hb.2⟩
  have ca : chk (1, a, ⟨#[]⟩) = 0 := int_chk _
  have cb : chk (1, b, ⟨#[]⟩) = 0 := int_chk _
  have HE := Lib.hid (fun (g : Nat) (W : World) (hk : Kids W W.heap.size (some ⟨g, 0, none⟩) [leafX (1, a, ⟨#[]⟩), leafX (1, b, ⟨#[]⟩)]) => (by
    have h := eval_two K (1, a, ⟨#[]⟩) (1, b, ⟨#[]⟩) (numZ K a b) g W hk1 (by omega) (by omega) hk fa fb ca cb (fun _ W' => reckon_any K a b (by omega) ha hb W')
    rw [doZ_num K a b _ hk1 hk2, hr] at h
    exact h : Calls Try.prog 15 #[exV (nodeX K (some ⟨g, 0, none⟩) 2 2), .slice none 0 0] W fun e w' => e = .returned (.tuple #[.agg #[.int .u8 z1, .int .i64 z2, .string z3], .int .i64 ze]) ∧ Below W.heap.size W w'))
  have HE2 := Lib.hid (fun (g : Nat) (W : World) (hk : Kids W W.heap.size (some ⟨g, 0, none⟩) [leafX (1, a, ⟨#[]⟩), leafX (1, b, ⟨#[]⟩)]) => eval15_two K hk1 hk2 a b ha hb g W hk z1 z2 ze z3 hr)
  clear h0 hK hk1 hk2 fa fb ca cb ha hb hr hR
  go_enter Try.func6, Try.ntmps6
  go_wp2_with fail
  refine (works15 _).mono ?_
  rintro e w2 ⟨rfl, hb2⟩
  go_wp2_with fail
  refine (mkNumber15 a _).mono ?_
  rintro e w3 ⟨rfl, hb3⟩
  go_wp2_with fail
  refine (mkNumber15 b _).mono ?_
  rintro e w4 ⟨rfl, hb4⟩
  go_wp2_with fail
  refine (two_any K (1, a, ⟨#[]⟩) (1, b, ⟨#[]⟩) _).mono ?_
  rintro e w5 ⟨g, rfl, hk5, hb5⟩
  have HB := Lib.hid (bj (bj (bj hb2 hb3) hb4) hb5)
  have HK := Lib.hid hk5
  clear hb2 hb3 hb4 hb5 hk5
  go_wp2_with fail
  refine (HE2.out g _ (kids_step HK.out one_alloc)).mono ?_
  rintro e w6 ⟨rfl, hb6⟩
  have HN : Hid (Nx w K a b g w5.heap.size w6.heap.size (z1, z2, z3) (w6.alloc (.cells #[.int .u8 z1, .int .i64 z2, .string z3] 23))) := Lib.hid (by
    have hb56 := bj (one_alloc (w := w5) (o := .cells (exC (nodeX K (some ⟨g, 0, none⟩) 2 2)) 29)) hb6
    refine ⟨kids_step (kids_step HK.out hb56) one_alloc, ?_, Blk.new _ _ _, bj (bj HB.out hb56) one_alloc⟩
    exact blk_step (blk_step (Blk.new _ _ _) hb6) one_alloc)
  clear hb6
  have HND := Lib.hid (nx_drew HN.out)
  obtain ⟨c0, c1, c2, c3, c4, c5, c6, c7⟩ := cell8 HND.out.2.1
  obtain ⟨d0, d1, d2, _, _, _⟩ := cell3 HND.out.2.2.1
  have hn := HND.out
  go_wp2_with fail
  go_region_with (first
    | (go_at_call 14; (refine (mkis_any (z1, z2, z3) ze _).mono ?_); rintro e w7 ⟨gi, hi, rfl, hih, hb7⟩; replace hn := nx_step hn hb7; obtain ⟨c0, c1, c2, c3, c4, c5, c6, c7⟩ := cell8 hn.2.1; obtain ⟨d0, d1, d2, _, _, _⟩ := cell3 hn.2.2.1)
    | (go_at_call 15; (refine (HE.out g _ hn.1).mono ?_); rintro e w8 ⟨rfl, hb8⟩; (try replace hih := ih_step hih hb8); replace hn := nx_step hn hb8; obtain ⟨c0, c1, c2, c3, c4, c5, c6, c7⟩ := cell8 hn.2.1; obtain ⟨d0, d1, d2, _, _, _⟩ := cell3 hn.2.2.1)
    | (go_at_call 32; (refine (isf_yes (z1, z2, z3) ze gi hi _ hih).mono ?_); rintro e w9 ⟨rfl, hb9⟩; replace hn := nx_step hn hb9))
  all_goals
    go_wp2
    go_ret
    exact ⟨rfl, hn.2.2.2⟩
theorem evalNumbers_walk (a0 a1 a2 : Int) (w0 : (Lit.int .u8 a0).wf = true) (w1 : (Lit.int .i64 a1).wf = true) (w2 : (Lit.int .i64 a2).wf = true) (w : World) :
    Calls Try.prog 6 #[.int .u8 a0, .int .i64 a1, .int .i64 a2] w fun e w' => e = .returned (.bool true) ∧ Below w.heap.size w w' := by
  have e1 : IntKind.u8.min = 0 := rfl
  have e2 : IntKind.u8.max = 255 := rfl
  have e3 : IntKind.i64.min = -9223372036854775808 := rfl
  have e4 : IntKind.i64.max = 9223372036854775807 := rfl
  simp [Lit.wf, e1, e2] at w0
  simp [Lit.wf, e3, e4] at w1 w2
  exact evnum_any a0 a1 a2 _ (by omega) rfl (by unfold I64; omega) (by unfold I64; omega) _ _ _ _ rfl w
end Go.Proofs.Ytkgpcodccpckeaa
