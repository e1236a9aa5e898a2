/- eval.Eval of two values under an op; the laws' works. Conditions: those of each lemma. -/
import Derived.Test.YtkgpcodccpckeaaEv11
namespace Go.Proofs.Ytkgpcodccpckeaa
open Go.RowKit
set_option linter.unusedVariables false
set_option linter.unusedSimpArgs false
theorem two_kids {P : Nat → Ex → Bool → Prop} {x y : Ex} {p q : Bool} (h0 : P 0 x p) (h1 : P 1 y q) : ∀ (j : Nat) z b, [x, y][j]? = some z → [p, q][j]? = some b → P j z b := fun j z b hz hb => by
  match j, hz, hb with
  | 0, hz, hb => simp at hz hb; subst hz hb; exact h0
  | 1, hz, hb => simp at hz hb; subst hz hb; exact h1
  | j + 2, hz, hb => simp at hz
theorem may_val (v : Val) (w : World) (hf : Fits v) : Calls Try.prog 30 #[exV (leafX v), .int .i64 0, .int .i64 0] w fun e w' => e = .returned (.bool (decide (chk v = 0))) ∧ Below w.heap.size w w' := by
  by_cases hc : chk v = 0
  · rw [decide_eq_true hc]
    exact may_leaf v ⟨#[]⟩ ⟨#[]⟩ 0 none 0 0 0 w hf (by omega) hc
  · rw [decide_eq_false hc]
    exact may_bad v ⟨#[]⟩ ⟨#[]⟩ 0 none 0 0 0 w hf (by omega) hc
theorem may_two (op : Int) (a b : Val) (g : Nat) (w : World) (h1 : 6 ≤ op) (h2 : op ≤ 19) (hk : Kids w w.heap.size (some ⟨g, 0, none⟩) [leafX a, leafX b]) (fa : Fits a) (fb : Fits b) :
    Calls Try.prog 30 #[exV (nodeX op (some ⟨g, 0, none⟩) 2 2), .int .i64 0, .int .i64 0] w fun e w' => e = .returned (.bool (decide (chk a = 0) && decide (chk b = 0))) ∧ Below w.heap.size w w' := by
  have h := may_node op (0, 0, ⟨#[]⟩) ⟨#[]⟩ ⟨#[]⟩ 0 (some ⟨g, 0, none⟩) 2 2 [leafX a, leafX b] [decide (chk a = 0), decide (chk b = 0)] 0 0 0 w false (by unfold groupedB; rw [decide_eq_false (by omega)]; rfl) rfl (by omega) (by omega) (by omega) (by omega) rfl rfl (by omega) (by omega) hk (Lib.hid fun W => fits_two op h1 h2 W)
    (two_kids (P := fun _ x b => ∀ W, Below w.heap.size w W → Calls Try.prog 30 #[exV x, .int .i64 0, .int .i64 0] W fun e w' => e = .returned (.bool b) ∧ Below W.heap.size W w') (fun W _ => may_val a W fa) (fun W _ => may_val b W fb))
  rw [show [decide (chk a = 0), decide (chk b = 0)].all id = (decide (chk a = 0) && decide (chk b = 0)) by simp] at h
  exact h
theorem eval_two (op : Int) (a b : Val) (rz : Val × Int) (g : Nat) (w : World) (h1 : 6 ≤ op) (h2 : op ≤ 19) (h11 : ¬ op = 11) (hk : Kids w w.heap.size (some ⟨g, 0, none⟩) [leafX a, leafX b]) (fa : Fits a) (fb : Fits b) (ca : chk a = 0) (cb : chk b = 0)
    (hr : (¬ op = 4 ∧ ¬ op = 5 ∧ ¬ op = 18 ∧ ¬ op = 19 ∧ comparesB op = false) → ∀ W, Calls Try.prog 52 #[.int .u8 op, .int .i64 a.2.1, .int .i64 b.2.1] W fun e w' => e = .returned (.tuple #[valV rz.1, .int .i64 rz.2]) ∧ Below W.heap.size W w') :
    Calls Try.prog 15 #[exV (nodeX op (some ⟨g, 0, none⟩) 2 2), .slice none 0 0] w fun e w' => e = .returned (.tuple #[valV (doZ op 2 a b rz).1, .int .i64 (doZ op 2 a b rz).2]) ∧ Below w.heap.size w w' := by
  obtain ⟨z1, z2, z3, ze, hz⟩ : ∃ z1 z2 z3 ze, doZ op 2 a b rz = ((z1, z2, z3), ze) := ⟨_, _, _, _, rfl⟩
  rw [hz]
  refine eval_ok op 0 0 0 ⟨#[]⟩ ⟨#[]⟩ ⟨#[]⟩ (some ⟨g, 0, none⟩) 2 2 z1 z2 ze z3 w (fun W hb => ?_) (fun p W hb => ?_)
  · have h := may_two op a b g W h1 h2 (kids_step hk hb) fa fb
    rw [decide_eq_true ca, decide_eq_true cb] at h
    exact h
  · have h := come_node 43 ⟨p, 0, none⟩ none 0 0 op (0, 0, ⟨#[]⟩) ⟨#[]⟩ ⟨#[]⟩ 0 (some ⟨g, 0, none⟩) 2 2 [leafX a, leafX b] a b rz W (by omega) h2 h11 rfl (.inr rfl) (kids_step hk hb)
      (fun x hx W' _ => by simp at hx; subst hx; exact come_leaf 43 ⟨p, 0, none⟩ none 0 0 a ⟨#[]⟩ ⟨#[]⟩ 0 none 0 0 W')
      (fun x hx W' _ => by simp at hx; subst hx; exact come_leaf 43 ⟨p, 0, none⟩ none 0 0 b ⟨#[]⟩ ⟨#[]⟩ 0 none 0 0 W') hr
    rw [hz] at h
    exact h
theorem eval_two_bad (op : Int) (a b : Val) (g : Nat) (w : World) (h1 : 6 ≤ op) (h2 : op ≤ 19) (hk : Kids w w.heap.size (some ⟨g, 0, none⟩) [leafX a, leafX b]) (fa : Fits a) (fb : Fits b) (hc : ¬ (chk a = 0 ∧ chk b = 0)) :
    Calls Try.prog 15 #[exV (nodeX op (some ⟨g, 0, none⟩) 2 2), .slice none 0 0] w fun e w' => e = .returned (.tuple #[.agg #[.int .u8 0, .int .i64 0, .string ⟨#[]⟩], .int .i64 2]) ∧ Below w.heap.size w w' := by
  refine eval_bad op 0 0 0 ⟨#[]⟩ ⟨#[]⟩ ⟨#[]⟩ (some ⟨g, 0, none⟩) 2 2 w (fun W hb => ?_)
  have h := may_two op a b g W h1 h2 (kids_step hk hb) fa fb
  rw [show (decide (chk a = 0) && decide (chk b = 0)) = false by
    by_cases ha : chk a = 0
    · rw [decide_eq_false (p := chk b = 0) (fun hb' => hc ⟨ha, hb'⟩)]; simp
    · rw [decide_eq_false ha]; rfl] at h
  exact h
set_option maxRecDepth 100000 in
set_option maxHeartbeats 8000000 in
theorem works15 (w : World) : Calls Try.prog 13 #[] w fun e w' => e = .returned (.bool true) ∧ Below w.heap.size w w' := by
  have HE : Hid (∀ g W, Kids W W.heap.size (some ⟨g, 0, none⟩) [leafX (1, 2, ⟨#[]⟩), leafX (1, 3, ⟨#[]⟩)] → Calls Try.prog 15 #[.agg #[.int .u8 6, .int .u8 0, .int .i64 0, .string ⟨#[]⟩, .string ⟨#[]⟩, .string ⟨#[]⟩, .int .i64 0, .slice (some ⟨g, 0, none⟩) 2 2], .slice none 0 0] W fun e w' => e = .returned (.tuple #[.agg #[.int .u8 1, .int .i64 5, .string ⟨#[]⟩], .int .i64 0]) ∧ Below W.heap.size W w') := Lib.hid fun g W hk =>
    eval_two 6 (1, 2, ⟨#[]⟩) (1, 3, ⟨#[]⟩) ((1, 5, ⟨#[]⟩), 0) g W (by omega) (by omega) (by omega) hk ⟨by decide, by decide, by decide, by decide⟩ ⟨by decide, by decide, by decide, by decide⟩ (by decide) (by decide) (fun _ W' => reckon_works W')
  go_enter Try.func13, Try.ntmps13
  go_wp2_with fail
  refine (mkNumber15 5 _).mono ?_
  rintro e w1 ⟨rfl, hb1⟩
  go_wp2_with fail
  refine (mkis_any (1, 5, ⟨#[]⟩) 0 _).mono ?_
  rintro e w2 ⟨g2, h2, rfl, hi2, hb2⟩
  have HI := Lib.hid hi2
  have HB := Lib.hid (bj hb1 hb2)
  clear hi2 hb1 hb2
  go_wp2_with fail
  refine (mkNumber15 2 _).mono ?_
  rintro e w3 ⟨rfl, hb3⟩
  go_wp2_with fail
  refine (mkNumber15 3 _).mono ?_
  rintro e w4 ⟨rfl, hb4⟩
  go_wp2_with fail
  refine (two_any 6 (1, 2, ⟨#[]⟩) (1, 3, ⟨#[]⟩) _).mono ?_
  rintro e w5 ⟨g5, rfl, hk5, hb5⟩
  have hbx := bj (bj hb3 hb4) hb5
  have HI5 := Lib.hid (ih_step HI.out hbx)
  have HB5 := Lib.hid (bj HB.out hbx)
  have HK5 := Lib.hid hk5
  clear hk5 hb3 hb4 hb5 hbx HI HB
  go_wp2_with fail
  refine (HE.out _ _ HK5.out).mono ?_
  rintro e w6 ⟨rfl, hb6⟩
  have HI6 := Lib.hid (ih_step HI5.out hb6)
  have HB6 := Lib.hid (bj HB5.out hb6)
  clear hb6 HI5 HB5 HK5
  go_wp2_with fail
  refine (isf_yes (1, 5, ⟨#[]⟩) 0 _ _ _ HI6.out).mono ?_
  rintro e w7 ⟨rfl, hb7⟩
  have HB7 := Lib.hid (bj HB6.out hb7)
  clear hb7 HI6 HB6
  go_wp2_with fail
  refine (mkNumber15 7 _).mono ?_
  rintro e w8 ⟨rfl, hb8⟩
  go_wp2_with fail
  refine (mkis_any (1, 7, ⟨#[]⟩) 0 _).mono ?_
  rintro e w9 ⟨g9, h9, rfl, hi9, hb9⟩
  have HI9 := Lib.hid hi9
  have HB9 := Lib.hid (bj HB7.out (bj hb8 hb9))
  clear hi9 hb8 hb9 HB7
  go_wp2_with fail
  refine (column_any 0 _).mono ?_
  rintro e w10 ⟨rfl, hb10⟩
  have HI10 := Lib.hid (ih_step HI9.out hb10)
  have HB10 := Lib.hid (bj HB9.out hb10)
  have HKB := Lib.hid (Blk.new w10 29 (exC (colX 0)))
  clear hb10 HI9 HB9
  go_wp2_with fail
  refine (mkof_any 21 _ _ _ _).mono ?_
  rintro e w11 ⟨rfl, hb11⟩
  have hba := bj one_alloc hb11
  have HI11 := Lib.hid (ih_step HI10.out hba)
  have HB11 := Lib.hid (bj HB10.out hba)
  have HKB11 := Lib.hid (blk_step HKB.out hb11)
  clear hb11 hba HI10 HB10 HKB
  go_wp2_with fail
  refine (mkNumber15 3 _).mono ?_
  rintro e w12 ⟨rfl, hb12⟩
  have HI12 := Lib.hid (ih_step HI11.out hb12)
  have HB12 := Lib.hid (bj HB11.out hb12)
  have HKB12 := Lib.hid (blk_step HKB11.out hb12)
  have HR0 := Lib.hid (Blk.new w12 23 #[.int .u8 1, .int .i64 3, .string ⟨#[]⟩])
  clear hb12 HI11 HB11 HKB11
  go_wp2_with fail
  refine (mkNumber15 4 _).mono ?_
  rintro e w13 ⟨rfl, hb13⟩
  have hba := bj one_alloc hb13
  have HI13 := Lib.hid (ih_step HI12.out hba)
  have HB13 := Lib.hid (bj HB12.out hba)
  have HKB13 := Lib.hid (blk_step HKB12.out hba)
  have HR13 := Lib.hid (blk_step HR0.out hb13)
  clear hb13 hba HI12 HB12 HKB12 HR0
  have hb2 : Below w13.heap.size w13 ((w13.alloc (.cells #[.int .u8 1, .int .i64 4, .string ⟨#[]⟩] 23)).alloc (.cells #[.slice (some ⟨w12.heap.size, 0, none⟩) 1 1, .slice (some ⟨w13.heap.size, 0, none⟩) 1 1] 42)) := bj one_alloc one_alloc
  have HLO : Hid (Lo ((w13.alloc (.cells #[.int .u8 1, .int .i64 4, .string ⟨#[]⟩] 23)).alloc (.cells #[.slice (some ⟨w12.heap.size, 0, none⟩) 1 1, .slice (some ⟨w13.heap.size, 0, none⟩) 1 1] 42)) (w13.heap.size + 1) w12.heap.size w13.heap.size w10.heap.size ((w13.alloc (.cells #[.int .u8 1, .int .i64 4, .string ⟨#[]⟩] 23)).alloc (.cells #[.slice (some ⟨w12.heap.size, 0, none⟩) 1 1, .slice (some ⟨w13.heap.size, 0, none⟩) 1 1] 42)).heap.size) := Lib.hid (by
    have b0 := blk_step HR13.out hb2
    have b1 := (Blk.new w13 23 #[.int .u8 1, .int .i64 4, .string ⟨#[]⟩]).alloc (.cells #[.slice (some ⟨w12.heap.size, 0, none⟩) 1 1, .slice (some ⟨w13.heap.size, 0, none⟩) 1 1] 42)
    have b2 := blk_new (w13.alloc (.cells #[.int .u8 1, .int .i64 4, .string ⟨#[]⟩] 23)) (w13.heap.size + 1) 42 #[.slice (some ⟨w12.heap.size, 0, none⟩) 1 1, .slice (some ⟨w13.heap.size, 0, none⟩) 1 1] (by simp)
    have b3 := blk_step HKB13.out hb2
    exact ⟨b2.cell 0, b2.cell 1, ⟨b0.cell 0, b0.cell 1, b0.cell 2⟩, ⟨b1.cell 0, b1.cell 1, b1.cell 2⟩, cell8 b3, b2.lt, b0.lt, b1.lt, b3.lt⟩)
  have HI14 := Lib.hid (ih_step HI13.out hb2)
  have HB14 := Lib.hid (bj HB13.out hb2)
  clear hb2 HI13 HB13 HKB13 HR13
  go_wp2_with fail
  refine (fold_works _ _ _ _ _ HLO.out).mono ?_
  rintro e w14 ⟨rfl, hb14⟩
  have HI15 := Lib.hid (ih_step HI14.out hb14)
  have HB15 := Lib.hid (bj HB14.out hb14)
  clear hb14 HI14 HB14 HLO
  go_wp2_with fail
  refine (isf_yes (1, 7, ⟨#[]⟩) 0 _ _ _ HI15.out).mono ?_
  rintro e w15 ⟨rfl, hb15⟩
  have HB16 := Lib.hid (bj HB15.out hb15)
  clear hb15 HI15 HB15
  go_wp2_with fail
  refine (mkNumber15 2 _).mono ?_
  rintro e w16 ⟨rfl, hb16⟩
  have HB17 := Lib.hid (bj HB16.out hb16)
  clear hb16 HB16
  go_wp2_with fail
  refine (vtrue_any (1, 2, ⟨#[]⟩) _).mono ?_
  rintro e w17 ⟨rfl, hb17⟩
  have HB18 := Lib.hid (bj HB17.out hb17)
  clear hb17 HB17
  rw [show trueB (1, 2, ⟨#[]⟩) = true from rfl]
  go_wp2_with fail
  refine (vtrue_any (0, 0, ⟨#[]⟩) _).mono ?_
  rintro e w18 ⟨rfl, hb18⟩
  have HB19 := Lib.hid (bj HB18.out hb18)
  clear hb18 HB18
  rw [show trueB (0, 0, ⟨#[]⟩) = false from rfl]
  go_wp2
  go_ret
  exact ⟨rfl, HB19.out⟩
end Go.Proofs.Ytkgpcodccpckeaa
