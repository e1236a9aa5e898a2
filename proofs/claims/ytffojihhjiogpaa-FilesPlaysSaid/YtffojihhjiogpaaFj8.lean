/- Layer 3: ref03's Cut. Conditions: those of each lemma. -/
import Derived.Test.YtffojihhjiogpaaFj7
namespace Go.Proofs.Ytffojihhjiogpaa
open Go.RowKit Go Go.Maps
set_option linter.unusedVariables false
set_option linter.unusedSimpArgs false
theorem done_one (D : Dk) (c : Ch) : doneAll 0 D [c] = D.setF c.file (doneF (D.fl c.file) c) := by
  show doneA 0 D c = _
  unfold doneA
  rw [Nat.mul_zero, Nat.zero_add]
theorem opD_bad {d : Dk} (h : (opD d []).2 ≠ 0) (made : List Ch) : opD d made = opD d [] := by
  unfold opD at h ⊢
  by_cases h1 : (d.ops : Int) = d.power
  · rw [if_pos h1, if_pos h1]
  · rw [if_neg h1] at h ⊢
    rw [if_neg h1]
    by_cases h2 : d.armed d.ops ≠ 0
    · rw [if_pos h2, if_pos h2]
    · rw [if_neg h2] at h; exact absurd rfl h
theorem opD_good {d : Dk} (h : (opD d []).2 = 0) (made : List Ch) : (opD d []).1.loose = d.loose ∧ opD d made = ({ doneAll 0 (opD d []).1 made with loose := (opD d []).1.loose ++ made }, 0) := by
  unfold opD at h ⊢
  by_cases h1 : (d.ops : Int) = d.power
  · rw [if_pos h1] at h; exact absurd h (by simp)
  · rw [if_neg h1] at h ⊢
    rw [if_neg h1]
    by_cases h2 : d.armed d.ops ≠ 0
    · rw [if_pos h2] at h; exact absurd h h2
    · rw [if_neg h2]
      refine ⟨List.append_nil _, ?_⟩
      rw [if_neg h2]
      have e : (({ doneAll 0 d.op1 [] with loose := d.loose ++ [] } : Dk)) = d.op1 := by rw [List.append_nil]; rfl
      rw [e]
      rfl
theorem fr_down {S S' : Nat → Prop} {u v w : World} (h : Fr S u v) (k : Fr S' v w) (hs : ∀ b, S' b → S b ∨ u.heap.size ≤ b) : Fr S u w := fr_trans h k hs
theorem blk4_get {W : World} {g : Nat} {t : TypeId} {c : Ch} (h : Blk W g t (rcC c)) : W.cell? ⟨g, 0, none⟩ = some (.int .i64 c.file) ∧ W.cell? ⟨g, 1, none⟩ = some (.int .i64 c.pl) ∧ W.cell? ⟨g, 2, none⟩ = some (.bool c.cut) ∧ W.cell? ⟨g, 3, none⟩ = some (.string (chS c)) := cell4J h
/-- behind both: the file is another one, the change is loose -/
theorem loose_put {Wc W2 wB : World} {S : Nat → Prop} {g : Nat} {m : Rm} {d : Dk} {al : List (Int × Int)} {N k2 n : Nat} {A2 : Option Addr} {c : Ch} (h : RkAt Wc S g m d al N) (hb : Below Wc.heap.size Wc W2) (hc : ChOk c) (hl : d.loose.length + 1 ≤ 8192 * N) (hn : n = d.loose.length)
    (ho : wB.ownsRow 0 94 4 (.slice A2 (n + 1) k2) (n + 1) (rcL d.loose ++ [.int .i64 c.file, .int .i64 c.pl, .bool c.cut, .string (chS c)])) (hg : W2.grownBy wB (Value.slice m.L n m.lc).ownBlock)
    (ht : (Value.slice A2 (n + 1) k2).ownBlock = (Value.slice m.L n m.lc).ownBlock ∨ (Value.slice A2 (n + 1) k2).ownBlock = some W2.heap.size) :
    RkR Wc S g { d with loose := d.loose ++ [c] } N (wB.setCell ⟨g, 16, none⟩ (.slice A2 (n + 1) k2)) := by
  subst hn
  rw [ownBlock_lbk] at hg ht
  rw [ownBlock_lbk] at ht
  have h2 := rkAt_below h hb
  have hlt2 := h2.p.lt
  refine rkR_of (rk_loose (l := d.loose ++ [c]) h2 hg (by rw [List.length_append]; rfl) (by rw [rcL_app]; exact ho) (fun z hz => ?_) (fun x hx => ?_) (by rw [List.length_append]; exact hl)) (fr_set (p := ⟨g, 16, none⟩) (fr_grown (fr_of (S := S) hb) hg (fun z hz => .inl (h.p.ls z hz).1)) (.inl h.p.sg) _) (fun b hb2 => ?_)
  · rcases ht with h1 | h1
    · rw [h1] at hz; exact .inl hz
    · rw [h1] at hz; cases hz
      exact .inr (fun b hs e => by have := hlt2 b hs; omega)
  · rcases List.mem_append.1 hx with h1 | h1
    · exact h.p.chs x h1
    · rw [List.mem_singleton.1 h1]; exact hc
  · rcases hb2 with h1 | h1
    · exact .inl h1
    · rcases ht with h3 | h3
      · rw [h3] at h1; exact .inl (h.p.ls b h1).1
      · rw [h3] at h1; cases h1
        exact .inr hb.size
theorem rkR_join {w u x : World} {S S1 : Nat → Prop} {g : Nat} {d : Dk} {N : Nat} (hf : Fr S w u) (hs : ∀ b, S1 b → S b ∨ w.heap.size ≤ b) (k : RkR u S1 g d N x) : RkR w S g d N x := by
  obtain ⟨S2, k1, k2, k3⟩ := k
  refine ⟨S2, k1, fr_trans hf k2 hs, fun b hb => ?_⟩
  rcases k3 b hb with h | h
  · exact hs b h
  · exact .inr (Nat.le_trans hf.size h)
/-- the file i is what does answered -/
theorem file_put {W2 w3 : World} {S : Nat → Prop} {g : Nat} {m : Rm} {d : Dk} {al : List (Int × Int)} {N i k : Nat} {A : Option Addr} {l : Fl} (h : RkAt W2 S g m d al N) (hi : i < 16) (hok : FlOk l) (hp : RdS w3 A l ∧ (l ≠ [] → ∀ a, A = some a → W2.drew.heap.size ≤ a.block) ∧ Below W2.drew.heap.size W2.drew w3) :
    RkAt (w3.setCell ⟨g, i, none⟩ (.slice A l.length k)) (fun b => S b ∨ (b < w3.heap.size ∧ W2.heap.size ≤ b)) g (m.file i A k) (d.setF i l) al N ∧ Fr S W2 (w3.setCell ⟨g, i, none⟩ (.slice A l.length k)) := by
  have hb : Below W2.heap.size W2 w3 := bj (Below.refl W2.heap.size W2).drew hp.2.2
  have h3 := rkAt_below h hb
  have hlt := h.p.lt
  have hw : W2.drew.heap.size = W2.heap.size := rfl
  refine ⟨rk_file h3 hi rfl (fun b hs => .inl hs) (fun b hs => ?_) hp.1 (fun hne a ha => ?_) hok, fr_set (p := ⟨g, i, none⟩) (fr_of (S := S) hb) (.inl h.p.sg) _⟩
  · rcases hs with h1 | h1
    · exact h3.p.lt b h1
    · exact h1.1
  · have h1 := hp.2.1 hne a ha
    rw [hw] at h1
    obtain ⟨a', hA, hlt2, _⟩ := rdS_get hp.1 (List.length_pos_iff.2 hne)
    rw [ha] at hA; cases hA
    refine ⟨.inr ⟨hlt2, h1⟩, fun e => ?_, fun z hz e => ?_⟩
    · have := hlt g h.p.sg; omega
    · have := hlt z (h.p.ls z hz).1; omega
theorem rkR_more {w w' : World} {S : Nat → Prop} {g : Nat} {d : Dk} {N M : Nat} (h : RkR w S g d N w') (hN : N ≤ M) (hM : M ≤ 1000000) : RkR w S g d M w' := by
  obtain ⟨S', ⟨m, al, h1⟩, h2, h3⟩ := h
  exact ⟨S', ⟨m, al, rk_more h1 hN hM⟩, h2, h3⟩
set_option maxRecDepth 100000 in
set_option maxHeartbeats 8000000 in
theorem rcut_any (S : Nat → Prop) (g : Nat) (d : Dk) (N : Nat) (hN : N + 1 ≤ 1000000) (f n : Int) (w : World) (h : RkS w S g d N) :
    Calls Try.prog 27 #[.pointer (some ⟨g, 0, none⟩), .int .i64 f, .int .i64 n] w fun e w' => e = .returned (.int .i64 (cutD d f n).2) ∧ RkR w S g (cutD d f n).1 (N + 1) w' := by
  have HME := Lib.hid (rmeets_any S g d N hN w h)
  have HSAME := Lib.hid (rkR_more (rkR_refl h) (Nat.le_succ N) hN)
  obtain ⟨m, al, hm⟩ := h
  obtain ⟨_, _, _, _, c20⟩ := rkAt_cells hm
  have HIN := Lib.hid (fun W => rin_any f W)
  obtain ⟨R, hR⟩ : ∃ R, cutD d f n = R := ⟨_, rfl⟩
  rw [hR]
  unfold cutD readyD at hR
  cases ho : d.off with
  | true =>
    rw [ho] at hR c20
    rw [if_pos (by simp), if_pos rfl] at hR
    subst hR
    clear hm
    go_enter Try.func27, Try.ntmps27
    go_wp2
    go_ret
    exact ⟨rfl, HSAME.out⟩
  | false =>
  rw [ho] at hR c20
  cases hi : inF f with
  | false =>
    rw [hi] at hR HIN
    rw [if_pos (by simp)] at hR
    subst hR
    clear hm
    go_enter Try.func27, Try.ntmps27
    go_wp2_with fail
    refine (HIN.out _).mono ?_
    rintro e w1 ⟨rfl, rfl⟩
    go_wp2
    go_ret
    exact ⟨rfl, HSAME.out⟩
  | true =>
  rw [hi] at hR HIN
  rw [if_neg (by simp)] at hR
  obtain ⟨hf0, hf8⟩ : 0 ≤ f ∧ f < 8 := by unfold inF at hi; simpa using hi
  rw [sizeD_of d hf0 hf8] at hR
  obtain ⟨i, rfl⟩ := Int.eq_ofNat_of_zero_le hf0
  have hi8 : i < 8 := by omega
  have cf := rk_now hm (show i < 16 by omega)
  have hl8 := (hm.p.ok i (by omega)).1
  rw [Int.toNat_natCast] at hR
  have hlo := hm.p.cN.2.1
  obtain ⟨z, hz⟩ : ∃ z, (d.fl i).length = z := ⟨_, rfl⟩
  rw [hz] at cf hR hl8
  have hlI : (z : Int) ≤ 8192 := by omega
  have HZ := Lib.hid hlo
  clear hm hz hi ho hlo
  by_cases h2 : n < 0
  · have b2 : decide (n < 0) = true := decide_eq_true h2
    rw [if_pos (.inl h2)] at hR
    subst hR
    go_enter Try.func27, Try.ntmps27
    go_wp2_with fail
    refine (HIN.out _).mono ?_
    rintro e w1 ⟨rfl, rfl⟩
    go_wp2
    go_ret
    exact ⟨rfl, HSAME.out⟩
  have b2 : decide (n < 0) = false := decide_eq_false h2
  by_cases h3 : (z : Int) < n
  · have b3 : decide ((z : Int) < n) = true := decide_eq_true h3
    rw [if_pos (.inr h3)] at hR
    subst hR
    go_enter Try.func27, Try.ntmps27
    go_wp2_with fail
    refine (HIN.out _).mono ?_
    rintro e w1 ⟨rfl, rfl⟩
    go_wp2
    go_ret
    exact ⟨rfl, HSAME.out⟩
  have b3 : decide ((z : Int) < n) = false := decide_eq_false h3
  rw [if_neg (by omega)] at hR
  obtain ⟨p, rfl⟩ := Int.eq_ofNat_of_zero_le (show 0 ≤ n by omega)
  rw [Int.toNat_natCast] at hR
  have HR := Lib.hid hR
  have hp8 : p ≤ 8192 := by omega
  have b3n : decide (z < p) = false := decide_eq_false (by omega)
  clear hR h2 h3 HSAME
  go_enter Try.func27, Try.ntmps27
  go_wp2_with fail
  refine (HIN.out _).mono ?_
  rintro e w1 ⟨rfl, rfl⟩
  go_wp2_with fail
  refine (HME.out).mono ?_
  rintro e w1 ⟨rfl, hr1⟩
  by_cases he : (opD d []).2 = 0
  case neg =>
    have hbad := opD_bad he [cutC i p]
    have HE := Lib.hid (show (opD d []).2 = R.2 ∧ RkR w S g R.1 (N + 1) w1 from by rw [← HR.out, hbad]; exact ⟨rfl, hr1⟩)
    generalize (opD d []).2 = v at *
    have hvb : (v == 0) = false := by simpa using he
    have hvb2 : (v != 0) = true := by simpa using he
    clear hr1 hbad HR
    go_wp2
    go_ret
    exact ⟨by rw [← HE.out.1]; rfl, HE.out.2⟩
  have hgood := opD_good he [cutC i p]
  rw [HR.out] at hgood
  rw [he]
  have hg1 := hgood.1
  have hg2 := hgood.2
  clear hgood HR HME he
  generalize (opD d []).1 = D at *
  obtain ⟨S1, ⟨m1, al1, hm1⟩, hf1, hs1⟩ := hr1
  have hlD : D.loose.length + 1 ≤ 8192 * (N + 1) := by rw [hg1]; have := HZ.out; omega
  have hck : ChOk (cutC i p) := ⟨hi8, hp8, (fun h => by simp [cutC] at h), zS_ok⟩
  have hq := Blk.new w1 94 (rcC (cutC i p))
  have hm2 := rkAt_below hm1 (one_alloc (o := .cells (rcC (cutC i p)) 94))
  have hgq : g < w1.heap.size := hm1.p.lt _ hm1.p.sg
  have HJ := Lib.hid (And.intro hf1 (And.intro hs1 (And.intro hlD (And.intro hck hg2))))
  have HGQ := Lib.hid hgq
  clear c20 cf b2 b3 b3n
  go_wp2_with fail
  obtain ⟨W2, hW2⟩ : ∃ W2, w1.alloc (.cells #[.int .i64 i, .int .i64 p, .bool true, .string ⟨#[]⟩] 94) = W2 := ⟨_, rfl⟩
  have hm2 : RkAt W2 S1 g m1 D al1 (N + 1) := hW2 ▸ hm2
  have hq : Blk W2 w1.heap.size 94 (rcC (cutC i p)) := hW2 ▸ hq
  have HB2 := Lib.hid (show Below w1.heap.size w1 W2 from hW2 ▸ one_alloc)
  have cf2 := rk_now hm2 (show i < 16 by omega)
  obtain ⟨q0, q1, q2, q3⟩ : W2.cell? ⟨w1.heap.size, 0, none⟩ = some (.int .i64 i) ∧ W2.cell? ⟨w1.heap.size, 1, none⟩ = some (.int .i64 p) ∧ W2.cell? ⟨w1.heap.size, 2, none⟩ = some (.bool true) ∧ W2.cell? ⟨w1.heap.size, 3, none⟩ = some (.string ⟨#[]⟩) := blk4_get hq
  have HM2 := Lib.hid hm2
  have HQ := Lib.hid hq
  have HDO := Lib.hid (fun V (hb : Below W2.heap.size W2 V) => (show Calls Try.prog 52 #[.slice (m1.V i) (D.fl i).length (m1.vc i), .agg #[.int .i64 i, .int .i64 p, .bool true, .string ⟨#[]⟩]] V (DoP V (doneF (D.fl i) (cutC i p))) from does_any _ _ _ _ (cutC i p) V rfl (hm2.p.ok i (by omega)) hck (rdS_below (hm2.p.fl i (by omega)) hb)))
  have HBD := Lib.hid (show Below W2.heap.size W2 W2.drew from (Below.refl _ _).drew)
  have HW2 := Lib.hid hW2
  clear hm1 hf1 hs1 hlD hck hg1 hg2 hm2 hq
  rw [hW2]
  clear hW2
  go_region_with
    ((go_at_call 52; (with_reducible refine (HDO.out _ HBD.out).mono ?_); rintro e w3 ⟨A3, k3, rfl, hrd3, hfr3, hb3⟩; (have HB3 := Lib.hid (bj HBD.out hb3)); (have z3 := (rkAt_cell (rkAt_below HM2.out HB3.out) (show i < 21 by omega)).2); (have y3 := rk_now (rkAt_below HM2.out HB3.out) (show i < 16 by omega)); (have HP3 := Lib.hid (And.intro hrd3 (And.intro hfr3 hb3))); clear hrd3 hfr3 hb3))
  all_goals
    have hfp := file_put (k := k3) HM2.out (show i < 16 by omega) (doneF_ok (HM2.out.p.ok i (by omega)) HJ.out.2.2.2.1) HP3.out
    have hq4 := (blk_step HQ.out HB3.out).far (p := ⟨g, i, none⟩) (by have := HGQ.out; show w1.heap.size ≠ g; omega) (.slice A3 (doneF (D.fl i) (cutC i p)).length k3)
    generalize w3.setCell ⟨g, i, none⟩ (.slice A3 (doneF (D.fl i) (cutC i p)).length k3) = Wc at hfp hq4 ⊢
    have HFP := Lib.hid hfp
    obtain ⟨p0, p1, p2, p3⟩ : Wc.cell? ⟨w1.heap.size, 0, none⟩ = some (.int .i64 i) ∧ Wc.cell? ⟨w1.heap.size, 1, none⟩ = some (.int .i64 p) ∧ Wc.cell? ⟨w1.heap.size, 2, none⟩ = some (.bool true) ∧ Wc.cell? ⟨w1.heap.size, 3, none⟩ = some (.string ⟨#[]⟩) := blk4_get hq4
    obtain ⟨n0, hn0⟩ : ∃ n0, D.loose.length = n0 := ⟨_, rfl⟩
    have p16 : Wc.cell? ⟨g, 16, none⟩ = some (.slice m1.L n0 m1.lc) := by rw [← hn0]; exact (rkAt_cells hfp.1).1
    have dz : ∀ o, (Wc.alloc o).cell? ⟨g, 16, none⟩ = some (.slice m1.L n0 m1.lc) := fun o => by rw [← hn0]; exact (rkAt_cells (rkAt_below hfp.1 (one_alloc (o := o)))).1
    have HOW := Lib.hid (own_belowJ hfp.1.p.loo (one_alloc (w := Wc) (o := .cells #[.int .i64 i, .int .i64 p, .bool true, .string ⟨#[]⟩] 94)).drew)
    have HRD := Lib.hid ((reads_four (Blk.new Wc 94 #[.int .i64 i, .int .i64 p, .bool true, .string ⟨#[]⟩]).drew))
    have HFIN := Lib.hid (fun (wB : World) (A2 : Option Addr) (k2 : Nat) (ho : wB.ownsRow 0 94 4 (.slice A2 (n0 + 1) k2) (n0 + 1) (rcL D.loose ++ [.int .i64 i, .int .i64 p, .bool true, .string ⟨#[]⟩])) (hg : ((Wc.alloc (.cells #[.int .i64 i, .int .i64 p, .bool true, .string ⟨#[]⟩] 94)).drew).grownBy wB (Value.slice m1.L n0 m1.lc).ownBlock) (ht : (Value.slice A2 (n0 + 1) k2).ownBlock = (Value.slice m1.L n0 m1.lc).ownBlock ∨ (Value.slice A2 (n0 + 1) k2).ownBlock = some ((Wc.alloc (.cells #[.int .i64 i, .int .i64 p, .bool true, .string ⟨#[]⟩] 94)).drew).heap.size) =>
      loose_put (c := cutC i p) HFP.out.1 (one_alloc (w := Wc) (o := .cells #[.int .i64 i, .int .i64 p, .bool true, .string ⟨#[]⟩] 94)).drew HJ.out.2.2.2.1 HJ.out.2.2.1 hn0.symm ho hg ht)
    have HG16 := Lib.hid (fun (wB : World) (hg : ((Wc.alloc (.cells #[.int .i64 i, .int .i64 p, .bool true, .string ⟨#[]⟩] 94)).drew).grownBy wB (Value.slice m1.L n0 m1.lc).ownBlock) => (show wB.cell? ⟨g, 16, none⟩ = some (.slice m1.L n0 m1.lc) ∧ wB.frozen? ⟨g, 16, none⟩ = false from by
      have hk := rkAt_below HFP.out.1 (one_alloc (w := Wc) (o := .cells #[.int .i64 i, .int .i64 p, .bool true, .string ⟨#[]⟩] 94)).drew
      have hb := hk.blk.grown hg (fun e => by
        rw [ownBlock_lbk] at e
        exact (hk.p.ls g e.symm).2 rfl)
      refine ⟨?_, hb.frozen _⟩
      rw [hb.cell, rkA_get _ _ _ (by omega), ← hn0]
      rfl))
    obtain ⟨iv, hv1, hv2, hv3, hv4⟩ := info_parts chg_info
    have hnL : n0 ≤ 8192000000 := by have h1 := HJ.out.2.2.1; rw [hn0] at h1; omega
    have hnLI : (n0 : Int) ≤ 8192000000 := by omega
    have HONE := Lib.hid (rcL_one D.loose)
    have HOW : Hid (((Wc.alloc (.cells #[.int .i64 i, .int .i64 p, .bool true, .string ⟨#[]⟩] 94)).drew).ownsRow 0 94 4 (.slice m1.L n0 m1.lc) n0 (rcL D.loose)) := Lib.hid (by have h := HOW.out; rw [← hn0]; exact h)
    generalize rcL D.loose = RL at *
    clear hfp hq4 q0 q1 q2 q3 cf2 z3 y3 hn0
    go_wp2_with fail
    go_region_law (first
      | (refine step_append_j _ (by rfl) (.tmp 57) (.tmp 59) 53 (by rfl) 0 94 iv _ 4 40 Try.underlying53 hv1 hv2 hv3 hv4 rfl (by omega) _ n0 RL (by rfl) HOW.out _ (some ⟨Wc.heap.size, 0, none⟩) 1 1 [.int .i64 i, .int .i64 p, .bool true, .string ⟨#[]⟩] (by rfl) HRD.out (by intro u hu; simp at hu; rcases hu with rfl | rfl | rfl | rfl <;> rfl) (by simp only [maxLen]; omega) (by omega) (Nat.zero_le _) ?_; intro A2 k2 wB hown2 hgr2 hat2; (obtain ⟨w16, x16⟩ := HG16.out wB hgr2); (have HE := Lib.hid (HFIN.out wB A2 k2 hown2 hgr2 hat2)); clear hown2 hgr2 hat2))
    all_goals
      have HEND := Lib.hid (rkR_join (fr_step HJ.out.1 HB2.out) HJ.out.2.1 (rkR_join HFP.out.2 (fun b hb => hb.imp id (·.2)) HE.out))
      go_wp2
      go_ret
      refine ⟨?_, ?_⟩
      · rw [HJ.out.2.2.2.2]; rfl
      · rw [HJ.out.2.2.2.2]
        have h := HEND.out
        rw [done_one]
        exact h
end Go.Proofs.Ytffojihhjiogpaa
