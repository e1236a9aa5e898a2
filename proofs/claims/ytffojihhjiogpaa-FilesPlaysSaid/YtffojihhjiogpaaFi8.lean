/- Layer 3: files.New, Power, Arm. Conditions: those of each lemma. -/
import Derived.Test.YtffojihhjiogpaaFi7
namespace Go.Proofs.Ytffojihhjiogpaa
open Go.RowKit Go Go.Maps
set_option linter.unusedVariables false
set_option linter.unusedSimpArgs false
def newD : Dk := ⟨fun _ => [], [], fun _ => 0, -1, 0, false⟩
def newM (ga : Nat) : Mm := ⟨fun _ => none, ga, none, 0⟩
theorem new_at (w : World) (W : World) (hblk : Blk W (w.heap.size + 1) 70 (dkA newD (newM w.heap.size))) (hmap : W.ownsMap (H := Value) Try.prog 3 (plainElem Try.prog 24) w.heap.size 0 (.map [])) :
    DkAt W (fun b => b = w.heap.size ∨ b = w.heap.size + 1) (w.heap.size + 1) (newM w.heap.size) newD 0 := by
  refine { blk := hblk, fl := fun i hi => ?_, ok := fun i hi => ?_, ap := fun i j hi hj hij b hb => ?_, arm := ⟨_, 0, Nat.le_refl _, hmap, fun k => rfl⟩, ga := fun i hi e => ?_, loo := World.ownsRow_nil _ _ _ _, chs := fun c hc => ?_, ng := fun z hz => ?_, sg := .inr rfl, sm := fun i hi b e => ?_, sa := .inl rfl, sl := fun z hz => ?_, lt := fun b hb => ?_, cN := ⟨Nat.le_refl _, Nat.le_refl _, by omega⟩, pw := ⟨by decide, by decide⟩ }
  · intro j hj
    exact absurd hj (Nat.not_lt_zero j)
  · exact ⟨Nat.zero_le _, fun s hs => absurd hs (List.not_mem_nil)⟩
  · cases hb
  · cases e
  · cases hc
  · cases hz
  · cases e
  · cases hz
  · rcases hb with rfl | rfl
    · exact hmap.lt
    · exact hblk.lt
set_option maxRecDepth 100000 in
set_option maxHeartbeats 4000000 in
theorem new_any (w : World) : Calls Try.prog 9 #[] w fun e w' => e = .returned (.pointer (some ⟨w.heap.size + 1, 0, none⟩)) ∧ DkS w' (fun b => b = w.heap.size ∨ b = w.heap.size + 1) (w.heap.size + 1) newD 0 ∧ Below w.heap.size w w' := by
  have hmm := @run_makeMap Try.prog
  go_enter Try.func9, Try.ntmps9
  go_wp2
  go_ret
  refine ⟨rfl, ⟨_, new_at w _ ?_ ?_⟩, bj one_alloc one_alloc⟩
  · exact blk_new _ _ _ _ (by simp)
  · exact (World.ownsMap_made w Try.prog 3 _).alloc _
def powerD (d : Dk) (n : Int) : Dk × Int := if n < 0 ∨ 1099511627776 < n then (d, 2) else ({ d with power := d.ops + n }, 0)
theorem dkA_pow (d : Dk) (m : Mm) (p : Int) : (dkA d m).setIfInBounds 34 (.int .i64 p) = dkA { d with power := p } m := by
  refine dkA_set _ _ fun k hk => ?_
  by_cases e : k = 34
  · subst e; rfl
  · rw [if_neg e]
    unfold dkCell
    by_cases h1 : k < 32
    · rw [if_pos h1, if_pos h1]
    · rw [if_neg h1, if_neg h1]
      by_cases e2 : k = 32
      · subst e2; rfl
      · rw [if_neg e2, if_neg e2]
        by_cases e3 : k = 33
        · subst e3; rfl
        · rw [if_neg e3, if_neg e3, if_neg e, if_neg e]
theorem pow_at {w : World} {S : Nat → Prop} {g : Nat} {m : Mm} {d : Dk} {N : Nat} (h : DkAt w S g m d N) (p : Int) (hp : -1 ≤ p ∧ p ≤ 2000000000000) : DkAt (w.setCell ⟨g, 34, none⟩ (.int .i64 p)) S g m { d with power := p } N :=
  dkAt_field h { d with power := p } N rfl rfl rfl (by rw [← dkA_pow d m p]; exact h.blk.set_ 34 _) (fr_one _ _ _ _) ⟨h.cN.1, Nat.le_refl _, h.cN.2.2⟩ hp
theorem dkR_refl {w : World} {S : Nat → Prop} {g : Nat} {d : Dk} {N : Nat} (h : DkS w S g d N) : DkR w S g d N w := ⟨S, h, fr_refl _ _, fun _ hb => .inl hb⟩
set_option maxRecDepth 100000 in
set_option maxHeartbeats 4000000 in
theorem power_any (S : Nat → Prop) (g : Nat) (d : Dk) (N : Nat) (n : Int) (w : World) (h : DkS w S g d N) : Calls Try.prog 20 #[.pointer (some ⟨g, 0, none⟩), .int .i64 n] w fun e w' => e = .returned (.int .i64 (powerD d n).2) ∧ DkR w S g (powerD d n).1 N w' := by
  have HH := Lib.hid h
  obtain ⟨m, hm⟩ := h
  unfold powerD
  by_cases h0 : n < 0
  · rw [if_pos (.inl h0)]
    have HR := Lib.hid (dkR_refl HH.out)
    have h0b : decide (n < 0) = true := decide_eq_true h0
    clear hm
    go_enter Try.func20, Try.ntmps20
    go_wp2
    go_ret
    exact ⟨rfl, HR.out⟩
  by_cases h1 : 1099511627776 < n
  · rw [if_pos (.inr h1)]
    have HR := Lib.hid (dkR_refl HH.out)
    have h0b : decide (n < 0) = false := decide_eq_false h0
    have h1b : decide (1099511627776 < n) = true := decide_eq_true h1
    clear hm
    go_enter Try.func20, Try.ntmps20
    go_wp2
    go_ret
    exact ⟨rfl, HR.out⟩
  · rw [if_neg (by omega)]
    have h0b : decide (n < 0) = false := decide_eq_false h0
    have h1b : decide (1099511627776 < n) = false := decide_eq_false h1
    have hops : (d.ops : Int) ≤ 1000000 := by have := hm.cN; omega
    have hA := pow_at hm ((d.ops : Int) + n) (by omega)
    have HR := Lib.hid (dkR_of (w := w) hA (fr_set (fr_refl _ _) (p := ⟨g, 34, none⟩) (.inl hm.sg) _))
    obtain ⟨y2, y3, y4, y5, y6, z2, z3, z4, z5, z6⟩ := dk_more hm.blk
    have hn0 : 0 ≤ n := by omega
    have hn1 : n ≤ 1099511627776 := by omega
    clear hm hA h0 h1
    go_enter Try.func20, Try.ntmps20
    go_wp2
    go_ret
    exact ⟨rfl, HR.out⟩
set_option maxRecDepth 100000 in
set_option maxHeartbeats 4000000 in
theorem power_nil (n : Int) (w : World) : Calls Try.prog 20 #[.pointer none, .int .i64 n] w fun e w' => e = .returned (.int .i64 1) ∧ w = w' := by
  go_enter Try.func20, Try.ntmps20
  go_wp2
  go_ret
  exact ⟨rfl, rfl⟩
set_option maxRecDepth 100000 in
set_option maxHeartbeats 4000000 in
theorem arm_nil (n e0 : Int) (w : World) : Calls Try.prog 17 #[.pointer none, .int .i64 n, .int .i64 e0] w fun e w' => e = .returned (.int .i64 1) ∧ w = w' := by
  go_enter Try.func17, Try.ntmps17
  go_wp2
  go_ret
  exact ⟨rfl, rfl⟩
def armD (d : Dk) (n e : Int) : Dk × Int := if n < 0 ∨ 1099511627776 < n ∨ (e ≠ 30 ∧ e ≠ 31) then (d, 2) else ({ d with armed := fun k => if k = d.ops + n then e else d.armed k }, 0)
theorem arm_put {W : World} {S : Nat → Prop} {g : Nat} {m : Mm} {d : Dk} {N : Nat} (h : DkAt W S g m d N) (hN : N + 1 ≤ 1000000) (k e : Int) (h0 : -9223372036854775808 ≤ k) (h1 : k ≤ 9223372036854775807) (he : 0 ≤ e ∧ e ≤ 1000) :
    ∃ W', (Instr.mapUpdate 63 (.map (some m.ga)) (.int .i64 k) (.int .i64 e)).run Try.prog W = .ok () W' ∧ DkAt W' S g m { d with armed := fun j => if j = k then e else d.armed j } (N + 1) ∧ Fr (fun b => some m.ga = some b) W W' := by
  obtain ⟨D, n, hn, ho, hk⟩ := h.arm
  have hcN := h.cN
  obtain ⟨W', hrun, hown', hT⟩ := ho.store keyed Try.underlying63 (by unfold maxLen; omega) (key := .int .i64 k) (val := .int .i64 e) (key_int k h0 h1) (d := .lit (.int .i64 e)) (ps := []) (plainElem_int Try.underlying24 (by
    have e3 : IntKind.i64.min = -9223372036854775808 := rfl
    have e4 : IntKind.i64.max = 9223372036854775807 := rfl
    simp [Lit.wf, e3, e4]; omega))
  have hfr : Fr (fun b => some m.ga = some b) W W' := fr_grown (fr_refl _ _) hT.grown (fun z hz => .inl hz)
  refine ⟨W', hrun, dkAt_arm h _ (N + 1) ⟨by omega, hN⟩ ⟨_, n + 1, by omega, hown', fun j => ?_⟩ hfr, hfr⟩
  by_cases e2 : j = k
  · subst e2; rw [Maps.atKey_put_same ho.isMap (ki_key _), if_pos rfl]
  · rw [Maps.atKey_put_other (fun e3 => e2 (ki_inj e3)), if_neg e2]; exact hk j
set_option maxRecDepth 100000 in
set_option maxHeartbeats 4000000 in
theorem arm_bad (S : Nat → Prop) (g : Nat) (d : Dk) (N : Nat) (n e0 : Int) (w : World) (h : DkS w S g d N) (hb : n < 0 ∨ 1099511627776 < n ∨ (e0 ≠ 30 ∧ e0 ≠ 31)) : Calls Try.prog 17 #[.pointer (some ⟨g, 0, none⟩), .int .i64 n, .int .i64 e0] w fun e w' => e = .returned (.int .i64 2) ∧ w = w' := by
  by_cases h0 : n < 0
  · have h0b : decide (n < 0) = true := decide_eq_true h0
    clear h hb
    go_enter Try.func17, Try.ntmps17
    go_wp2
    go_ret
    exact ⟨rfl, rfl⟩
  by_cases h1 : 1099511627776 < n
  · have h0b : decide (n < 0) = false := decide_eq_false h0
    have h1b : decide (1099511627776 < n) = true := decide_eq_true h1
    clear h hb
    go_enter Try.func17, Try.ntmps17
    go_wp2
    go_ret
    exact ⟨rfl, rfl⟩
  · obtain ⟨h2, h3⟩ := (hb.resolve_left h0).resolve_left h1
    have h0b : decide (n < 0) = false := decide_eq_false h0
    have h1b : decide (1099511627776 < n) = false := decide_eq_false h1
    have h2b : (e0 != 30) = true := by rw [bne_iff_ne]; exact h2
    have h3b : (e0 != 31) = true := by rw [bne_iff_ne]; exact h3
    clear h hb h2 h3
    go_enter Try.func17, Try.ntmps17
    go_wp2
    go_ret
    exact ⟨rfl, rfl⟩
set_option maxRecDepth 100000 in
set_option maxHeartbeats 4000000 in
theorem arm_good (S : Nat → Prop) (g : Nat) (d : Dk) (N : Nat) (hN : N + 1 ≤ 1000000) (n e0 : Int) (w : World) (h : DkS w S g d N) (h0 : 0 ≤ n) (h1 : n ≤ 1099511627776) (he : e0 = 30 ∨ e0 = 31) : Calls Try.prog 17 #[.pointer (some ⟨g, 0, none⟩), .int .i64 n, .int .i64 e0] w fun e w' => e = .returned (.int .i64 0) ∧ DkR w S g { d with armed := fun k => if k = d.ops + n then e0 else d.armed k } (N + 1) w' := by
  obtain ⟨m, hm⟩ := h
  have h0b : decide (n < 0) = false := decide_eq_false (by omega)
  have h1b : decide (1099511627776 < n) = false := decide_eq_false (by omega)
  have hops : (d.ops : Int) ≤ 1000000 := by have := hm.cN; omega
  have hm2 := dkAt_below hm ((Below.refl w.heap.size w).drew)
  obtain ⟨W', hrun, hA, hf⟩ := arm_put hm2 hN ((d.ops : Int) + n) e0 (by omega) (by omega) (by omega)
  have HR := Lib.hid (dkR_of (w := w) hA (fr_trans (fr_of ((Below.refl _ w).drew)) hf (fun b hb => .inl (by injection hb with hb; rw [← hb]; exact hm.sa))))
  obtain ⟨y2, y3, y4, y5, y6, z2, z3, z4, z5, z6⟩ := dk_more hm.blk
  clear hm hA hm2 hf
  rcases he with rfl | rfl
  · go_enter Try.func17, Try.ntmps17
    go_wp2
    go_region
    go_wp2
    go_ret
    exact ⟨rfl, HR.out⟩
  · go_enter Try.func17, Try.ntmps17
    go_wp2
    go_region
    go_wp2
    go_ret
    exact ⟨rfl, HR.out⟩
theorem dkS_more {w : World} {S : Nat → Prop} {g : Nat} {d : Dk} {N : Nat} (h : DkS w S g d N) (hN : N + 1 ≤ 1000000) : DkS w S g d (N + 1) := by
  obtain ⟨m, hm⟩ := h
  have hcN := hm.cN
  obtain ⟨D, n, hn, ho, hk⟩ := hm.arm
  exact ⟨m, { hm with arm := ⟨D, n, by omega, ho, hk⟩, cN := ⟨by omega, by omega, hN⟩ }⟩
theorem arm_any (S : Nat → Prop) (g : Nat) (d : Dk) (N : Nat) (hN : N + 1 ≤ 1000000) (n e0 : Int) (w : World) (h : DkS w S g d N) : Calls Try.prog 17 #[.pointer (some ⟨g, 0, none⟩), .int .i64 n, .int .i64 e0] w fun e w' => e = .returned (.int .i64 (armD d n e0).2) ∧ DkR w S g (armD d n e0).1 (N + 1) w' := by
  unfold armD
  by_cases hb : n < 0 ∨ 1099511627776 < n ∨ (e0 ≠ 30 ∧ e0 ≠ 31)
  · rw [if_pos hb]
    exact (arm_bad S g d N n e0 w h hb).mono fun e w' ⟨he, hw⟩ => ⟨he, by subst hw; exact dkR_refl (dkS_more h hN)⟩
  · rw [if_neg hb]
    exact arm_good S g d N hN n e0 w h (by omega) (by omega) (by omega)
end Go.Proofs.Ytffojihhjiogpaa
