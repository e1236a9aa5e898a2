/- Layer 3: files.operation, where the power goes or what is armed is met. Conditions: those of each lemma. -/
import Derived.Test.YtffojihhjiogpaaFi4
namespace Go.Proofs.Ytffojihhjiogpaa
open Go.RowKit Go Go.Maps
set_option linter.unusedVariables false
set_option linter.unusedSimpArgs false
theorem dkAt_field {W W' : World} {S : Nat → Prop} {g : Nat} {m : Mm} {d : Dk} {N : Nat} (h : DkAt W S g m d N) (d' : Dk) (N' : Nat) (hfl : d'.fl = d.fl) (hlo : d'.loose = d.loose) (har : d'.armed = d.armed)
    (hblk : Blk W' g 70 (dkA d' m)) (hf : Fr (fun b => b = g) W W') (hN : d'.ops ≤ N' ∧ N ≤ N' ∧ N' ≤ 1000000) (hp : -1 ≤ d'.power ∧ d'.power ≤ 2000000000000) : DkAt W' S g m d' N' := by
  obtain ⟨dfl, dlo, dar, dpo, dop, dof⟩ := d'
  simp only at hfl hlo har hN hp
  subst hfl hlo har
  have hb : ∀ b, S b → b ≠ g → W'.heap[b]? = W.heap[b]? := fun b hs h1 => hf.block b (h.lt b hs) h1
  obtain ⟨D, n, hn, ho, hk⟩ := h.arm
  exact ⟨hblk, fun i hi => fm_keep (h.fl i hi) (fun b e => hb b (h.sm i hi b e) (fun e2 => dkAt_m_g h hi (by rw [e, e2]))), h.ok, h.ap, ⟨D, n, by omega, arm_block ho (hb m.ga h.sa (dkAt_ga h)), hk⟩, h.ga, own_block h.loo (fun z hz => hb z (h.sl z hz) (h.ng z hz)), h.chs, h.ng, h.sg, h.sm, h.sa, h.sl, fun b hs => Nat.lt_of_lt_of_le (h.lt b hs) hf.size, ⟨hN.1, by have := h.cN.2.1; show d.loose.length ≤ _; omega, hN.2.2⟩, hp⟩
/-- one operation more -/
def Dk.op1 (d : Dk) : Dk := { d with ops := d.ops + 1 }
def Dk.goes (d : Dk) : Dk := { d.op1 with off := true }
def Dk.hits (d : Dk) : Dk := { d.op1 with armed := fun k => if k = d.ops then 0 else d.armed k }
theorem dkA_ops (d : Dk) (m : Mm) (v : Value) (hv : v = .int .i64 ((d.ops + 1 : Nat) : Int)) : (dkA d m).setIfInBounds 35 v = dkA d.op1 m := by
  subst hv
  refine dkA_set _ _ fun k hk => ?_
  by_cases e : k = 35
  · subst e; rfl
  · rw [if_neg e]
    unfold dkCell
    by_cases h1 : k < 32
    · rw [if_pos h1, if_pos h1]; rfl
    · rw [if_neg h1, if_neg h1, if_neg e, if_neg e]; rfl
theorem dkA_off (d : Dk) (m : Mm) (b : Bool) : (dkA d m).setIfInBounds 36 (.bool b) = dkA { d with off := b } m := by
  refine dkA_set _ _ fun k hk => ?_
  by_cases e : k = 36
  · subst e; rfl
  · rw [if_neg e]
    unfold dkCell
    by_cases h1 : k < 32
    · rw [if_pos h1, if_pos h1]
    · rw [if_neg h1, if_neg h1]
      by_cases e2 : k = 32
      · subst e2; rfl
      · rw [if_neg e2, if_neg e2]
        by_cases e3 : k = 33
        · subst e3; rfl
        · rw [if_neg e3, if_neg e3]
          by_cases e4 : k = 34
          · subst e4; rfl
          · rw [if_neg e4, if_neg e4, if_pos (by omega), if_pos (by omega)]
/-- the cells beside the files -/
theorem dk_more {W : World} {g : Nat} {m : Mm} {d : Dk} (hg : Blk W g 70 (dkA d m)) :
    W.cell? ⟨g, 32, none⟩ = some (.slice m.A d.loose.length m.cap) ∧ W.cell? ⟨g, 33, none⟩ = some (.map (some m.ga)) ∧ W.cell? ⟨g, 34, none⟩ = some (.int .i64 d.power) ∧ W.cell? ⟨g, 35, none⟩ = some (.int .i64 d.ops) ∧ W.cell? ⟨g, 36, none⟩ = some (.bool d.off) ∧
    W.frozen? ⟨g, 32, none⟩ = false ∧ W.frozen? ⟨g, 33, none⟩ = false ∧ W.frozen? ⟨g, 34, none⟩ = false ∧ W.frozen? ⟨g, 35, none⟩ = false ∧ W.frozen? ⟨g, 36, none⟩ = false :=
  ⟨by rw [hg.cell, dkA_get _ _ (by omega)]; rfl, by rw [hg.cell, dkA_get _ _ (by omega)]; rfl, by rw [hg.cell, dkA_get _ _ (by omega)]; rfl, by rw [hg.cell, dkA_get _ _ (by omega)]; rfl, by rw [hg.cell, dkA_get _ _ (by omega)]; rfl, hg.frozen _, hg.frozen _, hg.frozen _, hg.frozen _, hg.frozen _⟩
theorem fr_one (w : World) (g o : Nat) (x : Value) : Fr (fun b => b = g) w (w.setCell ⟨g, o, none⟩ x) := fr_set (S := fun b => b = g) (fr_refl _ _) (p := ⟨g, o, none⟩) (.inl rfl) x
/-- the operation is counted -/
theorem op1_at {w : World} {S : Nat → Prop} {g : Nat} {m : Mm} {d : Dk} {N : Nat} (h : DkAt w S g m d N) (hN : N + 1 ≤ 1000000) (v : Int) (hv : v = (d.ops : Int) + 1) : DkAt (w.setCell ⟨g, 35, none⟩ (.int .i64 v)) S g m d.op1 (N + 1) :=
  dkAt_field h d.op1 (N + 1) rfl rfl rfl (by rw [← dkA_ops d m _ rfl]; rw [hv]; exact h.blk.set_ 35 _) (fr_one _ _ _ _) ⟨by have := h.cN.1; show d.ops + 1 ≤ _; omega, by omega, hN⟩ h.pw
theorem dkR_of {w w' : World} {S : Nat → Prop} {g : Nat} {m : Mm} {d : Dk} {N : Nat} (h : DkAt w' S g m d N) (hf : Fr S w w') : DkR w S g d N w' := ⟨S, ⟨m, h⟩, hf, fun b hb => .inl hb⟩
theorem off_at {w : World} {S : Nat → Prop} {g : Nat} {m : Mm} {d : Dk} {N : Nat} (h : DkAt w S g m d N) (b : Bool) : DkAt (w.setCell ⟨g, 36, none⟩ (.bool b)) S g m { d with off := b } N :=
  dkAt_field h { d with off := b } N rfl rfl rfl (by rw [← dkA_off d m b]; exact h.blk.set_ 36 _) (fr_one _ _ _ _) ⟨h.cN.1, Nat.le_refl _, h.cN.2.2⟩ h.pw
set_option maxRecDepth 100000 in
set_option maxHeartbeats 4000000 in
theorem op_goes (S : Nat → Prop) (g : Nat) (d : Dk) (N : Nat) (hN : N + 1 ≤ 1000000) (A : Option Addr) (n c : Nat) (w : World) (h : DkS w S g d N) (hp : (d.ops : Int) = d.power) :
    Calls Try.prog 40 #[.pointer (some ⟨g, 0, none⟩), .slice A n c] w fun e w' => e = .returned (.int .i64 32) ∧ DkR w S g d.goes (N + 1) w' := by
  obtain ⟨m, hm⟩ := h
  obtain ⟨y2, y3, y4, y5, y6, z2, z3, z4, z5, z6⟩ := dk_more hm.blk
  have hpb : ((d.ops : Int) == d.power) = true := by rw [beq_iff_eq]; exact hp
  have hops : (d.ops : Int) ≤ 1000000 := by have := hm.cN; omega
  have h1 := op1_at hm hN ((d.ops : Int) + 1) rfl
  have h2 := off_at h1 true
  have HE := Lib.hid (dkR_of (w := w) (d := d.goes) h2 (fr_set (fr_set (fr_refl _ _) (.inl hm.sg) _) (.inl hm.sg) _))
  clear hm h1 h2 hp
  go_enter Try.func40, Try.ntmps40
  go_wp2
  go_ret
  exact ⟨rfl, HE.out⟩
theorem dkAt_arm {W W' : World} {S : Nat → Prop} {g : Nat} {m : Mm} {d : Dk} {N : Nat} (h : DkAt W S g m d N) (ar : Int → Int) (N' : Nat) (hN : N ≤ N' ∧ N' ≤ 1000000)
    (harm : ∃ D n, n ≤ N' ∧ W'.ownsMap (H := Value) Try.prog 3 (plainElem Try.prog 24) m.ga n D ∧ ∀ k : Int, D.atKey (ki k) (.lit (.int .i64 0)) = .lit (.int .i64 (ar k)))
    (hf : Fr (fun b => some m.ga = some b) W W') : DkAt W' S g m { d with armed := ar } N' := by
  have hb : ∀ b, S b → b ≠ m.ga → W'.heap[b]? = W.heap[b]? := fun b hs h1 => hf.block b (h.lt b hs) (fun e => h1 (by injection e with e; exact e.symm))
  have hlg : ∀ z, (Value.slice m.A d.loose.length m.cap).ownBlock = some z → z ≠ m.ga := fun z hz e => by
    subst e
    obtain ⟨D, n, _, ⟨es, clock, h1, _⟩, _⟩ := h.arm
    rcases h.loo.2 with ⟨hn, _⟩ | ⟨g', cap, cur, hv, _, hg, _⟩
    · rw [hn] at hz; cases hz
    · rw [hv] at hz
      injection hz with hz
      rw [← hz] at h1
      rw [show (⟨g', 0, none⟩ : Addr).block = g' from rfl, hg] at h1
      cases h1
  exact ⟨(hb g h.sg (fun e => dkAt_ga h e.symm)).trans h.blk, fun i hi => fm_keep (h.fl i hi) (fun b e => hb b (h.sm i hi b e) (fun e2 => h.ga i hi (by rw [e, e2]))), h.ok, h.ap, harm, h.ga, own_block h.loo (fun z hz => hb z (h.sl z hz) (hlg z hz)), h.chs, h.ng, h.sg, h.sm, h.sa, h.sl, fun b hs => Nat.lt_of_lt_of_le (h.lt b hs) hf.size, ⟨by have := h.cN.1; show d.ops ≤ _; omega, by have := h.cN.2.1; show d.loose.length ≤ _; omega, hN.2⟩, h.pw⟩
theorem zeroErr (w : World) : (zeroValue 24).run Try.prog w = .ok (.int .i64 0) w := by kernel_rfl
theorem arm_look {W : World} {S : Nat → Prop} {g : Nat} {m : Mm} {d : Dk} {N : Nat} (h : DkAt W S g m d N) (k : Int) (h0 : -9223372036854775808 ≤ k) (h1 : k ≤ 9223372036854775807) :
    (Instr.lookup 63 (.map (some m.ga)) (.int .i64 k) false).run Try.prog W = .ok (.int .i64 (d.armed k)) W := by
  obtain ⟨D, n, _, ho, hk⟩ := h.arm
  obtain ⟨c, hrun, hat, _⟩ := ho.lookup_int keyed Try.underlying63 Try.underlying24 (zeroErr _) (key_int k h0 h1)
  rw [hk] at hat
  generalize d.armed k = E at hat ⊢
  simp only [DataW.lit.injEq, Lit.int.injEq, true_and] at hat
  rw [hat]
  exact hrun
theorem arm_del {W : World} {S : Nat → Prop} {g : Nat} {m : Mm} {d : Dk} {N : Nat} (h : DkAt W S g m d N) (k : Int) (h0 : -9223372036854775808 ≤ k) (h1 : k ≤ 9223372036854775807) (ty : TypeId) :
    ∃ W', (Builtin.delete_ #[63, 3] ty #[.map (some m.ga), .int .i64 k]).run Try.prog W = .ok (.tuple #[]) W' ∧ DkAt W' S g m { d with armed := fun j => if j = k then 0 else d.armed j } N ∧ Fr (fun b => some m.ga = some b) W W' := by
  obtain ⟨D, n, hn, ho, hk⟩ := h.arm
  obtain ⟨W', hrun, hown', hT⟩ := ho.drop keyed Try.underlying63 (key_int k h0 h1) ty
  have hfr : Fr (fun b => some m.ga = some b) W W' := fr_grown (fr_refl _ _) hT.grown (fun z hz => .inl hz)
  refine ⟨W', hrun, dkAt_arm h _ N ⟨Nat.le_refl _, h.cN.2.2⟩ ⟨_, n, hn, hown', fun j => ?_⟩ hfr, hfr⟩
  by_cases e : j = k
  · subst e; rw [Maps.atKey_del_same, if_pos rfl]
  · rw [Maps.atKey_del_other (fun e2 => e (ki_inj e2)), if_neg e]; exact hk j
set_option maxRecDepth 100000 in
set_option maxHeartbeats 4000000 in
theorem op_hits (S : Nat → Prop) (g : Nat) (d : Dk) (N : Nat) (hN : N + 1 ≤ 1000000) (A : Option Addr) (n c : Nat) (w : World) (h : DkS w S g d N) (hp : (d.ops : Int) ≠ d.power) (ha : d.armed d.ops ≠ 0) :
    Calls Try.prog 40 #[.pointer (some ⟨g, 0, none⟩), .slice A n c] w fun e w' => e = .returned (.int .i64 (d.armed d.ops)) ∧ DkR w S g d.hits (N + 1) w' := by
  obtain ⟨m, hm⟩ := h
  obtain ⟨y2, y3, y4, y5, y6, z2, z3, z4, z5, z6⟩ := dk_more hm.blk
  have hpb : ((d.ops : Int) == d.power) = false := by rw [beq_eq_false_iff_ne]; exact hp
  have hops : (d.ops : Int) ≤ 1000000 := by have := hm.cN; omega
  have h1 := op1_at hm hN ((d.ops : Int) + 1) rfl
  obtain ⟨W', hdel, h2, hf2⟩ := arm_del h1 d.ops (by omega) (by omega) 0
  have hlk : (Instr.lookup 63 (.map (some m.ga)) (.int .i64 d.ops) false).run Try.prog (w.setCell ⟨g, 35, none⟩ (.int .i64 ((d.ops : Int) + 1))) = .ok (.int .i64 (d.armed d.ops)) (w.setCell ⟨g, 35, none⟩ (.int .i64 ((d.ops : Int) + 1))) := arm_look h1 d.ops (by omega) (by omega)
  have hne : (d.armed d.ops != 0) = true := by rw [bne_iff_ne]; exact ha
  have HE := Lib.hid (dkR_of (w := w) (d := d.hits) h2 (fr_trans (fr_set (fr_refl _ _) (p := ⟨g, 35, none⟩) (.inl hm.sg) _) hf2 (fun b hb => .inl (by injection hb with hb; rw [← hb]; exact hm.sa))))
  generalize d.armed d.ops = E at *
  clear hm h1 h2 hp ha hf2
  go_enter Try.func40, Try.ntmps40
  go_wp2
  go_ret
  exact ⟨rfl, HE.out⟩
end Go.Proofs.Ytffojihhjiogpaa
