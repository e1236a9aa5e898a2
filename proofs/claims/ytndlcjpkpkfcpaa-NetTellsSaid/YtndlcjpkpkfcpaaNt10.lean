/- NetTells: what stands through a round. Conditions: those of each lemma. -/
import Derived.Test.YtndlcjpkpkfcpaaNt9
namespace Go.Proofs.Ytndlcjpkpkfcpaa
open Go.RowKit Go Go.Maps
set_option linter.unusedVariables false
set_option linter.unusedSimpArgs false
/-- the net, and what was sent -/
def Ts (w : World) (gn gm gs : Nat) (L : List Lt) (N : Int) (es : List (Int × Lt)) (W : World) : Prop := NetS gn gm L N W ∧ W.ownsMap Try.prog 3 heldR gs es.length (mapE es) ∧ gs ≠ gn ∧ gs ≠ gm ∧ w.heap.size ≤ gn ∧ w.heap.size ≤ gm ∧ w.heap.size ≤ gs ∧ Below w.heap.size w W
theorem ts_step {w W W' : World} {gn gm gs : Nat} {L : List Lt} {N : Int} {es : List (Int × Lt)} (h : Ts w gn gm gs L N es W) (hb : Below W.heap.size W W') : Ts w gn gm gs L N es W' := ⟨net_step h.1 hb, owns_block h.2.1 (hb.block gs h.2.1.lt), h.2.2.1, h.2.2.2.1, h.2.2.2.2.1, h.2.2.2.2.2.1, h.2.2.2.2.2.2.1, bj h.2.2.2.2.2.2.2 hb⟩
theorem ts_but {w W W' : World} {gn gm gs : Nat} {L L' : List Lt} {N N' : Int} {es : List (Int × Lt)} (h : Ts w gn gm gs L N es W) (hn : NetS gn gm L' N' W') (hb : But gn gm W W') : Ts w gn gm gs L' N' es W' := ⟨hn, owns_block h.2.1 (hb.block gs h.2.1.lt h.2.2.1 h.2.2.2.1), h.2.2.1, h.2.2.2.1, h.2.2.2.2.1, h.2.2.2.2.2.1, h.2.2.2.2.2.2.1, h.2.2.2.2.2.2.2.trans (but_below hb h.2.2.2.2.1 h.2.2.2.2.2.1 h.2.2.2.2.2.2.2.size)⟩
theorem ownsE_tight {W : World} {b n : Nat} {L : List (Int × Lt)} (h : W.ownsMap Try.prog 3 heldR b n (mapE L)) : W.ownsMap Try.prog 3 heldR b L.length (mapE L) := by
  obtain ⟨es, clock, hb, F, hs, hD⟩ := h
  refine ⟨es, clock, hb, F, ?_, hD⟩
  have h1 := length_read (P := Try.prog) (k := 3) (R0 := heldR) es
  have h2 := congrArg Maps.size hD
  rw [mape_size] at h2
  simp only [Maps.size] at h2
  omega
theorem ts_put {w W : World} {gn gm gs : Nat} {L : List Lt} {N : Int} {es : List (Int × Lt)} (h : Ts w gn gm gs L N es W) (k : Int) (a : Lt) (hk : I64' k) (hlt : ∀ x ∈ es, x.1 < k) (hl : es.length ≤ 1000) : ∃ W', (Instr.mapUpdate 46 (.map (some gs)) (.int .i64 k) (ltV a)).run Try.prog W = .ok () W' ∧ Ts w gn gm gs L N (es ++ [(k, a)]) W' ∧ W.grownBy W' (some gs) := by
  obtain ⟨W', hrun, hown, hgr⟩ := h.2.1.update keyed Try.underlying46 (by unfold maxLen; omega) (key := .int .i64 k) (val := ltV a) (key_int k hk.1 hk.2) (d := .held (ltV a)) (ps := []) rfl
  rw [mape_put es k a hlt] at hown
  refine ⟨W', hrun, ⟨⟨h.1.1.grown hgr (fun e => h.2.2.1 (Option.some.inj e).symm), owns_block h.1.2.1 (hgr.block gm h.1.2.1.lt (fun e => h.2.2.2.1 (Option.some.inj e).symm)), h.1.2.2⟩, ownsE_tight hown, h.2.2.1, h.2.2.2.1, h.2.2.2.2.1, h.2.2.2.2.2.1, h.2.2.2.2.2.2.1, h.2.2.2.2.2.2.2.grown hgr h.2.2.2.2.2.2.2.size (fun z hz => by rw [← Option.some.inj hz]; exact h.2.2.2.2.2.2.1)⟩, hgr⟩
theorem lookE_ok {W : World} {gs : Nat} {es : List (Int × Lt)} {k : Int} {o : Lt} (h : W.ownsMap Try.prog 3 heldR gs es.length (mapE es)) (hk : I64' k) (hf : getE es k = some o) : (Instr.lookup 46 (.map (some gs)) (.int .i64 k) true).run Try.prog W = .ok (.tuple #[ltV o, .bool true]) W := by
  obtain ⟨v, ps, hrun, hv⟩ := h.look_ok keyed Try.underlying46 (zero_letter W) (zd := .held (ltV zL)) (zp := []) rfl (key_int k hk.1 hk.2)
  rw [hrun, mape_has, hf]
  rw [mape_at, hf] at hv
  have h2 : DataW.held v = DataW.held (ltV o) := congrArg Prod.fst (Option.some.inj hv)
  rw [DataW.held.inj h2]
  rfl
theorem lookE_one {W : World} {gs : Nat} {es : List (Int × Lt)} {k : Int} {o : Lt} (h : W.ownsMap Try.prog 3 heldR gs es.length (mapE es)) (hk : I64' k) (hf : getE es k = some o) : (Instr.lookup 46 (.map (some gs)) (.int .i64 k) false).run Try.prog W = .ok (ltV o) W := by
  obtain ⟨v, ps, hrun, hv⟩ := h.lookup keyed Try.underlying46 (zero_letter W) (zd := .held (ltV zL)) (zp := []) rfl (key_int k hk.1 hk.2)
  rw [hrun]
  rw [mape_at, hf] at hv
  have h2 : DataW.held v = DataW.held (ltV o) := congrArg Prod.fst (Option.some.inj hv)
  rw [DataW.held.inj h2]
/-- beside the operation's box -/
def Tb (w : World) (gn gm gs : Nat) (L : List Lt) (N : Int) (es : List (Int × Lt)) (g : Nat) (x : Opx) (W : World) : Prop := Ts w gn gm gs L N es W ∧ Blk W g 44 (opC x) ∧ g ≠ gn ∧ g ≠ gm ∧ g ≠ gs
theorem tb_new {w W : World} {gn gm gs : Nat} {L : List Lt} {N : Int} {es : List (Int × Lt)} (h : Ts w gn gm gs L N es W) (x : Opx) : Tb w gn gm gs L N es W.heap.size x (W.alloc (.cells (opC x) 44)) := by
  have h1 := h.1.1.lt
  have h2 := h.1.2.1.lt
  have h3 := h.2.1.lt
  exact ⟨ts_step h one_alloc, Blk.new _ _ _, by omega, by omega, by omega⟩
theorem tb_step {w W W' : World} {gn gm gs : Nat} {L : List Lt} {N : Int} {es : List (Int × Lt)} {g : Nat} {x : Opx} (h : Tb w gn gm gs L N es g x W) (hb : Below W.heap.size W W') : Tb w gn gm gs L N es g x W' := ⟨ts_step h.1 hb, blk_step h.2.1 hb, h.2.2⟩
theorem tb_but {w W W' : World} {gn gm gs : Nat} {L L' : List Lt} {N N' : Int} {es : List (Int × Lt)} {g : Nat} {x : Opx} (h : Tb w gn gm gs L N es g x W) (hn : NetS gn gm L' N' W') (hb : But gn gm W W') : Tb w gn gm gs L' N' es g x W' := ⟨ts_but h.1 hn hb, but_blk hb h.2.1 h.2.2.1 h.2.2.2.1, h.2.2⟩
/-- beside both letters' boxes -/
def Tl (w : World) (gn gm gs : Nat) (L : List Lt) (N : Int) (es : List (Int × Lt)) (g : Nat) (x : Opx) (g1 g2 : Nat) (l o : Lt) (W : World) : Prop := Tb w gn gm gs L N es g x W ∧ Blk W g1 31 (ltC l) ∧ Blk W g2 31 (ltC o)
theorem tl_drew {w W : World} {gn gm gs : Nat} {L : List Lt} {N : Int} {es : List (Int × Lt)} {g : Nat} {x : Opx} {g1 g2 : Nat} {l o : Lt} (h : Tl w gn gm gs L N es g x g1 g2 l o W) : Tl w gn gm gs L N es g x g1 g2 l o W.drew := ⟨tb_step h.1 ((Below.refl _ _).drew), h.2.1.drew, h.2.2.drew⟩
theorem tl_drewN {w W : World} {gn gm gs : Nat} {L : List Lt} {N : Int} {es : List (Int × Lt)} {g : Nat} {x : Opx} {g1 g2 : Nat} {l o : Lt} (h : Tl w gn gm gs L N es g x g1 g2 l o W) (n : Nat) : Tl w gn gm gs L N es g x g1 g2 l o (W.drewN n) := ⟨tb_step h.1 ⟨rfl, rfl, rfl, Nat.le_refl _, fun _ _ => rfl⟩, h.2.1.drewN n, h.2.2.drewN n⟩
theorem diff_le (a b : ByteArray) : ∀ n, diffN a b n ≤ n
  | 0 => Nat.le_refl _
  | n + 1 => by
    rw [diffN]
    have := diff_le a b n
    split <;> omega
theorem inv_find {L : List Lt} {N : Int} {es : List (Int × Lt)} {came : Int} (h : Inv L N es came) {k : Int} {x : Lt} (hf : findL L k = some x) : x.bytes.size ≤ 262144 ∧ ∃ o, getE es k = some o ∧ Near o x := by
  obtain ⟨g1, o, g2, g3⟩ := h.2.2.2.2 x (find_id hf).2
  rw [(find_id hf).1] at g2
  exact ⟨g1, o, g2, g3⟩
theorem near_new {o x : Lt} (h : Near o x) (k : Int) : Near o ⟨k, x.fr, x.to, x.bytes, x.sp⟩ := h
theorem light {l : List Opx} (h : heavyB l = false) : l.length ≤ 300 := by
  unfold heavyB at h
  split at h
  · cases h
  · have := of_decide_eq_false h
    omega
theorem send_size {f t : Int} {s : ByteArray} (h : sendE f t s = 0) : s.size ≤ 262144 := by
  unfold sendE at h
  split at h
  · split at h
    · cases h
    · omega
  · cases h
end Go.Proofs.Ytndlcjpkpkfcpaa
