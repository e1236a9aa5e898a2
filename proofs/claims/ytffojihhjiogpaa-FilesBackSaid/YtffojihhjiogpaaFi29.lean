/- Layer 3: what FilesKept asks, as plain maths; a disk and a block beside it. Conditions: those of each lemma. -/
import Derived.Test.YtffojihhjiogpaaFi28
namespace Go.Proofs.Ytffojihhjiogpaa
open Go.RowKit Go Go.Maps
set_option linter.unusedVariables false
set_option linter.unusedSimpArgs false
theorem kept_all : ∀ (l : List Ch), kept (List.replicate l.length true) l = l
  | [] => rfl
  | c :: l => by
    show (if true then [c] else []) ++ kept (List.replicate l.length true) l = c :: l
    rw [kept_all l]
    rfl
theorem crash_all_fl {d : Dk} (h : Jd d) {i : Nat} (hi : i < 8) : (crashD d (List.replicate d.loose.length true)).fl i = d.fl i := by
  rw [crash_now _ _ _ hi, crash_sure, kept_all]
  exact (h.1 i hi).symm
theorem crash_nil_fl {d : Dk} (h : Jd d) (hl : d.loose = []) {i : Nat} (hi : i < 8) : (crashD d []).fl i = d.fl i := by
  rw [crash_now _ _ _ hi, crash_sure, kept_nil, h.1 i hi, hl]
theorem allF_same {d d' : Dk} {f : Int} (h0 : 0 ≤ f) (h8 : f < 8) (ho : d.off = false) (ho' : d'.off = false) (h : d'.fl f.toNat = d.fl f.toNat) : allF d' f = allF d f := by
  rw [allF_of h0 h8 ho, allF_of h0 h8 ho', h]
/-- a disk, and a block that is none of its own -/
def KdX (w0 : World) (g : Nat) (d : Dk) (N : Nat) (q : Nat) (t : TypeId) (cs : Array Value) (W : World) : Prop :=
  ∃ S, DkS W S g d N ∧ (∀ b, S b → w0.heap.size ≤ b) ∧ Below w0.heap.size w0 W ∧ ¬ S q ∧ w0.heap.size ≤ q ∧ Blk W q t cs
theorem kdx_kd {w0 W : World} {g : Nat} {d : Dk} {N q : Nat} {t : TypeId} {cs : Array Value} (h : KdX w0 g d N q t cs W) : Kd w0 g d N W := by
  obtain ⟨S, h1, h2, h3, _⟩ := h
  exact ⟨S, h1, h2, h3⟩
theorem kdx_blk {w0 W : World} {g : Nat} {d : Dk} {N q : Nat} {t : TypeId} {cs : Array Value} (h : KdX w0 g d N q t cs W) : Blk W q t cs := by
  obtain ⟨S, h1, h2, h3, _, _, h6⟩ := h
  exact h6
theorem kdx_new {w0 W : World} {g : Nat} {d : Dk} {N : Nat} (h : Kd w0 g d N W) (t : TypeId) (cs : Array Value) : KdX w0 g d N W.heap.size t cs (W.alloc (.cells cs t)) := by
  obtain ⟨S, h1, h2, h3⟩ := h
  exact ⟨S, dkS_below h1 one_alloc, h2, bj h3 one_alloc, fun e => by have := dkS_lt h1 _ e; omega, h3.size, Blk.new W t cs⟩
theorem kdx_below {w0 W W' : World} {g : Nat} {d : Dk} {N q : Nat} {t : TypeId} {cs : Array Value} (h : KdX w0 g d N q t cs W) (hb : Below W.heap.size W W') : KdX w0 g d N q t cs W' := by
  obtain ⟨S, h1, h2, h3, h4, h5, h6⟩ := h
  exact ⟨S, dkS_below h1 hb, h2, bj h3 hb, h4, h5, blk_step h6 hb⟩
theorem kdx_set {w0 W : World} {g : Nat} {d : Dk} {N q : Nat} {t : TypeId} {cs : Array Value} (h : KdX w0 g d N q t cs W) (i : Nat) (v : Value) : KdX w0 g d N q t (cs.setIfInBounds i v) (W.setCell ⟨q, i, none⟩ v) := by
  obtain ⟨S, h1, h2, h3, h4, h5, h6⟩ := h
  have hf : Fr (fun b => b = q) W (W.setCell ⟨q, i, none⟩ v) := fr_set (p := ⟨q, i, none⟩) (fr_refl (fun b => b = q) W) (.inl rfl) v
  exact ⟨S, dkS_keep h1 hf (fun b hb e => h4 (e ▸ hb)), h2, h3.trans (fr_below hf (fun k hk => by omega) h3.size), h4, h5, h6.set_ i v⟩
theorem kdx_crash {w0 W0 W : World} {g : Nat} {d : Dk} {N q : Nat} {t : TypeId} {cs : Array Value} (h : KdX w0 g d N q t cs W0) (hb : Below W0.heap.size W0 W) (K : Option Addr) (ks : List Bool) (kn kc : Nat) (hkn : kn = ks.length) (hK : BsAt W K ks) (hA : ks ≠ [] → ∀ a, K = some a → a.block < w0.heap.size ∨ W0.heap.size ≤ a.block) (hk0 : kn ≤ 9223372036854775807) :
    Calls Try.prog 16 #[.pointer (some ⟨g, 0, none⟩), .slice K kn kc] W fun e w' => e = .returned (.int .i64 0) ∧ KdX w0 g (crashD d ks) N q t cs w' := by
  obtain ⟨S, h1, h2, h3, h4, h5, h6⟩ := h
  have hlt := dkS_lt h1
  refine (crash_any S g d N K ks kn kc hkn W hK (fun hne a ha hs => ?_) hk0 (dkS_below h1 hb)).mono fun e w' ⟨he, S2, k1, k2, k3⟩ => ⟨he, S2, k1, fun b hb2 => ?_, (bj h3 hb).trans (fr_below k2 h2 (bj h3 hb).size), fun e2 => ?_, h5, fr_blk k2 (blk_step h6 hb) h4⟩
  · have := h2 _ hs
    have := hlt _ hs
    rcases hA hne a ha with h | h <;> omega
  · rcases k3 b hb2 with h | h
    · exact h2 b h
    · exact Nat.le_trans (bj h3 hb).size h
  · rcases k3 q e2 with h | h
    · exact h4 h
    · have h7 := (blk_step h6 hb).lt; omega
end Go.Proofs.Ytffojihhjiogpaa
