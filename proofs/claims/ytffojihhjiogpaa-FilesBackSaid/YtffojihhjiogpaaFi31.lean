/- Layer 3: what FilesBack asks, as plain maths; a Write beside a block that is none of the disk's. Conditions: those of each lemma. -/
import Derived.Test.YtffojihhjiogpaaFi30
namespace Go.Proofs.Ytffojihhjiogpaa
open Go.RowKit Go Go.Maps
set_option linter.unusedVariables false
set_option linter.unusedSimpArgs false
theorem kdx_r {w0 W W' : World} {S : Nat → Prop} {g : Nat} {d' : Dk} {N' q : Nat} {t : TypeId} {cs : Array Value} (h2 : ∀ b, S b → w0.heap.size ≤ b) (h3 : Below w0.heap.size w0 W) (h4 : ¬ S q) (h5 : w0.heap.size ≤ q) (h6 : Blk W q t cs) (hr : DkR W S g d' N' W') : KdX w0 g d' N' q t cs W' := by
  obtain ⟨S2, k1, k2, k3⟩ := hr
  refine ⟨S2, k1, fun b hb2 => ?_, h3.trans (fr_below k2 h2 h3.size), fun e2 => ?_, h5, fr_blk k2 h6 h4⟩
  · rcases k3 b hb2 with h | h
    · exact h2 b h
    · exact Nat.le_trans h3.size h
  · rcases k3 q e2 with h | h
    · exact h4 h
    · have h7 := h6.lt; omega
theorem kdx_write {w0 W : World} {g : Nat} {d : Dk} {N q : Nat} {t : TypeId} {cs : Array Value} (h : KdX w0 g d N q t cs W) (f pl : Int) (s : ByteArray) (hN : N + 1 ≤ 1000000) (hs : s.size ≤ 140737488351232) :
    Calls Try.prog 10 #[.pointer (some ⟨g, 0, none⟩), .int .i64 f, .int .i64 pl, .string s] W fun e w' => e = .returned (.int .i64 ((writeD d f pl s).2)) ∧ KdX w0 g (writeD d f pl s).1 (N + 1) q t cs w' := by
  obtain ⟨S, h1, h2, h3, h4, h5, h6⟩ := h
  exact (write_any S g d N hN f pl s hs W h1).mono fun e w' ⟨he, hr⟩ => ⟨he, kdx_r h2 h3 h4 h5 h6 hr⟩
theorem kdx_b {w0 W : World} {g : Nat} {d : Dk} {N q : Nat} {t : TypeId} {cs : Array Value} (h : KdX w0 g d N q t cs W) : Below w0.heap.size w0 W := kd_b (kdx_kd h)
theorem ksb_mono {w : World} {B B' : Nat} {A : Option Addr} {l : List Bool} (h : KsAt w B A l) (hB : B ≤ B') : KsAt w B' A l := by
  rcases h with h | ⟨b, o, hA, hlt, hc⟩
  · exact .inl h
  · exact .inr ⟨b, o, hA, by omega, hc⟩
theorem fopsb_one (W : World) (t : TypeId) (x : Fop) {B : Nat} (h : KsAt W B x.kA x.ks) (hB : B ≤ W.heap.size) : Fops (W.alloc (.cells (fopC x) t)) (W.alloc (.cells (fopC x) t)).heap.size (some ⟨W.heap.size, 0, none⟩) [x] := by
  have hq := Blk.new W t (fopC x)
  refine .inr ⟨_, 0, rfl, hq.lt, fun j y hy => ?_⟩
  have hj : j = 0 := by
    by_cases e : j = 0
    · exact e
    · rw [List.getElem?_eq_none (by simp; omega)] at hy; cases hy
  subst hj
  simp only [List.getElem?_cons_zero, Option.some.injEq] at hy
  subst hy
  refine ⟨⟨?_, ?_, ?_, ?_, ?_, ?_, ?_⟩, ?_⟩
  all_goals first
    | (rw [hq.cell]; rfl)
    | exact ksb_mono (ks_below h (one_alloc.mono hB)) (Nat.le_trans hB (one_alloc (w := W)).size)
theorem allF_size {d : Dk} {f : Int} {i : Nat} (h0 : 0 ≤ f) (h8 : f < 8) (hi : f.toNat = i) (ho : d.off = false) (hok : ∀ s ∈ d.fl i, SecOk s) : (allF d f).size = 64 * min (d.fl i).length 300 := by
  rw [allF_of h0 h8 ho, hi, bstr_size, flat_size _ (fun s hs => hok s (List.mem_of_mem_take hs)), List.length_take, Nat.min_eq_left (Nat.min_le_left _ _)]
/-- what a Write that went well leaves, as FilesBack looks at it -/
structure WB (D E : Dk) (f : Int) (p L n : Nat) (s : ByteArray) : Prop where
  off : E.off = false
  others : ∀ j : Nat, j < 8 → ¬ (j : Int) = f → allF E (j : Int) = allF D (j : Int)
  s0 : sizeD D f = (L : Nat)
  s1 : sizeD E f = max (L : Int) ((p : Int) + n)
  read : readD E f (p : Int) (n : Int) = (s, 0)
  sec : ∀ k : Nat, k < L → k < 300 → (k < p ∨ p + n ≤ k) → (allF E f).extract (k * 64) ((k + 1) * 64) = (allF D f).extract (k * 64) ((k + 1) * 64)
  z1 : (allF D f).size = 64 * min L 300
  z2 : (allF E f).size = 64 * min (max L (p + n)) 300
  n0 : 0 < n
  sn : s.size = n * 64
theorem back_good {D : Dk} {f : Int} {p : Nat} {s : ByteArray} (hoff : D.off = false) (hok : ∀ i, i < 16 → FlOk (D.fl i)) (hok2 : ∀ i, i < 16 → FlOk ((writeD D f (p : Int) s).1.fl i)) (h : (writeD D f (p : Int) s).2 = 0) :
    WB D (writeD D f (p : Int) s).1 f p (D.fl f.toNat).length (s.size / 64) s := by
  obtain ⟨h0, h8, hp, hn0, hz, ho, hfl, hoth⟩ := write_good D f (p : Int) s h
  obtain ⟨i, hi⟩ : ∃ i, f.toNat = i := ⟨_, rfl⟩
  have hi8 : i < 8 := by omega
  rw [hi] at hfl hoth ⊢
  rw [hoff] at ho
  have hok1 := hok i (by omega)
  have hok3 := hok2 i (by omega)
  generalize (writeD D f (p : Int) s).1 = E at *
  generalize hn : s.size / 64 = n at *
  rw [Int.toNat_natCast] at hfl
  have hlen : (E.fl i).length = max (D.fl i).length (p + n) := by rw [hfl, wrP_length, if_neg (by omega)]
  refine ⟨ho, fun j hj hne => ?_, ?_, ?_, ?_, fun k hk hk3 hkp => ?_, ?_, ?_, hn0, by omega⟩
  · exact allF_same (by omega) (by omega) hoff ho (by rw [Int.toNat_natCast]; exact hoth j hj (by omega))
  · rw [sizeD_of _ h0 h8, hi]
  · rw [sizeD_of _ h0 h8, hi, hlen]; omega
  · unfold readD
    rw [if_neg (by rw [readyD_of h0 h8 ho]; simp), sizeD_of _ h0 h8, hi, hlen, if_neg (by omega), Int.toNat_natCast, Int.toNat_natCast, hfl, read_back _ _ _ _ _ (by omega) hn0, bstr_bts]
  · rw [allF_sec h0 h8 hi ho hok3.2 (by omega) hk3, allF_sec h0 h8 hi hoff hok1.2 hk hk3, hfl, wrP_get, if_neg (by omega)]
  · exact allF_size h0 h8 hi hoff hok1.2
  · rw [allF_size h0 h8 hi ho hok3.2, hlen]
end Go.Proofs.Ytffojihhjiogpaa
