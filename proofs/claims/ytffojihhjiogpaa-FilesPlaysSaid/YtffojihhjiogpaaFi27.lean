/- Layer 3: what FilesCuts asks, as plain maths; two disks side by side; run on a law's disk. Conditions: those of each lemma. -/
import Derived.Test.YtffojihhjiogpaaFi26
namespace Go.Proofs.Ytffojihhjiogpaa
open Go.RowKit Go Go.Maps
set_option linter.unusedVariables false
set_option linter.unusedSimpArgs false
theorem kd_ok {w0 W : World} {g : Nat} {d : Dk} {N : Nat} (h : Kd w0 g d N W) : ∀ i, i < 16 → FlOk (d.fl i) := by
  obtain ⟨S, ⟨m, hm⟩, _, _⟩ := h
  exact hm.ok
theorem crashD_nil (d : Dk) : crashD d [] = crash1 d := by
  unfold crashD
  rw [kept_nil]
  rfl
theorem inF_of {f : Int} (h0 : 0 ≤ f) (h8 : f < 8) : inF f = true := by
  unfold inF
  simp [h0, h8]
theorem sizeD_of (d : Dk) {f : Int} (h0 : 0 ≤ f) (h8 : f < 8) : sizeD d f = ((d.fl f.toNat).length : Nat) := by
  unfold sizeD
  rw [inF_of h0 h8]
  rfl
theorem readyD_of {d : Dk} {f : Int} (h0 : 0 ≤ f) (h8 : f < 8) (ho : d.off = false) : readyD d f = 0 := by
  unfold readyD
  rw [ho, inF_of h0 h8]
  rfl
theorem allF_of {d : Dk} {f : Int} (h0 : 0 ≤ f) (h8 : f < 8) (ho : d.off = false) : allF d f = bstr ((d.fl f.toNat).take (min (d.fl f.toNat).length 300)).flatten := by
  unfold allF readD
  rw [if_neg (by rw [readyD_of h0 h8 ho]; simp), sizeD_of d h0 h8, if_neg (by omega)]
  have e : (min (((d.fl f.toNat).length : Nat) : Int) 300).toNat = min (d.fl f.toNat).length 300 := by omega
  rw [e]
  rfl
theorem flat_take : ∀ (l : List Sec) (k : Nat), (∀ s ∈ l, SecOk s) → (l.flatten).take (64 * k) = (l.take k).flatten
  | [], k, _ => by simp
  | s :: l, 0, _ => by simp
  | s :: l, k + 1, h => by
    have hs := (h s (by simp)).1
    rw [List.flatten_cons, List.take_succ_cons, List.flatten_cons, ← flat_take l k (fun x hx => h x (by simp [hx])), show 64 * (k + 1) = s.length + 64 * k by omega, List.take_length_add_append]
theorem flat_size (l : List Sec) (h : ∀ s ∈ l, SecOk s) : l.flatten.length = 64 * l.length := by
  induction l with
  | nil => rfl
  | cons s l ih =>
    have hs := (h s (by simp)).1
    rw [List.flatten_cons, List.length_append, hs, ih (fun x hx => h x (by simp [hx])), List.length_cons]
    omega
theorem bstr_ext (L : List Nat) (k : Nat) : (bstr L).extract 0 k = bstr (L.take k) := by
  apply ByteArray.ext
  apply Array.ext'
  simp [bstr]
/-- the disk behind a cut of a disk on which nothing is loose -/
def cutE (D : Dk) (i n : Nat) : Dk := { doneAll 0 D.op1 [cutC i n] with loose := D.loose ++ [cutC i n] }
section
variable {d0 : Dk} {f n : Int}
theorem c1_off : (crash1 d0).off = false := rfl
theorem c1_fl (i : Nat) (hi : i < 8) : (crash1 d0).fl i = (crash1 d0).fl (8 + i) := by
  show (if i < 8 then d0.fl (8 + i) else d0.fl i) = (if 8 + i < 8 then d0.fl (8 + (8 + i)) else d0.fl (8 + i))
  rw [if_pos hi, if_neg (by omega)]
theorem cut_bad (h0 : 0 ≤ f) (h8 : f < 8) (h : n < 0 ∨ sizeD (crash1 d0) f < n) : cutD (crash1 d0) f n = (crash1 d0, 5) := by
  unfold cutD
  rw [if_neg (by rw [readyD_of h0 h8 c1_off]; simp), if_pos h]
theorem cut_good (h0 : 0 ≤ f) (h8 : f < 8) (h : ¬ (n < 0 ∨ sizeD (crash1 d0) f < n)) : cutD (crash1 d0) f n = (cutE (crash1 d0) f.toNat n.toNat, 0) := by
  unfold cutD
  rw [if_neg (by rw [readyD_of h0 h8 c1_off]; simp), if_neg h]
  unfold opD
  rw [if_neg (by show ¬ (d0.ops : Int) = -1; omega), if_neg (by simp [crash1])]
  rfl
theorem cutE_now (D : Dk) (i n : Nat) : (cutE D i n).fl i = (D.fl i).take n := by
  show (doneAll 0 D.op1 [cutC i n]).fl i = _
  simp [doneAll, doneA, Dk.setF, cutC, doneF, Dk.op1]
theorem cutE_sure (D : Dk) (i n : Nat) (hi : i < 8) : (cutE D i n).fl (8 + i) = D.fl (8 + i) := by
  show (doneAll 0 D.op1 [cutC i n]).fl (8 + i) = _
  simp [doneAll, doneA, Dk.setF, cutC, doneF, Dk.op1]
theorem cutE_off (D : Dk) (i n : Nat) : (cutE D i n).off = D.off := rfl
theorem cutE_kept (i n : Nat) (hi : i < 8) : (crashD (cutE (crash1 d0) i n) [true]).fl i = ((crash1 d0).fl i).take n := by
  have e : kept [true] (cutE (crash1 d0) i n).loose = [cutC i n] := rfl
  unfold crashD
  rw [e]
  show (if i < 8 then (doneAll 1 (cutE (crash1 d0) i n) [cutC i n]).fl (8 + i) else _) = _
  rw [if_pos hi, c1_fl i hi, ← cutE_sure (crash1 d0) i n hi]
  simp [doneAll, doneA, Dk.setF, cutC, doneF]
theorem cutE_gone (i n : Nat) (hi : i < 8) : (crashD (cutE (crash1 d0) i n) []).fl i = (crash1 d0).fl i := by
  rw [crashD_nil]
  show (if i < 8 then (cutE (crash1 d0) i n).fl (8 + i) else _) = _
  rw [if_pos hi, cutE_sure _ _ _ hi, ← c1_fl i hi]
end
/-- two disks that share no block -/
def Kd2 (w0 : World) (g : Nat) (d : Dk) (N : Nat) (g' : Nat) (d' : Dk) (N' : Nat) (W : World) : Prop :=
  ∃ S S', DkS W S g d N ∧ DkS W S' g' d' N' ∧ (∀ b, S b → ¬ S' b) ∧ (∀ b, S b → w0.heap.size ≤ b) ∧ (∀ b, S' b → w0.heap.size ≤ b) ∧ Below w0.heap.size w0 W
theorem kd2_l {w0 W : World} {g g' N N' : Nat} {d d' : Dk} (h : Kd2 w0 g d N g' d' N' W) : Kd w0 g d N W := by
  obtain ⟨S, S', h1, h2, h3, h4, h5, h6⟩ := h
  exact ⟨S, h1, h4, h6⟩
theorem kd2_r {w0 W : World} {g g' N N' : Nat} {d d' : Dk} (h : Kd2 w0 g d N g' d' N' W) : Kd w0 g' d' N' W := by
  obtain ⟨S, S', h1, h2, h3, h4, h5, h6⟩ := h
  exact ⟨S', h2, h5, h6⟩
theorem kd2_below {w0 W W' : World} {g g' N N' : Nat} {d d' : Dk} (h : Kd2 w0 g d N g' d' N' W) (hb : Below W.heap.size W W') : Kd2 w0 g d N g' d' N' W' := by
  obtain ⟨S, S', h1, h2, h3, h4, h5, h6⟩ := h
  exact ⟨S, S', dkS_below h1 hb, dkS_below h2 hb, h3, h4, h5, bj h6 hb⟩
theorem kd2_r_l {w0 W W' : World} {S S' : Nat → Prop} {g g' N N' N2 : Nat} {d d' d2 : Dk} (h1 : DkS W S g d N) (h2 : DkS W S' g' d' N') (h3 : ∀ b, S b → ¬ S' b) (h4 : ∀ b, S b → w0.heap.size ≤ b) (h5 : ∀ b, S' b → w0.heap.size ≤ b) (h6 : Below w0.heap.size w0 W) (hr : DkR W S g d2 N2 W') : Kd2 w0 g d2 N2 g' d' N' W' := by
  obtain ⟨S2, k1, k2, k3⟩ := hr
  refine ⟨S2, S', k1, dkS_keep h2 k2 (fun b hb hs => h3 b hs hb), fun b hb hb2 => ?_, fun b hb => ?_, h5, h6.trans (fr_below k2 h4 h6.size)⟩
  · rcases k3 b hb with h | h
    · exact h3 b h hb2
    · have := dkS_lt h2 b hb2; omega
  · rcases k3 b hb with h | h
    · exact h4 b h
    · exact Nat.le_trans h6.size h
theorem kd_copy2 {w0 W : World} {g : Nat} {d : Dk} {N : Nat} (h : Kd w0 g d N W) : Calls Try.prog 22 #[.pointer (some ⟨g, 0, none⟩)] W fun e w' => ∃ g', e = .returned (.pointer (some ⟨g', 0, none⟩)) ∧ Kd2 w0 g d N g' d N w' := by
  obtain ⟨S, h1, h2, h3⟩ := h
  refine (copy_any S g d N W h1).mono fun e w' ⟨g', S', he, hd, hs, hb⟩ => ⟨g', he, S, S', dkS_below h1 hb, hd, fun b hb1 hb2 => ?_, h2, fun b hb2 => Nat.le_trans h3.size (hs b hb2), bj h3 hb⟩
  have := dkS_lt h1 b hb1
  have := hs b hb2
  omega
theorem kd2_crash {w0 W0 W : World} {g g' N N' : Nat} {d d' : Dk} (h : Kd2 w0 g d N g' d' N' W0) (hb : Below W0.heap.size W0 W) (K : Option Addr) (ks : List Bool) (kn kc : Nat) (hkn : kn = ks.length) (hK : BsAt W K ks) (hA : ks ≠ [] → ∀ a, K = some a → a.block < w0.heap.size ∨ W0.heap.size ≤ a.block) (hk0 : kn ≤ 9223372036854775807) :
    Calls Try.prog 16 #[.pointer (some ⟨g, 0, none⟩), .slice K kn kc] W fun e w' => e = .returned (.int .i64 0) ∧ Kd2 w0 g (crashD d ks) N g' d' N' w' := by
  obtain ⟨S, S', h1, h2, h3, h4, h5, h6⟩ := h
  have hlt := dkS_lt h1
  refine (crash_any S g d N K ks kn kc hkn W hK (fun hne a ha hs => ?_) hk0 (dkS_below h1 hb)).mono fun e w' ⟨he, hr⟩ => ⟨he, kd2_r_l (dkS_below h1 hb) (dkS_below h2 hb) h3 h4 h5 (bj h6 hb) hr⟩
  have := h4 _ hs
  have := hlt _ hs
  rcases hA hne a ha with h | h <;> omega
theorem fops_mono {w : World} {B B' : Nat} {A : Option Addr} {l : List Fop} (h : Fops w B A l) (hB : B ≤ B') : Fops w B' A l := by
  rcases h with h | ⟨b, o, hA, hlt, hc⟩
  · exact .inl h
  · refine .inr ⟨b, o, hA, by omega, fun j x hx => ⟨(hc j x hx).1, ?_⟩⟩
    rcases (hc j x hx).2 with h | ⟨b2, o2, hA2, hlt2, hc2⟩
    · exact .inl h
    · exact .inr ⟨b2, o2, hA2, by omega, hc2⟩
theorem kd_run {w0 W : World} {g : Nat} {d : Dk} {N : Nat} (h : Kd w0 g d N W) (A : Option Addr) (l : List Fop) (n c : Nat) (hn : n = l.length) (hm : N + n ≤ 1000000) (hO : Fops w0 w0.heap.size A l) (hfit : ∀ x ∈ l, FitP x) (hlight : ∀ x ∈ l, Light x) :
    Calls Try.prog 37 #[.pointer (some ⟨g, 0, none⟩), .slice A n c] W fun e w' => e = .returned (.tuple #[]) ∧ Kd w0 g (runD d l) (N + n) w' := by
  obtain ⟨S, h1, h2, h3⟩ := h
  refine (run_at W S g d N h1 A l n c hn hm (fops_mono (fops_below hO h3) h3.size) (fun a ha hne hs => ?_) (fun x hx hne a ha hs => ?_) hfit hlight).mono fun e w' ⟨he, hr⟩ => ⟨he, kd_r h2 h3 hr⟩
  · rcases hO with h | ⟨b, o, hA, hlt, hc⟩
    · exact hne h
    · rw [hA] at ha; cases ha
      have := h2 _ hs
      simp only at this
      omega
  · rcases hO with h | ⟨b, o, hA, hlt, hc⟩
    · rw [h] at hx; cases hx
    · obtain ⟨j, hj⟩ := List.mem_iff_getElem?.1 hx
      rcases (hc j x hj).2 with h | ⟨b2, o2, hA2, hlt2, _⟩
      · exact hne h
      · rw [hA2] at ha; cases ha
        have := h2 _ hs
        simp only at this
        omega
end Go.Proofs.Ytffojihhjiogpaa
