/- Layer 3: the program's disk and ref03's side by side, and a block beside them. Conditions: those of each lemma. -/
import Derived.Test.YtffojihhjiogpaaFj11
namespace Go.Proofs.Ytffojihhjiogpaa
open Go.RowKit Go Go.Maps
set_option linter.unusedVariables false
set_option linter.unusedSimpArgs false
/-- the program's disk at g and ref03's at gr, which share no block -/
def Pl (w0 : World) (g : Nat) (d : Dk) (N : Nat) (gr : Nat) (r : Dk) (M : Nat) (W : World) : Prop :=
  ∃ S T, DkS W S g d N ∧ RkS W T gr r M ∧ (∀ b, S b → ¬ T b) ∧ (∀ b, S b → w0.heap.size ≤ b) ∧ (∀ b, T b → w0.heap.size ≤ b) ∧ Below w0.heap.size w0 W
/-- and a block that is of neither -/
def PlX (w0 : World) (g : Nat) (d : Dk) (N : Nat) (gr : Nat) (r : Dk) (M : Nat) (q : Nat) (cs : Array Value) (W : World) : Prop :=
  ∃ S T, DkS W S g d N ∧ RkS W T gr r M ∧ (∀ b, S b → ¬ T b) ∧ (∀ b, S b → w0.heap.size ≤ b) ∧ (∀ b, T b → w0.heap.size ≤ b) ∧ Below w0.heap.size w0 W ∧ ¬ S q ∧ ¬ T q ∧ w0.heap.size ≤ q ∧ Blk W q 42 cs
section
variable {w0 W W' : World} {g : Nat} {d d2 : Dk} {N N2 : Nat} {gr : Nat} {r r2 : Dk} {M M2 : Nat} {q : Nat} {cs : Array Value}
theorem plx_pl (h : PlX w0 g d N gr r M q cs W) : Pl w0 g d N gr r M W := by
  obtain ⟨S, T, h1, h2, h3, h4, h5, h6, _⟩ := h
  exact ⟨S, T, h1, h2, h3, h4, h5, h6⟩
theorem plx_blk (h : PlX w0 g d N gr r M q cs W) : Blk W q 42 cs := by
  obtain ⟨S, T, h1, h2, h3, h4, h5, h6, _, _, _, h10⟩ := h
  exact h10
theorem pl_b (h : Pl w0 g d N gr r M W) : Below w0.heap.size w0 W := by
  obtain ⟨S, T, h1, h2, h3, h4, h5, h6⟩ := h
  exact h6
theorem pl_kd (h : Pl w0 g d N gr r M W) : Kd w0 g d N W := by
  obtain ⟨S, T, h1, h2, h3, h4, h5, h6⟩ := h
  exact ⟨S, h1, h4, h6⟩
theorem pl_rk (h : Pl w0 g d N gr r M W) : ∃ T, RkS W T gr r M := by
  obtain ⟨S, T, h1, h2, h3, h4, h5, h6⟩ := h
  exact ⟨T, h2⟩
theorem pl_below (h : Pl w0 g d N gr r M W) (hb : Below W.heap.size W W') : Pl w0 g d N gr r M W' := by
  obtain ⟨S, T, h1, h2, h3, h4, h5, h6⟩ := h
  exact ⟨S, T, dkS_below h1 hb, rkS_below h2 hb, h3, h4, h5, bj h6 hb⟩
theorem plx_below (h : PlX w0 g d N gr r M q cs W) (hb : Below W.heap.size W W') : PlX w0 g d N gr r M q cs W' := by
  obtain ⟨S, T, h1, h2, h3, h4, h5, h6, h7, h8, h9, h10⟩ := h
  exact ⟨S, T, dkS_below h1 hb, rkS_below h2 hb, h3, h4, h5, bj h6 hb, h7, h8, h9, blk_step h10 hb⟩
theorem plx_new (h : Pl w0 g d N gr r M W) (cs : Array Value) : PlX w0 g d N gr r M W.heap.size cs (W.alloc (.cells cs 42)) := by
  obtain ⟨S, T, h1, h2, h3, h4, h5, h6⟩ := h
  exact ⟨S, T, dkS_below h1 one_alloc, rkS_below h2 one_alloc, h3, h4, h5, bj h6 one_alloc, fun e => by have := dkS_lt h1 _ e; omega, fun e => by have := rkS_lt h2 _ e; omega, h6.size, Blk.new W _ cs⟩
theorem pl_more (h : Pl w0 g d N gr r M W) (hN : N ≤ N2) (hM : M ≤ M2) (hN1 : N2 ≤ 1000000) (hM1 : M2 ≤ 1000000) : Pl w0 g d N2 gr r M2 W := by
  obtain ⟨S, T, h1, ⟨m, al, h2⟩, h3, h4, h5, h6⟩ := h
  refine ⟨S, T, ?_, ⟨m, al, rk_more h2 hM hM1⟩, h3, h4, h5, h6⟩
  obtain ⟨k, rfl⟩ := Nat.exists_eq_add_of_le hN
  clear hN
  induction k with
  | zero => exact h1
  | succ k ih => exact dkS_more (ih (by omega)) (by omega)
/-- a call on the program's disk -/
theorem plx_l {F : Nat} {args : Array Value} {E : Ending} (h : PlX w0 g d N gr r M q cs W) (hc : ∀ S, DkS W S g d N → (∀ b, S b → w0.heap.size ≤ b) → Calls Try.prog F args W fun e w' => e = E ∧ DkR W S g d2 N2 w') :
    Calls Try.prog F args W fun e w' => e = E ∧ PlX w0 g d2 N2 gr r M q cs w' := by
  obtain ⟨S, T, h1, h2, h3, h4, h5, h6, h7, h8, h9, h10⟩ := h
  refine (hc S h1 h4).mono fun e w' ⟨he, S2, k1, k2, k3⟩ => ⟨he, S2, T, k1, rkS_keep h2 k2 (fun b hb hs => h3 b hs hb), fun b hb hb2 => ?_, fun b hb => ?_, h5, h6.trans (fr_below k2 h4 h6.size), fun e2 => ?_, h8, h9, fr_blk k2 h10 h7⟩
  · rcases k3 b hb with h | h
    · exact h3 b h hb2
    · have := rkS_lt h2 b hb2; omega
  · rcases k3 b hb with h | h
    · exact h4 b h
    · exact Nat.le_trans h6.size h
  · rcases k3 q e2 with h | h
    · exact h7 h
    · have := h10.lt; omega
/-- a call on ref03's disk -/
theorem plx_r {F : Nat} {args : Array Value} {E : Ending} (h : PlX w0 g d N gr r M q cs W) (hc : ∀ S, RkS W S gr r M → (∀ b, S b → w0.heap.size ≤ b) → Calls Try.prog F args W fun e w' => e = E ∧ RkR W S gr r2 M2 w') :
    Calls Try.prog F args W fun e w' => e = E ∧ PlX w0 g d N gr r2 M2 q cs w' := by
  obtain ⟨S, T, h1, h2, h3, h4, h5, h6, h7, h8, h9, h10⟩ := h
  refine (hc T h2 h5).mono fun e w' ⟨he, T2, k1, k2, k3⟩ => ⟨he, S, T2, dkS_keep h1 k2 (fun b hb hs => h3 b hb hs), k1, fun b hb hb2 => ?_, h4, fun b hb => ?_, h6.trans (fr_below k2 h5 h6.size), h7, fun e2 => ?_, h9, fr_blk k2 h10 h8⟩
  · rcases k3 b hb2 with h | h
    · exact h3 b hb h
    · have := dkS_lt h1 b hb; omega
  · rcases k3 b hb with h | h
    · exact h5 b h
    · exact Nat.le_trans h6.size h
  · rcases k3 q e2 with h | h
    · exact h8 h
    · have := h10.lt; omega
theorem plx_cells {x : Fop} (h : PlX w0 g d N gr r M q (fopC x) W) : W.cell? ⟨q, 0, none⟩ = some (.int .i64 x.kd) ∧ W.cell? ⟨q, 1, none⟩ = some (.int .i64 x.fi) ∧ W.cell? ⟨q, 2, none⟩ = some (.int .i64 x.pl) ∧ W.cell? ⟨q, 3, none⟩ = some (.int .i64 x.n) ∧ W.cell? ⟨q, 4, none⟩ = some (.int .u8 x.c) ∧ W.cell? ⟨q, 5, none⟩ = some (.string x.s) ∧ W.cell? ⟨q, 6, none⟩ = some (.slice x.kA x.ks.length x.kc) := s7 (plx_blk h)
theorem px_cut_l (h : PlX w0 g d N gr r M q cs W) (hN : N + 1 ≤ 1000000) (f n : Int) : Calls Try.prog 14 #[.pointer (some ⟨g, 0, none⟩), .int .i64 f, .int .i64 n] W fun e w' => e = .returned (.int .i64 ((cutD d f n).2)) ∧ PlX w0 g (cutD d f n).1 (N + 1) gr r M q cs w' := plx_l h fun S hS _ => cut_any S g d N hN f n W hS
theorem px_cut_r (h : PlX w0 g d N gr r M q cs W) (hM : M + 1 ≤ 1000000) (f n : Int) : Calls Try.prog 27 #[.pointer (some ⟨gr, 0, none⟩), .int .i64 f, .int .i64 n] W fun e w' => e = .returned (.int .i64 ((cutD r f n).2)) ∧ PlX w0 g d N gr (cutD r f n).1 (M + 1) q cs w' := plx_r h fun S hS _ => rcut_any S gr r M hM f n W hS
theorem px_sync_l (h : PlX w0 g d N gr r M q cs W) (hN : N + 1 ≤ 1000000) (f : Int) : Calls Try.prog 18 #[.pointer (some ⟨g, 0, none⟩), .int .i64 f] W fun e w' => e = .returned (.int .i64 ((syncD d f).2)) ∧ PlX w0 g (syncD d f).1 (N + 1) gr r M q cs w' := plx_l h fun S hS _ => sync_any S g d N hN f W hS
theorem px_sync_r (h : PlX w0 g d N gr r M q cs W) (hM : M + 1 ≤ 1000000) (f : Int) (hj : Jd r) : Calls Try.prog 28 #[.pointer (some ⟨gr, 0, none⟩), .int .i64 f] W fun e w' => e = .returned (.int .i64 ((syncD r f).2)) ∧ PlX w0 g d N gr (syncD r f).1 (M + 1) q cs w' := plx_r h fun S hS _ => rsync_any S gr r M hM f W hS hj
theorem px_arm_l (h : PlX w0 g d N gr r M q cs W) (hN : N + 1 ≤ 1000000) (n e0 : Int) : Calls Try.prog 17 #[.pointer (some ⟨g, 0, none⟩), .int .i64 n, .int .i64 e0] W fun e w' => e = .returned (.int .i64 ((armD d n e0).2)) ∧ PlX w0 g (armD d n e0).1 (N + 1) gr r M q cs w' := plx_l h fun S hS _ => arm_any S g d N hN n e0 W hS
theorem rarm_any (S : Nat → Prop) (g : Nat) (d : Dk) (N : Nat) (hN : N + 1 ≤ 1000000) (n e0 : Int) (w : World) (h : RkS w S g d N) : Calls Try.prog 31 #[.pointer (some ⟨g, 0, none⟩), .int .i64 n, .int .i64 e0] w fun e w' => e = .returned (.int .i64 (armD d n e0).2) ∧ RkR w S g (armD d n e0).1 (N + 1) w' := by
  unfold armD
  by_cases hb : n < 0 ∨ 1099511627776 < n ∨ (e0 ≠ 30 ∧ e0 ≠ 31)
  · rw [if_pos hb]
    refine (rarm_bad S g d N n e0 w h hb).mono ?_
    rintro e w' ⟨rfl, rfl⟩
    exact ⟨rfl, rkR_more (rkR_refl h) (Nat.le_succ N) hN⟩
  · rw [if_neg hb]
    exact rarm_good S g d N hN n e0 w h (by omega) (by omega) (by omega)
theorem px_arm_r (h : PlX w0 g d N gr r M q cs W) (hM : M + 1 ≤ 1000000) (n e0 : Int) : Calls Try.prog 31 #[.pointer (some ⟨gr, 0, none⟩), .int .i64 n, .int .i64 e0] W fun e w' => e = .returned (.int .i64 ((armD r n e0).2)) ∧ PlX w0 g d N gr (armD r n e0).1 (M + 1) q cs w' := plx_r h fun S hS _ => rarm_any S gr r M hM n e0 W hS
theorem px_power_l (h : PlX w0 g d N gr r M q cs W) (n : Int) : Calls Try.prog 20 #[.pointer (some ⟨g, 0, none⟩), .int .i64 n] W fun e w' => e = .returned (.int .i64 ((powerD d n).2)) ∧ PlX w0 g (powerD d n).1 N gr r M q cs w' := plx_l h fun S hS _ => power_any S g d N n W hS
theorem px_power_r (h : PlX w0 g d N gr r M q cs W) (n : Int) : Calls Try.prog 32 #[.pointer (some ⟨gr, 0, none⟩), .int .i64 n] W fun e w' => e = .returned (.int .i64 ((powerD r n).2)) ∧ PlX w0 g d N gr (powerD r n).1 M q cs w' := plx_r h fun S hS _ => rpower_any S gr r M n W hS
theorem px_write_l (h : PlX w0 g d N gr r M q cs W) (hN : N + 1 ≤ 1000000) (f pl : Int) (s : ByteArray) (hs : s.size ≤ 140737488351232) : Calls Try.prog 10 #[.pointer (some ⟨g, 0, none⟩), .int .i64 f, .int .i64 pl, .string s] W fun e w' => e = .returned (.int .i64 ((writeD d f pl s).2)) ∧ PlX w0 g (writeD d f pl s).1 (N + 1) gr r M q cs w' := plx_l h fun S hS _ => write_any S g d N hN f pl s hs W hS
theorem px_write_r (h : PlX w0 g d N gr r M q cs W) (hM : M + 1 ≤ 1000000) (f pl : Int) (s : ByteArray) (hs : s.size ≤ 140737488351232) : Calls Try.prog 36 #[.pointer (some ⟨gr, 0, none⟩), .int .i64 f, .int .i64 pl, .string s] W fun e w' => e = .returned (.int .i64 ((writeD r f pl s).2)) ∧ PlX w0 g d N gr (writeD r f pl s).1 (M + 1) q cs w' := plx_r h fun S hS _ => rwrite_any S gr r M hM f pl s hs W hS
theorem px_crash_l (h : PlX w0 g d N gr r M q cs W) (K : Option Addr) (ks : List Bool) (kn kc : Nat) (hkn : kn = ks.length) (hK : BsAt W K ks) (hA : ks ≠ [] → ∀ a, K = some a → a.block < w0.heap.size) (hk0 : kn ≤ 9223372036854775807) : Calls Try.prog 16 #[.pointer (some ⟨g, 0, none⟩), .slice K kn kc] W fun e w' => e = .returned (.int .i64 0) ∧ PlX w0 g (crashD d ks) N gr r M q cs w' := plx_l h fun S hS hw => crash_any S g d N K ks kn kc hkn W hK (fun hne a ha hs => by have := hw _ hs; have := hA hne a ha; omega) hk0 hS
theorem px_crash_r (h : PlX w0 g d N gr r M q cs W) (K : Option Addr) (ks : List Bool) (kn kc : Nat) (hkn : kn = ks.length) (hK : BsAt W K ks) (hA : ks ≠ [] → ∀ a, K = some a → a.block < w0.heap.size) (hk0 : kn ≤ 9223372036854775807) : Calls Try.prog 33 #[.pointer (some ⟨gr, 0, none⟩), .slice K kn kc] W fun e w' => e = .returned (.tuple #[]) ∧ PlX w0 g d N gr (crashD r ks) M q cs w' := plx_r h fun S hS hw => rcrash_any S gr r M K ks kn kc hkn W hK (fun hne a ha hs => by have := hw _ hs; have := hA hne a ha; omega) hk0 hS
theorem pl_read_r (h : Pl w0 g d N gr r M W) (f a n : Int) (ha : -9223372036854775808 ≤ a ∧ a ≤ 9223372036854775807) : Calls Try.prog 29 #[.pointer (some ⟨gr, 0, none⟩), .int .i64 f, .int .i64 a, .int .i64 n] W fun e w' => e = .returned (.tuple #[.string (readD r f a n).1, .int .i64 (readD r f a n).2]) ∧ W = w' := by
  obtain ⟨T, hT⟩ := pl_rk h
  exact rread_any T gr r M f a n ha W hT
/-- both are new -/
theorem pl_news {W1 : World} (hb : Below w0.heap.size w0 W) (h1 : Kd w0 g newD 0 W) (hl : g < W.heap.size) : Calls Try.prog 26 #[] W fun e w' => e = .returned (.pointer (some ⟨W.heap.size, 0, none⟩)) ∧ Pl w0 g newD 0 W.heap.size newD 0 w' := by
  refine (rnew_any W).mono fun e w' ⟨he, hk, hw⟩ => ⟨he, ?_⟩
  obtain ⟨S, k1, k2, k3⟩ := h1
  exact ⟨S, _, dkS_below k1 hw, hk, fun b hb1 hb2 => by have := dkS_lt k1 b hb1; omega, k2, fun b hb2 => by have := hb.size; omega, bj hb hw⟩
/-- what is looked at of ref03's disk -/
theorem pl_ref (h : Pl w0 g d N gr r M W) : W.cell? ⟨gr, 20, none⟩ = some (.bool r.off) ∧ W.cell? ⟨gr, 18, none⟩ = some (.int .i64 r.ops) ∧ (∃ A c, W.cell? ⟨gr, 16, none⟩ = some (.slice A r.loose.length c)) ∧ ∀ i, i < 8 → ∃ A c, W.cell? ⟨gr, i, none⟩ = some (.slice A (r.fl i).length c) := by
  obtain ⟨T, m, al, hm⟩ := pl_rk h
  obtain ⟨c16, _, c18, _, c20⟩ := rkAt_cells hm
  exact ⟨c20, c18, ⟨_, _, c16⟩, fun i hi => ⟨_, _, rk_now hm (show i < 16 by omega)⟩⟩
/-- the copy goes on in its place -/
theorem pl_copy (h : Pl w0 g d N gr r M W) (hN : N + 1 ≤ 1000000) : Calls Try.prog 22 #[.pointer (some ⟨g, 0, none⟩)] W fun e w' => ∃ g', e = .returned (.pointer (some ⟨g', 0, none⟩)) ∧ ∃ S S' T, DkS w' S g d N ∧ DkS w' S' g' d N ∧ RkS w' T gr r M ∧ (∀ b, S b → ¬ S' b) ∧ (∀ b, S b → ¬ T b) ∧ (∀ b, S' b → ¬ T b) ∧ (∀ b, S b → w0.heap.size ≤ b) ∧ (∀ b, S' b → w0.heap.size ≤ b) ∧ (∀ b, T b → w0.heap.size ≤ b) ∧ Below w0.heap.size w0 w' := by
  obtain ⟨S, T, h1, h2, h3, h4, h5, h6⟩ := h
  refine (copy_any S g d N W h1).mono fun e w' ⟨g', S', he, hd, hs, hb⟩ => ⟨g', he, S, S', T, dkS_below h1 hb, hd, rkS_below h2 hb, fun b hb1 hb2 => ?_, h3, fun b hb1 hb2 => ?_, h4, fun b hb2 => Nat.le_trans h6.size (hs b hb2), h5, bj h6 hb⟩
  · have := dkS_lt h1 b hb1
    have := hs b hb2
    omega
  · have := rkS_lt h2 b hb2
    have := hs b hb1
    omega
end
/-- three disks: the elder one, its copy, ref03's -/
def Pl3 (w0 : World) (g : Nat) (d : Dk) (N : Nat) (g' : Nat) (d' : Dk) (N' : Nat) (gr : Nat) (r : Dk) (M : Nat) (W : World) : Prop :=
  ∃ S S' T, DkS W S g d N ∧ DkS W S' g' d' N' ∧ RkS W T gr r M ∧ (∀ b, S b → ¬ S' b) ∧ (∀ b, S b → ¬ T b) ∧ (∀ b, S' b → ¬ T b) ∧ (∀ b, S b → w0.heap.size ≤ b) ∧ (∀ b, S' b → w0.heap.size ≤ b) ∧ (∀ b, T b → w0.heap.size ≤ b) ∧ Below w0.heap.size w0 W
theorem pl3_l {w0 W : World} {g g' gr N N2 N' M : Nat} {d d2 d' r : Dk} {F : Nat} {args : Array Value} {E : Ending} (h : Pl3 w0 g d N g' d' N' gr r M W) (hc : ∀ S, DkS W S g d N → Calls Try.prog F args W fun e w' => e = E ∧ DkR W S g d2 N2 w') :
    Calls Try.prog F args W fun e w' => e = E ∧ Pl3 w0 g d2 N2 g' d' N' gr r M w' := by
  obtain ⟨S, S', T, h1, h2, h3, h4, h5, h6, h7, h8, h9, h10⟩ := h
  refine (hc S h1).mono fun e w' ⟨he, S2, k1, k2, k3⟩ => ⟨he, S2, S', T, k1, dkS_keep h2 k2 (fun b hb hs => h4 b hs hb), rkS_keep h3 k2 (fun b hb hs => h5 b hs hb), fun b hb hb2 => ?_, fun b hb hb2 => ?_, h6, fun b hb => ?_, h8, h9, h10.trans (fr_below k2 h7 h10.size)⟩
  · rcases k3 b hb with h | h
    · exact h4 b h hb2
    · have := dkS_lt h2 b hb2; omega
  · rcases k3 b hb with h | h
    · exact h5 b h hb2
    · have := rkS_lt h3 b hb2; omega
  · rcases k3 b hb with h | h
    · exact h7 b h
    · exact Nat.le_trans h10.size h
theorem pl3_pl {w0 W : World} {g g' gr N N' M : Nat} {d d' r : Dk} (h : Pl3 w0 g d N g' d' N' gr r M W) : Pl w0 g' d' N' gr r M W := by
  obtain ⟨S, S', T, h1, h2, h3, h4, h5, h6, h7, h8, h9, h10⟩ := h
  exact ⟨S', T, h2, h3, h6, h8, h9, h10⟩
theorem pl3_below {w0 W W' : World} {g g' gr N N' M : Nat} {d d' r : Dk} (h : Pl3 w0 g d N g' d' N' gr r M W) (hb : Below W.heap.size W W') : Pl3 w0 g d N g' d' N' gr r M W' := by
  obtain ⟨S, S', T, h1, h2, h3, h4, h5, h6, h7, h8, h9, h10⟩ := h
  exact ⟨S, S', T, dkS_below h1 hb, dkS_below h2 hb, rkS_below h3 hb, h4, h5, h6, h7, h8, h9, bj h10 hb⟩
/-- the elder disk, crashed, is written to -/
theorem old_write (d : Dk) (s : ByteArray) (hs : s.size = 64) : (writeD (crashD d []) 0 0 s).2 = 0 := by
  have ho : (crashD d []).off = false := rfl
  unfold writeD
  rw [if_neg (by rw [readyD_of (by omega) (by omega) ho]; simp), if_neg (by omega), if_neg (by omega)]
  unfold opD
  rw [if_neg (by show ¬ ((crashD d []).ops : Int) = -1; omega), if_neg (by show ¬ ((0 : Int) ≠ 0); simp)]
end Go.Proofs.Ytffojihhjiogpaa
