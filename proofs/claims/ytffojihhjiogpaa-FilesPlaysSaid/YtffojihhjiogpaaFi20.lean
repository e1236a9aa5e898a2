/- Layer 3: what a law knows of its disk (Kd), and the calls on it; nil disks; the laws' sector. Conditions: those of each lemma. -/
import Derived.Test.YtffojihhjiogpaaFi19
namespace Go.Proofs.Ytffojihhjiogpaa
open Go.RowKit Go Go.Maps
set_option linter.unusedVariables false
set_option linter.unusedSimpArgs false
set_option maxRecDepth 100000 in
set_option maxHeartbeats 4000000 in
theorem read_nil (f a n : Int) (w : World) : Calls Try.prog 13 #[.pointer none, .int .i64 f, .int .i64 a, .int .i64 n] w fun e w' => e = .returned (.tuple #[.string ⟨#[]⟩, .int .i64 1]) ∧ w = w' := by
  have HR := Lib.hid (fun W => ready_nil f W)
  go_enter Try.func13, Try.ntmps13
  go_wp2_with (go_at_call 39; refine (HR.out _).mono ?_; rintro e w' ⟨rfl, rfl⟩)
  go_ret2
  exact ⟨rfl, rfl⟩
set_option maxRecDepth 100000 in
set_option maxHeartbeats 4000000 in
theorem write_nil (f a : Int) (s : ByteArray) (w : World) : Calls Try.prog 10 #[.pointer none, .int .i64 f, .int .i64 a, .string s] w fun e w' => e = .returned (.int .i64 1) ∧ w = w' := by
  have HR := Lib.hid (fun W => ready_nil f W)
  go_enter Try.func10, Try.ntmps10
  go_wp2_with (go_at_call 39; refine (HR.out _).mono ?_; rintro e w' ⟨rfl, rfl⟩)
  go_ret
  exact ⟨rfl, rfl⟩
set_option maxRecDepth 100000 in
set_option maxHeartbeats 4000000 in
theorem cut_nil (f a : Int) (w : World) : Calls Try.prog 14 #[.pointer none, .int .i64 f, .int .i64 a] w fun e w' => e = .returned (.int .i64 1) ∧ w = w' := by
  have HR := Lib.hid (fun W => ready_nil f W)
  go_enter Try.func14, Try.ntmps14
  go_wp2_with (go_at_call 39; refine (HR.out _).mono ?_; rintro e w' ⟨rfl, rfl⟩)
  go_ret
  exact ⟨rfl, rfl⟩
set_option maxRecDepth 100000 in
set_option maxHeartbeats 4000000 in
theorem sync_nil (f : Int) (w : World) : Calls Try.prog 18 #[.pointer none, .int .i64 f] w fun e w' => e = .returned (.int .i64 1) ∧ w = w' := by
  have HR := Lib.hid (fun W => ready_nil f W)
  go_enter Try.func18, Try.ntmps18
  go_wp2_with (go_at_call 39; refine (HR.out _).mono ?_; rintro e w' ⟨rfl, rfl⟩)
  go_ret
  exact ⟨rfl, rfl⟩
/-- what a law knows of a disk that it made: where it lies, what it is, how many steps it has gone -/
def Kd (w0 : World) (g : Nat) (d : Dk) (N : Nat) (W : World) : Prop := ∃ S, DkS W S g d N ∧ (∀ b, S b → w0.heap.size ≤ b) ∧ Below w0.heap.size w0 W
theorem kd_r {w0 W W' : World} {S : Nat → Prop} {g : Nat} {d' : Dk} {N' : Nat} (hS : ∀ b, S b → w0.heap.size ≤ b) (hb : Below w0.heap.size w0 W) (h : DkR W S g d' N' W') : Kd w0 g d' N' W' := by
  obtain ⟨S', h1, h2, h3⟩ := h
  refine ⟨S', h1, fun b hs => ?_, hb.trans (fr_below h2 hS hb.size)⟩
  rcases h3 b hs with h4 | h4
  · exact hS b h4
  · exact Nat.le_trans hb.size h4
theorem kd_below {w0 W W' : World} {g : Nat} {d : Dk} {N : Nat} (h : Kd w0 g d N W) (hb : Below W.heap.size W W') : Kd w0 g d N W' := by
  obtain ⟨S, h1, h2, h3⟩ := h
  exact ⟨S, dkS_below h1 hb, h2, bj h3 hb⟩
theorem kd_b {w0 W : World} {g : Nat} {d : Dk} {N : Nat} (h : Kd w0 g d N W) : Below w0.heap.size w0 W := by
  obtain ⟨S, h1, h2, h3⟩ := h
  exact h3
theorem kd_new {w0 W : World} (hb : Below w0.heap.size w0 W) : Calls Try.prog 9 #[] W fun e w' => e = .returned (.pointer (some ⟨W.heap.size + 1, 0, none⟩)) ∧ Kd w0 (W.heap.size + 1) newD 0 w' :=
  (new_any W).mono fun e w' ⟨he, hd, hw⟩ => ⟨he, _, hd, fun b hs => by have := hb.size; rcases hs with rfl | rfl <;> omega, bj hb hw⟩
theorem kd_write {w0 W : World} {g : Nat} {d : Dk} {N : Nat} (h : Kd w0 g d N W) (f pl : Int) (s : ByteArray) (hN : N + 1 ≤ 1000000) (hs : s.size ≤ 140737488351232) : Calls Try.prog 10 #[.pointer (some ⟨g, 0, none⟩), .int .i64 f, .int .i64 pl, .string s] W fun e w' => e = .returned (.int .i64 ((writeD d f pl s).2)) ∧ Kd w0 g (writeD d f pl s).1 (N + 1) w' := by
  obtain ⟨S, h1, h2, h3⟩ := h
  exact (write_any S g d N hN f pl s hs W h1).mono fun e w' ⟨he, hr⟩ => ⟨he, kd_r h2 h3 hr⟩
theorem kd_cut {w0 W : World} {g : Nat} {d : Dk} {N : Nat} (h : Kd w0 g d N W) (f n : Int) (hN : N + 1 ≤ 1000000) : Calls Try.prog 14 #[.pointer (some ⟨g, 0, none⟩), .int .i64 f, .int .i64 n] W fun e w' => e = .returned (.int .i64 ((cutD d f n).2)) ∧ Kd w0 g (cutD d f n).1 (N + 1) w' := by
  obtain ⟨S, h1, h2, h3⟩ := h
  exact (cut_any S g d N hN f n W h1).mono fun e w' ⟨he, hr⟩ => ⟨he, kd_r h2 h3 hr⟩
theorem kd_sync {w0 W : World} {g : Nat} {d : Dk} {N : Nat} (h : Kd w0 g d N W) (f : Int) (hN : N + 1 ≤ 1000000) : Calls Try.prog 18 #[.pointer (some ⟨g, 0, none⟩), .int .i64 f] W fun e w' => e = .returned (.int .i64 ((syncD d f).2)) ∧ Kd w0 g (syncD d f).1 (N + 1) w' := by
  obtain ⟨S, h1, h2, h3⟩ := h
  exact (sync_any S g d N hN f W h1).mono fun e w' ⟨he, hr⟩ => ⟨he, kd_r h2 h3 hr⟩
theorem kd_arm {w0 W : World} {g : Nat} {d : Dk} {N : Nat} (h : Kd w0 g d N W) (n e0 : Int) (hN : N + 1 ≤ 1000000) : Calls Try.prog 17 #[.pointer (some ⟨g, 0, none⟩), .int .i64 n, .int .i64 e0] W fun e w' => e = .returned (.int .i64 ((armD d n e0).2)) ∧ Kd w0 g (armD d n e0).1 (N + 1) w' := by
  obtain ⟨S, h1, h2, h3⟩ := h
  exact (arm_any S g d N hN n e0 W h1).mono fun e w' ⟨he, hr⟩ => ⟨he, kd_r h2 h3 hr⟩
theorem kd_power {w0 W : World} {g : Nat} {d : Dk} {N : Nat} (h : Kd w0 g d N W) (n : Int) : Calls Try.prog 20 #[.pointer (some ⟨g, 0, none⟩), .int .i64 n] W fun e w' => e = .returned (.int .i64 ((powerD d n).2)) ∧ Kd w0 g (powerD d n).1 N w' := by
  obtain ⟨S, h1, h2, h3⟩ := h
  exact (power_any S g d N n W h1).mono fun e w' ⟨he, hr⟩ => ⟨he, kd_r h2 h3 hr⟩
theorem kd_crash {w0 W0 W : World} {g : Nat} {d : Dk} {N : Nat} (h : Kd w0 g d N W0) (hb : Below W0.heap.size W0 W) (K : Option Addr) (ks : List Bool) (kn kc : Nat) (hkn : kn = ks.length) (hK : BsAt W K ks) (hA : ks ≠ [] → ∀ a, K = some a → a.block < w0.heap.size ∨ W0.heap.size ≤ a.block) (hk0 : kn ≤ 9223372036854775807) :
    Calls Try.prog 16 #[.pointer (some ⟨g, 0, none⟩), .slice K kn kc] W fun e w' => e = .returned (.int .i64 0) ∧ Kd w0 g (crashD d ks) N w' := by
  obtain ⟨S, h1, h2, h3⟩ := h
  have hlt : ∀ b, S b → b < W0.heap.size := by
    obtain ⟨m, hm⟩ := h1
    exact hm.lt
  refine (crash_any S g d N K ks kn kc hkn W hK (fun hne a ha hs => ?_) hk0 (dkS_below h1 hb)).mono fun e w' ⟨he, hr⟩ => ⟨he, kd_r h2 (bj h3 hb) hr⟩
  have := h2 _ hs
  have := hlt _ hs
  rcases hA hne a ha with h | h <;> omega
theorem kd_read {w0 W : World} {g : Nat} {d : Dk} {N : Nat} (h : Kd w0 g d N W) (f a n : Int) (ha : -9223372036854775808 ≤ a ∧ a ≤ 9223372036854775807) :
    Calls Try.prog 13 #[.pointer (some ⟨g, 0, none⟩), .int .i64 f, .int .i64 a, .int .i64 n] W fun e w' => e = .returned (.tuple #[.string (readD d f a n).1, .int .i64 (readD d f a n).2]) ∧ Below W.heap.size W w' := by
  obtain ⟨S, h1, h2, h3⟩ := h
  exact read_any S g d N f a n ha W h1
theorem kd_new2 {w0 W : World} (hb : Below w0.heap.size w0 W) : Calls Try.prog 9 #[] W fun e w' => e = .returned (.pointer (some ⟨W.heap.size + 1, 0, none⟩)) ∧ Kd w0 (W.heap.size + 1) newD 0 w' ∧ Below W.heap.size W w' :=
  (new_any W).mono fun e w' ⟨he, hd, hw⟩ => ⟨he, ⟨_, hd, fun b hs => by have := hb.size; rcases hs with rfl | rfl <;> omega, bj hb hw⟩, hw⟩
theorem kd_size {w0 W : World} {g : Nat} {d : Dk} {N : Nat} (h : Kd w0 g d N W) (f : Int) : Calls Try.prog 12 #[.pointer (some ⟨g, 0, none⟩), .int .i64 f] W fun e w' => e = .returned (.int .i64 (sizeD d f)) ∧ W = w' := by
  obtain ⟨S, h1, h2, h3⟩ := h
  exact size_any S g d N f W h1
theorem kd_loose {w0 W : World} {g : Nat} {d : Dk} {N : Nat} (h : Kd w0 g d N W) : Calls Try.prog 15 #[.pointer (some ⟨g, 0, none⟩)] W fun e w' => e = .returned (.int .i64 (d.loose.length : Nat)) ∧ W = w' := by
  obtain ⟨S, h1, h2, h3⟩ := h
  exact loose_any S g d N W h1
theorem kd_ops {w0 W : World} {g : Nat} {d : Dk} {N : Nat} (h : Kd w0 g d N W) : Calls Try.prog 19 #[.pointer (some ⟨g, 0, none⟩)] W fun e w' => e = .returned (.int .i64 d.ops) ∧ W = w' := by
  obtain ⟨S, h1, h2, h3⟩ := h
  exact ops_any S g d N W h1
theorem kd_on {w0 W : World} {g : Nat} {d : Dk} {N : Nat} (h : Kd w0 g d N W) : Calls Try.prog 21 #[.pointer (some ⟨g, 0, none⟩)] W fun e w' => e = .returned (.bool !d.off) ∧ W = w' := by
  obtain ⟨S, h1, h2, h3⟩ := h
  exact on_any S g d N W h1
theorem kd_copy {w0 W : World} {g : Nat} {d : Dk} {N : Nat} (h : Kd w0 g d N W) : Calls Try.prog 22 #[.pointer (some ⟨g, 0, none⟩)] W fun e w' => ∃ g', e = .returned (.pointer (some ⟨g', 0, none⟩)) ∧ Kd w0 g' d N w' ∧ (∀ b, b < W.heap.size → b ≠ g') ∧ Below W.heap.size W w' := by
  obtain ⟨S, h1, h2, h3⟩ := h
  refine (copy_any S g d N W h1).mono fun e w' ⟨g', S', he, hd, hs, hb⟩ => ⟨g', he, ⟨S', hd, fun b hb2 => Nat.le_trans h3.size (hs b hb2), bj h3 hb⟩, fun b hlt e2 => ?_, hb⟩
  obtain ⟨m, hm⟩ := hd
  have := hs g' hm.sg
  omega
/-- a sector of a byte -/
def secS (c : Nat) : ByteArray := bstr (List.replicate 64 c)
theorem rep_flat1 (c : UInt8) (n : Nat) : Lib.repeatL [c] n = (List.replicate n c.toNat : List Nat).map UInt8.ofNat := by
  induction n with
  | zero => rfl
  | succ n ih => simp [Lib.repeatL, List.replicate_succ] at ih ⊢; try exact ih
set_option maxRecDepth 100000 in
set_option maxHeartbeats 1000000 in
theorem sector_any (c : Nat) (w : World) (hc : c < 256) :
    Calls Try.prog 11 #[.int .u8 c] w fun e w' => e = .returned (.string (secS c)) ∧ Below w.heap.size w w' := by
  have hcv := run_convert_bytes_arg (P := Try.prog) (w.alloc (.cells #[Value.int IntKind.u8 c] 5)) 75 5 Try.underlying75 Try.underlying5 w.heap.size 0 1 1 ([c].map Int.ofNat) rfl (fun i hi => by
    rw [World.cell?_alloc_mark]
    obtain rfl : i = 0 := by omega
    rfl) 9 Try.underlying9
  rw [bstr_nums] at hcv
  have hj := fun w => Try.strings_Repeat (bstr [c]) 64 w (by omega) (by rw [bstr_size]; simp)
  have e0 : (bstr [c]).data.toList = [UInt8.ofNat c] := rfl
  have e1 : (UInt8.ofNat c).toNat = c := by rw [UInt8.toNat_ofNat']; omega
  rw [e0, rep_flat1, e1, show (⟨((List.replicate 64 c : List Nat).map UInt8.ofNat).toArray⟩ : ByteArray) = secS c from rfl] at hj
  have HJ := Lib.hid hj
  clear hj e0 e1
  go_enter Try.func11, Try.ntmps11
  go_wp2_with fail
  refine (HJ.out _).mono ?_
  rintro e w1 ⟨rfl, hb1⟩
  go_wp2
  go_ret
  exact ⟨rfl, bja _ (Below.refl _ _) hb1⟩
end Go.Proofs.Ytffojihhjiogpaa
