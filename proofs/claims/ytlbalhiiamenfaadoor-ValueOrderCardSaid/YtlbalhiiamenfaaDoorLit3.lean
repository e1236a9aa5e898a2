/- counterfoilref07.Check; what a call owns as text; counterfoilref07.Digits. Conditions: those of each lemma. -/
import Derived.Test.YtlbalhiiamenfaaDoorLit2
import Derived.Test.YtlbalhiiamenfaaDoorRefFixed
import Derived.Test.YtlbalhiiamenfaaDoorRows2
import Derived.Shelf.Bytes.SlSmallAll
namespace Go.Proofs.YtlbalhiiamenfaaDoor
open Go.RowKit
set_option linter.unusedVariables false
theorem str_em {s : ByteArray} (h : s.size ≠ 0) : s.toList.isEmpty = false := by
  have := str_no h
  cases hh : s.toList with
  | nil => exact absurd hh this
  | cons a l => rfl
theorem bne_yes {a b : Int} (h : ¬ a = b) : (a != b) = true := by rw [bne_iff_ne]; exact h
set_option maxRecDepth 100000 in
set_option maxHeartbeats 2000000 in
theorem refCheck0 (n : Int) (s : ByteArray) (w : World) :
    Calls Tryd.prog 21 #[valV (0, n, s)] w fun e w' => e = .returned (.int .i64 (chk (0, n, s))) ∧ Below w.heap.size w w' := by
  have hb1 : ∀ {o : Obj}, Below w.heap.size w (w.alloc o) := (Below.refl _ _).alloc (Nat.le_refl _) _
  by_cases h1 : n = 0
  · by_cases h2 : s.size = 0
    · subst h1
      obtain rfl := empty_of h2
      have HC := Lib.hid (show chk (0, 0, bstr []) = 0 by decide)
      rw [show (bstr [] : ByteArray) = ⟨#[]⟩ from rfl] at *
      go_enter Tryd.func21, Tryd.ntmps21
      go_wp2
      go_ret
      exact ⟨rint HC.out.symm, hb1⟩
    · have HC := Lib.hid (chk_bad (x := (0, n, s)) (by simp only; omega))
      have e := str_no h2
      have e' := str_em h2
      subst h1
      clear h2
      go_enter Tryd.func21, Tryd.ntmps21
      go_wp2
      go_ret
      exact ⟨rint HC.out.symm, hb1⟩
  · have HC := Lib.hid (chk_bad (x := (0, n, s)) (by simp only; omega))
    have e := beq_no h1
    have e' := bne_yes h1
    clear h1
    go_enter Tryd.func21, Tryd.ntmps21
    go_wp2
    go_ret
    exact ⟨rint HC.out.symm, hb1⟩
set_option maxRecDepth 100000 in
set_option maxHeartbeats 2000000 in
theorem refCheck1 (n : Int) (s : ByteArray) (w : World) :
    Calls Tryd.prog 21 #[valV (1, n, s)] w fun e w' => e = .returned (.int .i64 (chk (1, n, s))) ∧ Below w.heap.size w w' := by
  have hb1 : ∀ {o : Obj}, Below w.heap.size w (w.alloc o) := (Below.refl _ _).alloc (Nat.le_refl _) _
  by_cases h2 : s.size = 0
  · obtain rfl := empty_of h2
    have HC := Lib.hid (chk_ok (x := (1, n, bstr [])) (by simp only; omega) (by simp only; omega))
    rw [show (bstr [] : ByteArray) = ⟨#[]⟩ from rfl] at *
    go_enter Tryd.func21, Tryd.ntmps21
    go_wp2
    go_ret
    exact ⟨rint HC.out.symm, hb1⟩
  · have HC := Lib.hid (chk_bad (x := (1, n, s)) (by simp only; omega))
    have e := str_no h2
    have e' := str_em h2
    clear h2
    go_enter Tryd.func21, Tryd.ntmps21
    go_wp2
    go_ret
    exact ⟨rint HC.out.symm, hb1⟩
set_option maxRecDepth 100000 in
set_option maxHeartbeats 2000000 in
theorem refCheck23 (k n : Int) (s : ByteArray) (w : World) (hk : k = 2 ∨ k = 3) :
    Calls Tryd.prog 21 #[valV (k, n, s)] w fun e w' => e = .returned (.int .i64 (chk (k, n, s))) ∧ Below w.heap.size w w' := by
  have hb1 : ∀ {o : Obj}, Below w.heap.size w (w.alloc o) := (Below.refl _ _).alloc (Nat.le_refl _) _
  by_cases h1 : n = 0
  · by_cases h2 : 1000 < s.size
    · have HC := Lib.hid (chk_long (x := (k, n, s)) (by simp only; omega) h2)
      have h2' : (1000 : Int) < s.size := by omega
      subst h1
      clear h2
      rcases hk with rfl | rfl
      all_goals
        go_enter Tryd.func21, Tryd.ntmps21
        go_wp2
        go_ret
        exact ⟨rint HC.out.symm, hb1⟩
    · have HC := Lib.hid (chk_ok (x := (k, n, s)) (by simp only; omega) (by simp only; omega))
      have h2' : (s.size : Int) ≤ 1000 := by omega
      subst h1
      clear h2
      rcases hk with rfl | rfl
      all_goals
        go_enter Tryd.func21, Tryd.ntmps21
        go_wp2
        go_ret
        exact ⟨rint HC.out.symm, hb1⟩
  · have HC := Lib.hid (chk_bad (x := (k, n, s)) (by simp only; omega))
    have e := beq_no h1
    have e' := bne_yes h1
    clear h1
    rcases hk with rfl | rfl
    all_goals
      go_enter Tryd.func21, Tryd.ntmps21
      go_wp2
      go_ret
      exact ⟨rint HC.out.symm, hb1⟩
set_option maxRecDepth 100000 in
set_option maxHeartbeats 2000000 in
theorem refCheck_any (x : Val) (w : World) (hf : Fits x) :
    Calls Tryd.prog 21 #[valV x] w fun e w' => e = .returned (.int .i64 (chk x)) ∧ Below w.heap.size w w' := by
  obtain ⟨k, n, s⟩ := x
  obtain ⟨f1, f2, _, _⟩ := hf
  simp only at f1 f2
  by_cases k0 : k = 0
  · subst k0; exact refCheck0 n s w
  · by_cases k1 : k = 1
    · subst k1; exact refCheck1 n s w
    · by_cases k2 : k = 2 ∨ k = 3
      · exact refCheck23 k n s w k2
      · have HC := Lib.hid (chk_bad (x := (k, n, s)) (by simp only; omega))
        have hb1 : ∀ {o : Obj}, Below w.heap.size w (w.alloc o) := (Below.refl _ _).alloc (Nat.le_refl _) _
        have e4 : 3 < k := by omega
        clear k0 k1 k2 f1 f2
        go_enter Tryd.func21, Tryd.ntmps21
        go_wp2
        go_ret
        exact ⟨rint HC.out.symm, hb1⟩
theorem bstr_app2 (a b : List Nat) : bstr a ++ bstr b = bstr (a ++ b) := by
  simp [bstr, ByteArray.ext_iff]
theorem reads1 (W : World) (g : Nat) (x : Value) (t : TypeId) (hg : W.heap.size = g) : Reads (W.alloc (.cells #[x] t)) (g + 1) 1 (some ⟨g, 0, none⟩) 1 [x] := by
  subst hg
  refine ⟨rfl, fun _ => ⟨_, rfl, by simp, fun j v hj => ?_⟩⟩
  have hb := Blk.new W t #[x]
  match j, hj with
  | 0, hj => simp at hj; subst hj; exact hb.cell 0
theorem reads2 (W : World) (g : Nat) (x y : Value) (t : TypeId) (hg : W.heap.size = g) : Reads (W.alloc (.cells #[x, y] t)) (g + 1) 1 (some ⟨g, 0, none⟩) 2 [x, y] := by
  subst hg
  refine ⟨rfl, fun _ => ⟨_, rfl, by simp, fun j v hj => ?_⟩⟩
  have hb := Blk.new W t #[x, y]
  match j, hj with
  | 0, hj => simp at hj; subst hj; exact hb.cell 0
  | 1, hj => simp at hj; subst hj; simp [Addr.add]
theorem own_next {w0 W : World} {base : Nat} {e : TypeId} {v : Value} {n : Nat} {xs : List Value} (h : W.ownsRow base e 1 v n xs) (hb : Below base w0 W) (hs : base ≤ W.heap.size) (o : Obj) : (W.alloc o).ownsRow base e 1 v n xs ∧ Below base w0 (W.alloc o) ∧ base ≤ (W.alloc o).heap.size :=
  ⟨own_below h ((Below.refl W.heap.size W).alloc (Nat.le_refl _) o), hb.alloc hs o, by simp; omega⟩
theorem base_le {w W : World} {B : Nat} {o : Obj} (h : Below B (w.alloc o) W) : w.heap.size + 1 ≤ W.heap.size := by have := h.size; simp at this; exact this
theorem vals8_app (l m : List Nat) : vals8 l ++ vals8 m = vals8 (l ++ m) := by simp [vals8]

/-- a row of bytes that a call owns, as text -/
theorem conv_own {W : World} {base c : Nat} {A : Option Addr} {L : List Nat} (h : W.ownsRow base 5 1 (.slice A L.length c) L.length (vals8 L)) :
    (convert 51 9 (.slice A L.length c)).run Tryd.prog W = .ok (.string (bstr L)) W := by
  by_cases h0 : L = []
  · subst h0
    exact run_convert_bytes_zero W 51 5 Tryd.underlying51 Tryd.underlying5 A c 9 Tryd.underlying9
  · obtain ⟨g, cap, hve, hl2, _, _, hcell⟩ := cells_of_own h (by cases L with | nil => exact absurd rfl h0 | cons a b => simp)
    obtain ⟨rfl, rfl⟩ : A = some ⟨g, 0, none⟩ ∧ c = cap := by injection hve with e1 _ e2; exact ⟨e1, e2⟩
    have hcv := run_convert_bytes_arg (P := Tryd.prog) W 51 5 Tryd.underlying51 Tryd.underlying5 g 0 L.length c (L.map Int.ofNat) (by simp) hcell 9 Tryd.underlying9
    rw [bstr_nums] at hcv
    exact hcv
theorem conv_one (W : World) (g n : Nat) (z : Int) (hg : W.heap.size = g) (hz : z = n) : (convert 51 9 (.slice (some ⟨g, 0, none⟩) 1 1)).run Tryd.prog (W.alloc (.cells #[.int .u8 z] 5)) = .ok (.string (bstr [n])) (W.alloc (.cells #[.int .u8 z] 5)) := by
  subst hg hz
  have hcv := run_convert_bytes_arg (P := Tryd.prog) (W.alloc (.cells #[.int .u8 (n : Int)] 5)) 51 5 Tryd.underlying51 Tryd.underlying5 W.heap.size 0 1 1 ([n].map Int.ofNat) (by simp) (fun i hi => by
    obtain rfl : i = 0 := by omega
    exact (Blk.new W 5 #[.int .u8 (n : Int)]).cell 0) 9 Tryd.underlying9
  rw [bstr_nums] at hcv
  exact hcv
set_option maxRecDepth 100000 in
set_option maxHeartbeats 4000000 in
theorem pos_any : ∀ (T o : Nat), T ≤ 922337203685477580 → o ≤ 9 → ∀ w : World,
    Calls Tryd.prog 61 #[.int .i64 (T : Int), .int .i64 (o : Int)] w fun e w' => e = .returned (.string (bstr (digL (10 * T + o)))) ∧ Below w.heap.size w w' := by
  intro T
  induction T using Nat.strongRecOn with
  | ind T ih =>
    intro o hT ho w
    have hcv := conv_one w w.heap.size (48 + o) (48 + (o : Int)) rfl (by omega)
    by_cases h0 : T = 0
    · subst h0
      have HR := Lib.hid (show digL (10 * 0 + o) = [48 + o] by rw [digL_small (by omega)]; congr 1; omega)
      clear ih
      go_enter Tryd.func61, Tryd.ntmps61
      go_wp2
      go_ret
      exact ⟨rstr (by rw [HR.out]), (Below.refl _ _).alloc (Nat.le_refl _) _⟩
    · have h0I : ((T : Int) == 0) = false := by rw [beq_eq_false_iff_ne]; omega
      have hih : ∀ w : World, Calls Tryd.prog 61 #[.int .i64 ((T : Int) / 10), .int .i64 ((T : Int) % 10)] w fun e w' => e = .returned (.string (bstr (digL T))) ∧ Below w.heap.size w w' := fun W => by
        have h := ih (T / 10) (by omega) (T % 10) (by omega) (by omega) W
        rw [show 10 * (T / 10) + T % 10 = T from by omega] at h
        exact h
      have hlen := digL_len 18 T (by omega) (by have : (10 : Nat) ^ 18 = 1000000000000000000 := by decide
                                                omega)
      have hs1 : (bstr (digL T)).size ≤ 18 := by rw [bstr_size]; exact hlen
      have HR := Lib.hid (show bstr (digL T) ++ bstr [48 + o] = bstr (digL (10 * T + o)) by
        rw [bstr_app2, digL_big (u := 10 * T + o) (by omega), show (10 * T + o) / 10 = T from by omega, show 48 + (10 * T + o) % 10 = 48 + o from by omega])
      have hs2 : (bstr [48 + o]).size = 1 := by rw [bstr_size]; rfl
      generalize bstr (digL T) = X at *
      generalize bstr [48 + o] = Y at *
      have HI := Lib.hid hih
      have hb0 : Below w.heap.size w (w.alloc (.cells #[.int .u8 (48 + (o : Int))] 5)) := (Below.refl _ _).alloc (Nat.le_refl _) _
      have HB0 := Lib.hid hb0
      have z1 : X.size + Y.size ≤ 9223372036854775807 ∧ ¬ (9223372036854775807 < X.size + Y.size) ∧ (X.size : Int) + Y.size ≤ 9223372036854775807 := by omega
      obtain ⟨z1, z2, z3⟩ := z1
      clear ih hih hlen hb0 hs1 hs2
      go_enter Tryd.func61, Tryd.ntmps61
      go_wp2_with fail
      refine (HI.out _).mono ?_
      rintro e w2 ⟨rfl, hb2⟩
      go_wp2
      go_ret
      exact ⟨rstr HR.out, bj HB0.out hb2⟩
theorem neg_parts (u : Nat) (h : u ≤ 9223372036854775808) (hu : 1 ≤ u) : (-(u : Int)).tdiv 10 = -((u / 10 : Nat) : Int) ∧ (-(u : Int)).tmod 10 = -((u % 10 : Nat) : Int) := by
  constructor
  · rw [Int.neg_tdiv]; rfl
  · rw [Int.neg_tmod]; rfl
set_option maxRecDepth 100000 in
set_option maxHeartbeats 4000000 in
theorem digits_any (n : Int) (w : World) (h0 : -9223372036854775808 ≤ n) (h1 : n ≤ 9223372036854775807) :
    Calls Tryd.prog 41 #[.int .i64 n] w fun e w' => e = .returned (.string (bstr (itoL n))) ∧ Below w.heap.size w w' := by
  rcases int_cases n with ⟨u, rfl⟩ | ⟨u, hu, rfl⟩
  · have hp : ∀ w : World, Calls Tryd.prog 61 #[.int .i64 ((u : Int) / 10), .int .i64 ((u : Int) % 10)] w fun e w' => e = .returned (.string (bstr (itoL u))) ∧ Below w.heap.size w w' := fun W => by
      have h := pos_any (u / 10) (u % 10) (by omega) (by omega) W
      rw [show 10 * (u / 10) + u % 10 = u from by omega, ← itoL_nn] at h
      exact h
    have HP := Lib.hid hp
    have h1' : (0 : Int) ≤ u := by omega
    generalize bstr (itoL u) = X at *
    clear hp
    go_enter Tryd.func41, Tryd.ntmps41
    go_wp2_with fail
    refine (HP.out _).mono ?_
    rintro e w2 ⟨rfl, hb2⟩
    go_wp2
    go_ret
    exact ⟨rfl, hb2⟩
  · have hp : ∀ w : World, Calls Tryd.prog 61 #[.int .i64 ((u : Int) / 10), .int .i64 ((u : Int) % 10)] w fun e w' => e = .returned (.string (bstr (digL u))) ∧ Below w.heap.size w w' := fun W => by
      have h := pos_any (u / 10) (u % 10) (by omega) (by omega) W
      rw [show 10 * (u / 10) + u % 10 = u from by omega] at h
      exact h
    have hd := neg_parts u (by omega) hu
    have hlen := digL_len 19 u (by omega) (by have : (10 : Nat) ^ 19 = 10000000000000000000 := by decide
                                              omega)
    have HR := Lib.hid (show (⟨#[45]⟩ : ByteArray) ++ bstr (digL u) = bstr (itoL (-(u : Int))) by rw [itoL_neg u hu, show (⟨#[45]⟩ : ByteArray) = bstr [45] from rfl, bstr_app2]; rfl)
    have hs1 : (bstr (digL u)).size ≤ 19 := by rw [bstr_size]; exact hlen
    generalize bstr (digL u) = X at *
    generalize bstr (itoL (-(u : Int))) = Y at *
    have HP := Lib.hid hp
    have hneg : (-(u : Int)) < 0 := by omega
    clear hp hlen
    go_enter Tryd.func41, Tryd.ntmps41
    go_wp2_with fail
    refine (HP.out _).mono ?_
    rintro e w2 ⟨rfl, hb2⟩
    go_wp2
    go_ret
    exact ⟨rstr HR.out, hb2⟩
end Go.Proofs.YtlbalhiiamenfaaDoor
