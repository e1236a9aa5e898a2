/- The walk of ShipBlock. Conditions: the numbers fit their kinds. -/
import Derived.Test.YtkocdaillkhkfaaLawShipByte
import Derived.Deep.QuietTactic
import Derived.BigQuiet
namespace Go.Proofs.Ytkocdaillkhkfaa
open Go.RowKit
set_option linter.unusedVariables false
def blk8 (x0 x1 x2 x3 x4 x5 x6 x7 : Nat) : Array Value := #[.int .u8 x0, .int .u8 x1, .int .u8 x2, .int .u8 x3, .int .u8 x4, .int .u8 x5, .int .u8 x6, .int .u8 x7]
theorem eight_ints {L : List Int} (hl : L.length = 8) (hw : ∀ x ∈ L, (Lit.int .u8 x).wf = true) : ∃ x0 x1 x2 x3 x4 x5 x6 x7 : Nat, (L.map (Value.int .u8)).toArray = blk8 x0 x1 x2 x3 x4 x5 x6 x7 := by
  match L, hl with
  | [a, b, c, d, e, f, g, h], _ =>
    have hb : ∀ x ∈ [a, b, c, d, e, f, g, h], 0 ≤ x := fun x hx => (bounds_u8 (hw x hx)).1
    refine ⟨a.toNat, b.toNat, c.toNat, d.toNat, e.toNat, f.toNat, g.toNat, h.toNat, ?_⟩
    unfold blk8
    rw [Int.toNat_of_nonneg (hb a (by simp)), Int.toNat_of_nonneg (hb b (by simp)), Int.toNat_of_nonneg (hb c (by simp)), Int.toNat_of_nonneg (hb d (by simp)), Int.toNat_of_nonneg (hb e (by simp)), Int.toNat_of_nonneg (hb f (by simp)), Int.toNat_of_nonneg (hb g (by simp)), Int.toNat_of_nonneg (hb h (by simp))]
    rfl
/-- the text S of which block k is B -/
def mixT (S B : ByteArray) (k : Nat) : ByteArray := S.extract 0 k ++ B ++ S.extract (k + 8) S.size
theorem mix_near {S B : ByteArray} {k0 : Nat} (hk : 8 * k0 + 8 ≤ S.size) (hB : B.size = 8) : Near (bts (mixT S B (8 * k0))) (bts S) k0 ∧ (mixT S B (8 * k0)).size = S.size := by
  have h := near_cut (L := bts S) (B := bts B) (k0 := k0) (n := 8) (by rw [bts_length]; exact hk) (by rw [bts_length]; exact hB) (.inl rfl) (by omega)
  have e : bts (mixT S B (8 * k0)) = (bts S).take (8 * k0) ++ bts B ++ (bts S).drop (8 * k0 + 8) := by
    unfold mixT
    rw [bts_app, bts_app, bts_cut0, bts_cutr]
  rw [← e] at h
  exact ⟨h.1, by rw [← bts_length, h.2, bts_length]⟩
def Sx (w : World) (kind ep K pages : Int) (full : Bool) (A : Option Addr) (n c : Nat) (X : Array Value) (W : World) : Prop := Sb w kind ep K pages full A n c W ∧ Blk W (w.heap.size + 1) 40 X
section
variable {w W W' : World} {kind ep K pages : Int} {full : Bool} {A : Option Addr} {n c : Nat} {X : Array Value}
theorem sx_step (hb : Below W.heap.size W W') (h : Sx w kind ep K pages full A n c X W) : Sx w kind ep K pages full A n c X W' := ⟨sb_step hb h.1, blk_step h.2 hb⟩
theorem sx_new (w : World) (kind ep K pages : Int) (full : Bool) (A : Option Addr) (n c : Nat) (X : Array Value) : Sx w kind ep K pages full A n c X ((w.alloc (.cells #[.int .u8 kind, .int .u64 ep, .int .u64 K, .bool full, .int .i64 pages, .slice A n c] 28)).alloc (.cells X 40)) :=
  ⟨sb_step ((Below.refl _ _).alloc (Nat.le_refl _) _) (sb_new w kind ep K pages full A n c), blk_new _ _ _ _ (by simp)⟩
theorem sx_drewN (m : Nat) (h : Sx w kind ep K pages full A n c X W) : Sx w kind ep K pages full A n c X (W.drewN m) := ⟨sb_drewN m h.1, h.2.drewN m⟩
theorem sx_conv {x0 x1 x2 x3 x4 x5 x6 x7 : Nat} (h : Sx w kind ep K pages full A n c (blk8 x0 x1 x2 x3 x4 x5 x6 x7) W) : (convert 38 9 (.slice (some ⟨w.heap.size + 1, 0, none⟩) 8 8)).run Try.prog W = .ok (.string (bstr [x0, x1, x2, x3, x4, x5, x6, x7])) W := by
  have h2 := run_convert_bytes_arg (P := Try.prog) W 38 5 Try.underlying38 Try.underlying5 (w.heap.size + 1) 0 8 8 (([x0, x1, x2, x3, x4, x5, x6, x7]).map Int.ofNat) rfl (fun i hi => by
    have hc := h.2.cell (0 + i)
    rw [hc]
    obtain rfl | rfl | rfl | rfl | rfl | rfl | rfl | rfl : i = 0 ∨ i = 1 ∨ i = 2 ∨ i = 3 ∨ i = 4 ∨ i = 5 ∨ i = 6 ∨ i = 7 := by omega
    all_goals rfl) 9 Try.underlying9
  rw [bstr_nums] at h2
  exact h2
end
set_option maxRecDepth 100000 in
set_option maxHeartbeats 8000000 in
theorem shipBlock_great (kind ep K pages at_ : Int) (full : Bool) (A : Option Addr) (n c : Nat) (x0 x1 x2 x3 x4 x5 x6 x7 : Nat) (S : ByteArray) (ev : Int) (g : Bool) (w : World)
    (HG : Hid (∀ W, Sb w kind ep K pages full A n c W → Calls Try.prog 14 #[.agg #[.int .u8 kind, .int .u64 ep, .int .u64 K, .bool full, .int .i64 pages, .slice A n c]] W fun e w' => e = .returned (.bool g) ∧ Below W.heap.size W w'))
    (HP : Hid (∀ W, Sb w kind ep K pages full A n c W → Calls Try.prog 10 #[.agg #[.int .u8 kind, .int .u64 ep, .int .u64 K, .bool full, .int .i64 pages, .slice A n c]] W fun e w' => e = .returned (.tuple #[.string S, .int .i64 ev]) ∧ Below W.heap.size W w')) (hg : g = true) :
    Calls Try.prog 8 #[.agg #[.int .u8 kind, .int .u64 ep, .int .u64 K, .bool full, .int .i64 pages, .slice A n c], .int .i64 at_, .agg (blk8 x0 x1 x2 x3 x4 x5 x6 x7)] w fun e w' => e = .returned (.bool true) ∧ Below w.heap.size w w' := by
  subst hg
  have hs0 := sx_new w kind ep K pages full A n c (blk8 x0 x1 x2 x3 x4 x5 x6 x7)
  unfold blk8
  go_enter Try.func8, Try.ntmps8
  go_wp2_with fail
  refine (works_any _).mono ?_
  rintro e w1 ⟨rfl, hb1⟩
  have hs1 := sx_step hb1 hs0
  obtain ⟨r0, r1, r2, r3, r4, r5⟩ := sbS hs1.1
  clear hb1 hs0
  go_wp2_with fail
  refine (HP.out _ hs1.1).mono ?_
  rintro e w2 ⟨rfl, hb2⟩
  have hs2 := sx_step hb2 hs1
  clear hb2 hs1 r0 r1 r2 r3 r4 r5
  obtain ⟨r0, r1, r2, r3, r4, r5⟩ := sbS hs2.1
  go_wp2_with fail
  refine (HG.out _ hs2.1).mono ?_
  rintro e w3 ⟨rfl, hb3⟩
  have hs3 := sx_step hb3 hs2
  clear hb3 hs2 r0 r1 r2 r3 r4 r5
  go_wp2
  go_ret
  exact ⟨rfl, hs3.1.2⟩
set_option maxRecDepth 100000 in
set_option maxHeartbeats 8000000 in
theorem shipBlock_bad (kind ep K pages at_ : Int) (full : Bool) (A : Option Addr) (n c : Nat) (x0 x1 x2 x3 x4 x5 x6 x7 : Nat) (S : ByteArray) (ev : Int) (g : Bool) (w : World)
    (HG : Hid (∀ W, Sb w kind ep K pages full A n c W → Calls Try.prog 14 #[.agg #[.int .u8 kind, .int .u64 ep, .int .u64 K, .bool full, .int .i64 pages, .slice A n c]] W fun e w' => e = .returned (.bool g) ∧ Below W.heap.size W w'))
    (HP : Hid (∀ W, Sb w kind ep K pages full A n c W → Calls Try.prog 10 #[.agg #[.int .u8 kind, .int .u64 ep, .int .u64 K, .bool full, .int .i64 pages, .slice A n c]] W fun e w' => e = .returned (.tuple #[.string S, .int .i64 ev]) ∧ Below W.heap.size W w')) (hg : g = false) (he : (ev != 0) = true) :
    Calls Try.prog 8 #[.agg #[.int .u8 kind, .int .u64 ep, .int .u64 K, .bool full, .int .i64 pages, .slice A n c], .int .i64 at_, .agg (blk8 x0 x1 x2 x3 x4 x5 x6 x7)] w fun e w' => e = .returned (.bool true) ∧ Below w.heap.size w w' := by
  subst hg
  have hs0 := sx_new w kind ep K pages full A n c (blk8 x0 x1 x2 x3 x4 x5 x6 x7)
  unfold blk8
  go_enter Try.func8, Try.ntmps8
  go_wp2_with fail
  refine (works_any _).mono ?_
  rintro e w1 ⟨rfl, hb1⟩
  have hs1 := sx_step hb1 hs0
  obtain ⟨r0, r1, r2, r3, r4, r5⟩ := sbS hs1.1
  clear hb1 hs0
  go_wp2_with fail
  refine (HP.out _ hs1.1).mono ?_
  rintro e w2 ⟨rfl, hb2⟩
  have hs2 := sx_step hb2 hs1
  clear hb2 hs1 r0 r1 r2 r3 r4 r5
  obtain ⟨r0, r1, r2, r3, r4, r5⟩ := sbS hs2.1
  go_wp2_with fail
  refine (HG.out _ hs2.1).mono ?_
  rintro e w3 ⟨rfl, hb3⟩
  have hs3 := sx_step hb3 hs2
  clear hb3 hs2 r0 r1 r2 r3 r4 r5
  go_wp2
  go_ret
  exact ⟨rfl, hs3.1.2⟩
set_option maxRecDepth 100000 in
set_option maxHeartbeats 8000000 in
theorem shipBlock_neg (kind ep K pages at_ : Int) (full : Bool) (A : Option Addr) (n c : Nat) (x0 x1 x2 x3 x4 x5 x6 x7 : Nat) (S : ByteArray) (ev : Int) (g : Bool) (w : World)
    (HG : Hid (∀ W, Sb w kind ep K pages full A n c W → Calls Try.prog 14 #[.agg #[.int .u8 kind, .int .u64 ep, .int .u64 K, .bool full, .int .i64 pages, .slice A n c]] W fun e w' => e = .returned (.bool g) ∧ Below W.heap.size W w'))
    (HP : Hid (∀ W, Sb w kind ep K pages full A n c W → Calls Try.prog 10 #[.agg #[.int .u8 kind, .int .u64 ep, .int .u64 K, .bool full, .int .i64 pages, .slice A n c]] W fun e w' => e = .returned (.tuple #[.string S, .int .i64 ev]) ∧ Below W.heap.size W w')) (hg : g = false) (he : (ev != 0) = false) (ha : at_ < 0) :
    Calls Try.prog 8 #[.agg #[.int .u8 kind, .int .u64 ep, .int .u64 K, .bool full, .int .i64 pages, .slice A n c], .int .i64 at_, .agg (blk8 x0 x1 x2 x3 x4 x5 x6 x7)] w fun e w' => e = .returned (.bool true) ∧ Below w.heap.size w w' := by
  subst hg
  have hs0 := sx_new w kind ep K pages full A n c (blk8 x0 x1 x2 x3 x4 x5 x6 x7)
  unfold blk8
  go_enter Try.func8, Try.ntmps8
  go_wp2_with fail
  refine (works_any _).mono ?_
  rintro e w1 ⟨rfl, hb1⟩
  have hs1 := sx_step hb1 hs0
  obtain ⟨r0, r1, r2, r3, r4, r5⟩ := sbS hs1.1
  clear hb1 hs0
  go_wp2_with fail
  refine (HP.out _ hs1.1).mono ?_
  rintro e w2 ⟨rfl, hb2⟩
  have hs2 := sx_step hb2 hs1
  clear hb2 hs1 r0 r1 r2 r3 r4 r5
  obtain ⟨r0, r1, r2, r3, r4, r5⟩ := sbS hs2.1
  go_wp2_with fail
  refine (HG.out _ hs2.1).mono ?_
  rintro e w3 ⟨rfl, hb3⟩
  have hs3 := sx_step hb3 hs2
  clear hb3 hs2 r0 r1 r2 r3 r4 r5
  go_wp2
  go_ret
  exact ⟨rfl, hs3.1.2⟩
set_option maxRecDepth 100000 in
set_option maxHeartbeats 8000000 in
theorem shipBlock_main (kind ep K pages at_ : Int) (full : Bool) (A : Option Addr) (n c : Nat) (x0 x1 x2 x3 x4 x5 x6 x7 : Nat) (S : ByteArray) (ev : Int) (g : Bool) (w : World)
    (HG : Hid (∀ W, Sb w kind ep K pages full A n c W → Calls Try.prog 14 #[.agg #[.int .u8 kind, .int .u64 ep, .int .u64 K, .bool full, .int .i64 pages, .slice A n c]] W fun e w' => e = .returned (.bool g) ∧ Below W.heap.size W w'))
    (HP : Hid (∀ W, Sb w kind ep K pages full A n c W → Calls Try.prog 10 #[.agg #[.int .u8 kind, .int .u64 ep, .int .u64 K, .bool full, .int .i64 pages, .slice A n c]] W fun e w' => e = .returned (.tuple #[.string S, .int .i64 ev]) ∧ Below W.heap.size W w')) (hg : g = false) (he : ev = 0) (j k0 : Nat) (ha : at_ = j) (hjm : j ≤ 9223372036854775807) (h56 : 56 ≤ S.size) (hS : S.size ≤ 1000000) (hk0 : Hid (wrap64 ((j : Int) % ((S.size : Int) / 8) * 8) = (k0 : Int))) (hkb : k0 + 8 ≤ S.size) (y : Int) (bb : Bool) (hy : Hid ((y == 0) = bb)) (hby : Hid ((S.toList == (mixT S (bstr [x0, x1, x2, x3, x4, x5, x6, x7]) k0).toList) = bb))
    (HT : Hid (∀ W, Calls Try.prog 12 #[.string (mixT S (bstr [x0, x1, x2, x3, x4, x5, x6, x7]) k0)] W fun e w' => ∃ v, e = .returned (.tuple #[v, .int .i64 y]) ∧ Below W.heap.size W w')) :
    Calls Try.prog 8 #[.agg #[.int .u8 kind, .int .u64 ep, .int .u64 K, .bool full, .int .i64 pages, .slice A n c], .int .i64 at_, .agg (blk8 x0 x1 x2 x3 x4 x5 x6 x7)] w fun e w' => e = .returned (.bool true) ∧ Below w.heap.size w w' := by
  subst hg he ha
  have hsz0 : (0 : Int) < (S.size : Int) / 8 := by omega
  have hszn : (S.size : Int) / 8 ≤ 1000000 := by omega
  have hs0 := sx_new w kind ep K pages full A n c (blk8 x0 x1 x2 x3 x4 x5 x6 x7)
  unfold blk8
  go_enter Try.func8, Try.ntmps8
  go_wp2_with fail
  refine (works_any _).mono ?_
  rintro e w1 ⟨rfl, hb1⟩
  have hs1 := sx_step hb1 hs0
  obtain ⟨r0, r1, r2, r3, r4, r5⟩ := sbS hs1.1
  clear hb1 hs0
  go_wp2_with fail
  refine (HP.out _ hs1.1).mono ?_
  rintro e w2 ⟨rfl, hb2⟩
  have hs2 := sx_step hb2 hs1
  clear hb2 hs1 r0 r1 r2 r3 r4 r5
  obtain ⟨r0, r1, r2, r3, r4, r5⟩ := sbS hs2.1
  go_wp2_with fail
  refine (HG.out _ hs2.1).mono ?_
  rintro e w3 ⟨rfl, hb3⟩
  have hs3 := sx_step hb3 hs2
  clear hb3 hs2 r0 r1 r2 r3 r4 r5
  have HS3 := Lib.hid hs3
  clear hs3
  go_wp2_with fail
  rw [hk0.out]
  clear hsz0 hszn hjm h56
  unfold mixT at HT hby
  have hw2 : IntKind.i64.wrap ((k0 : Int) + 8) = (k0 : Int) + 8 := by simp [IntKind.wrap, IntKind.bits, IntKind.signed]; omega
  have hf0 : (0 : Int) ≤ (k0 : Int) := by omega
  have hf1 : (k0 : Int) ≤ S.size := by omega
  have hf2 : (k0 : Int) + 8 ≤ S.size := by omega
  have hf3 : (0 : Int) ≤ (k0 : Int) + 8 := by omega
  have hf4 : ((k0 : Int) + 8).toNat = k0 + 8 := by omega
  have hal : Try.prog.arrayLen 40 = 8 := by kernel_rfl
  have hcv := fun n => sx_conv (sx_drewN n HS3.out)
  have hcv1 := sx_conv (sx_drewN 1 HS3.out)
  have hcv0 := sx_conv (sx_drewN 0 HS3.out)
  have hsB : (bstr [x0, x1, x2, x3, x4, x5, x6, x7]).size = 8 := by rw [bstr_size]; rfl
  have hsA : (S.extract 0 k0).size = k0 := by simp; omega
  have hsC : (S.extract (k0 + 8) S.size).size = S.size - (k0 + 8) := by simp
  have hct1 := fun w => run_string_add_sum (P := Try.prog) w (S.extract 0 k0) (bstr [x0, x1, x2, x3, x4, x5, x6, x7]) (by omega)
  have hct2 := fun w => run_string_add_sum (P := Try.prog) w (S.extract 0 k0 ++ bstr [x0, x1, x2, x3, x4, x5, x6, x7]) (S.extract (k0 + 8) S.size) (by rw [ByteArray.size_append]; omega)
  have hm1 : min k0 S.size + 8 ≤ 9223372036854775807 := by omega
  have hm2 : min k0 S.size + 8 + (S.size - (k0 + 8)) ≤ 9223372036854775807 := by omega
  clear hsA hsC hS hkb
  go_quiet (fail)
  clear hw2 hf0 hf1 hf2 hf3 hf4 hal hcv hcv1 hcv0 hsB hct1 hct2 hm1 hm2
  generalize S.extract 0 k0 ++ bstr [x0, x1, x2, x3, x4, x5, x6, x7] ++ S.extract (k0 + 8) S.size = T2 at *
  have hs6 := fun n => sx_drewN n HS3.out
  have e1 := hy.out
  have e2 := hby.out
  have HS6 := Lib.hid hs6
  clear hs6
  go_wp2_with fail
  refine (HT.out _).mono ?_
  rintro e w5 ⟨v, rfl, hb5⟩
  have hs5 := sx_step hb5 (HS6.out _)
  cases bb
  all_goals
    go_wp2
    go_ret
    exact ⟨rfl, hs5.1.2⟩
theorem shipBlock_walk (a0 b0 c0 : Int) (d0 : Bool) (e0 : Int) (A0 : Option Addr) (l0 : List (Int × ByteArray)) (n0 k0 : Nat) (a1 : Int) (a2 : List Int) (_wa0 : (Lit.int .u8 a0).wf = true) (wb0 : (Lit.int .u64 b0).wf = true) (wc0 : (Lit.int .u64 c0).wf = true) (_we0 : (Lit.int .i64 e0).wf = true) (hn0 : n0 = l0.length) (hm0 : n0 ≤ maxLen) (_hx0 : ∀ x ∈ l0, (Lit.int .i64 x.1).wf = true) (w1 : (Lit.int .i64 a1).wf = true) (l2 : a2.length = 8) (w2 : ∀ x ∈ a2, (Lit.int .u8 x).wf = true) (w : World) (I0 : Imgs w w.heap.size A0 l0) :
    Calls Try.prog 8 #[.agg #[.int .u8 a0, .int .u64 b0, .int .u64 c0, .bool d0, .int .i64 e0, .slice A0 n0 k0], .int .i64 a1, .agg (a2.map (Value.int .u8)).toArray] w fun e w' => e = .returned (.bool true) ∧ Below w.heap.size w w' := by
  have hG := fun W (h : Sb w a0 b0 c0 e0 d0 A0 n0 k0 W) => great_any a0 b0 c0 e0 d0 A0 l0 n0 k0 W (sb_imgs h I0) hn0 hm0
  have h1 := bounds_i64 w1
  obtain ⟨x0, x1, x2, x3, x4, x5, x6, x7, e4⟩ := eight_ints l2 w2
  rw [e4]
  clear w1 w2 l2 e4
  have hB : (bstr [x0, x1, x2, x3, x4, x5, x6, x7]).size = 8 := by rw [bstr_size]; rfl
  rcases put_cases a0 b0 c0 e0 d0 A0 l0 n0 k0 w I0 hn0 hm0 (u64_lt wb0) (u64_lt wc0) with ⟨_, hp⟩ | ⟨k, e', K', p, rfl, rfl, rfl, rfl, hs, h256, hp⟩
  · cases hg : grB l0 with
    | true => exact shipBlock_great a0 b0 c0 e0 a1 d0 A0 n0 k0 x0 x1 x2 x3 x4 x5 x6 x7 _ _ _ w (Lib.hid hG) (Lib.hid hp) hg
    | false => exact shipBlock_bad a0 b0 c0 e0 a1 d0 A0 n0 k0 x0 x1 x2 x3 x4 x5 x6 x7 _ _ _ w (Lib.hid hG) (Lib.hid hp) hg rfl
  · cases hg : grB l0 with
    | true => exact shipBlock_great k e' K' p a1 d0 A0 n0 k0 x0 x1 x2 x3 x4 x5 x6 x7 _ _ _ w (Lib.hid hG) (Lib.hid hp) hg
    | false =>
      by_cases ha : a1 < 0
      · exact shipBlock_neg k e' K' p a1 d0 A0 n0 k0 x0 x1 x2 x3 x4 x5 x6 x7 _ _ _ w (Lib.hid hG) (Lib.hid hp) hg rfl ha
      generalize hT : bstr (shipL k e' K' d0 p l0) = T at *
      have hsz := ship_size hs
      obtain ⟨j, rfl⟩ := Int.eq_ofNat_of_zero_le (show 0 ≤ a1 from by omega)
      have hq : 0 < T.size / 8 := by omega
      have hlt := Nat.mod_lt j hq
      have hkk : wrap64 ((j : Int) % ((T.size : Int) / 8) * 8) = ((8 * (j % (T.size / 8)) : Nat) : Int) := by
        have e : (j : Int) % ((T.size : Int) / 8) = ((j % (T.size / 8) : Nat) : Int) := by simp
        rw [e]
        unfold wrap64
        omega
      generalize j % (T.size / 8) = q at *
      have hkb : 8 * q + 8 ≤ T.size := by omega
      obtain ⟨m1, m2⟩ := mix_near (S := T) (B := bstr [x0, x1, x2, x3, x4, x5, x6, x7]) hkb hB
      by_cases hy : mixT T (bstr [x0, x1, x2, x3, x4, x5, x6, x7]) (8 * q) = T
      · refine shipBlock_main k e' K' p j d0 A0 n0 k0 x0 x1 x2 x3 x4 x5 x6 x7 T 0 _ w (Lib.hid hG) (Lib.hid hp) hg rfl j (8 * q) rfl (by omega) (by omega) (by omega) (Lib.hid hkk) hkb 0 true (Lib.hid rfl) (Lib.hid (by rw [hy]; simp)) (Lib.hid ?_)
        rw [hy]
        exact takeOkS T (by omega) hs
      · have hne : ¬ sumOk (mixT T (bstr [x0, x1, x2, x3, x4, x5, x6, x7]) (8 * q)) := fun h => hy (ship_near m1 m2 (by omega) h (ship_sum hs))
        refine shipBlock_main k e' K' p j d0 A0 n0 k0 x0 x1 x2 x3 x4 x5 x6 x7 T 0 _ w (Lib.hid hG) (Lib.hid hp) hg rfl j (8 * q) rfl (by omega) (by omega) (by omega) (Lib.hid hkk) hkb 40 false (Lib.hid rfl) (Lib.hid (toList_ne hy)) (Lib.hid ?_)
        exact take_other _ (by omega) (by omega) (by omega) hne
end Go.Proofs.Ytkocdaillkhkfaa
