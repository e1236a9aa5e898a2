/- Layer 3: ref03's New, Read, Arms. Conditions: those of each lemma. -/
import Derived.Test.YtffojihhjiogpaaFj4
import Derived.BigQuiet
namespace Go.Proofs.Ytffojihhjiogpaa
open Go.RowKit Go Go.Maps
set_option linter.unusedVariables false
set_option linter.unusedSimpArgs false
def rm0 : Rm := ⟨fun _ => none, fun _ => 0, none, 0, none, 0⟩
set_option maxRecDepth 100000 in
set_option maxHeartbeats 4000000 in
theorem rnew_any (w : World) : Calls Try.prog 26 #[] w fun e w' => e = .returned (.pointer (some ⟨w.heap.size, 0, none⟩)) ∧ RkS w' (fun b => b = w.heap.size) w.heap.size newD 0 ∧ Below w.heap.size w w' := by
  have HB := Lib.hid (show RkS (w.alloc (.cells (rkA newD [] rm0) 56)) (fun b => b = w.heap.size) w.heap.size newD 0 from
    ⟨rm0, [], Blk.new w _ _, { fl := fun i hi => rdS_nil _ _, loo := World.ownsRow_nil _ _ _ _, ard := ⟨rfl, fun h => absurd h (Nat.lt_irrefl 0)⟩, vs := fun i hi h => absurd rfl h, ars := fun h => absurd rfl h, ls := fun z hz => (by cases hz), sg := rfl, lt := fun b hb => by subst hb; simp, rel := fun n hn => rfl, ok := fun i hi => ⟨Nat.zero_le _, fun s hs => (by cases hs)⟩, chs := fun c hc => (by cases hc), cN := ⟨Nat.le_refl _, Nat.zero_le _, Nat.le_refl _, by omega⟩, pw := ⟨by decide, by decide⟩ }⟩)
  have HE := Lib.hid (show rkA newD [] rm0 = #[.slice none 0 0, .slice none 0 0, .slice none 0 0, .slice none 0 0, .slice none 0 0, .slice none 0 0, .slice none 0 0, .slice none 0 0, .slice none 0 0, .slice none 0 0, .slice none 0 0, .slice none 0 0, .slice none 0 0, .slice none 0 0, .slice none 0 0, .slice none 0 0, .slice none 0 0, .slice none 0 0, .int .i64 0, .int .i64 (-1), .bool false] from rfl)
  go_enter Try.func26, Try.ntmps26
  go_wp2
  go_ret
  exact ⟨rfl, by have h := HB.out; rw [HE.out] at h; exact h, one_alloc⟩
theorem rk_now {W : World} {S : Nat → Prop} {g : Nat} {m : Rm} {d : Dk} {al : List (Int × Int)} {N : Nat} (h : RkAt W S g m d al N) {i : Nat} (hi : i < 16) : W.cell? ⟨g, i, none⟩ = some (.slice (m.V i) (d.fl i).length (m.vc i)) := by
  rw [(rkAt_cell h (show i < 21 by omega)).1, rkCell_fl _ _ _ hi]
set_option maxRecDepth 100000 in
set_option maxHeartbeats 8000000 in
theorem rread_any (S : Nat → Prop) (g : Nat) (d : Dk) (N : Nat) (f a n : Int) (ha : -9223372036854775808 ≤ a ∧ a ≤ 9223372036854775807) (w : World) (h : RkS w S g d N) :
    Calls Try.prog 29 #[.pointer (some ⟨g, 0, none⟩), .int .i64 f, .int .i64 a, .int .i64 n] w fun e w' => e = .returned (.tuple #[.string (readD d f a n).1, .int .i64 (readD d f a n).2]) ∧ w = w' := by
  obtain ⟨m, al, hm⟩ := h
  obtain ⟨_, _, _, _, c20⟩ := rkAt_cells hm
  have HIN := Lib.hid (fun W => rin_any f W)
  obtain ⟨R, hR⟩ : ∃ R, readD d f a n = R := ⟨_, rfl⟩
  rw [hR]
  unfold readD readyD at hR
  cases ho : d.off with
  | true =>
    rw [ho] at hR c20
    rw [if_pos (by simp), if_pos rfl] at hR
    subst hR
    clear hm
    go_enter Try.func29, Try.ntmps29
    go_wp2
    go_ret2
    exact ⟨rfl, rfl⟩
  | false =>
  rw [ho] at hR c20
  cases hi : inF f with
  | false =>
    rw [hi] at hR HIN
    rw [if_pos (by simp)] at hR
    subst hR
    clear hm
    go_enter Try.func29, Try.ntmps29
    go_wp2_with fail
    refine (HIN.out _).mono ?_
    rintro e w1 ⟨rfl, rfl⟩
    go_wp2
    go_ret2
    exact ⟨rfl, rfl⟩
  | true =>
  rw [hi] at hR HIN
  rw [if_neg (by simp)] at hR
  obtain ⟨hf0, hf8⟩ : 0 ≤ f ∧ f < 8 := by unfold inF at hi; simpa using hi
  rw [sizeD_of d hf0 hf8] at hR
  obtain ⟨i, rfl⟩ := Int.eq_ofNat_of_zero_le hf0
  have hi8 : i < 8 := by omega
  have cf := rk_now hm (show i < 16 by omega)
  have hl8 := (hm.p.ok i (by omega)).1
  have hok := (hm.p.ok i (by omega)).2
  have hrd := hm.p.fl i (by omega)
  rw [Int.toNat_natCast] at hR
  generalize d.fl i = L at *
  generalize m.V i = A at *
  have hlI : (L.length : Int) ≤ 8192 := by omega
  have HRD := Lib.hid (And.intro hrd hok)
  obtain ⟨z, hz⟩ : ∃ z, L.length = z := ⟨_, rfl⟩
  rw [hz] at cf hR hlI
  have HZ := Lib.hid hz
  clear hm hrd hok hl8 hz hi ho
  by_cases h1 : a < 0
  · have b1 : decide (a < 0) = true := decide_eq_true h1
    rw [if_pos (.inl h1)] at hR
    subst hR
    go_enter Try.func29, Try.ntmps29
    go_wp2_with fail
    refine (HIN.out _).mono ?_
    rintro e w1 ⟨rfl, rfl⟩
    go_wp2
    go_ret2
    exact ⟨rfl, rfl⟩
  have b1 : decide (a < 0) = false := decide_eq_false h1
  by_cases h2 : n < 0
  · have b2 : decide (n < 0) = true := decide_eq_true h2
    rw [if_pos (.inr (.inl h2))] at hR
    subst hR
    go_enter Try.func29, Try.ntmps29
    go_wp2_with fail
    refine (HIN.out _).mono ?_
    rintro e w1 ⟨rfl, rfl⟩
    go_wp2
    go_ret2
    exact ⟨rfl, rfl⟩
  have b2 : decide (n < 0) = false := decide_eq_false h2
  by_cases h3 : (z : Int) < a
  · have b3 : decide ((z : Int) < a) = true := decide_eq_true h3
    rw [if_pos (.inr (.inr (.inl h3)))] at hR
    subst hR
    go_enter Try.func29, Try.ntmps29
    go_wp2_with fail
    refine (HIN.out _).mono ?_
    rintro e w1 ⟨rfl, rfl⟩
    go_wp2
    go_ret2
    exact ⟨rfl, rfl⟩
  have b3 : decide ((z : Int) < a) = false := decide_eq_false h3
  have hw0 : IntKind.i64.wrap ((z : Int) - a) = (z : Int) - a := by rw [IntKind.wrap_i64]; omega
  by_cases h4 : (z : Int) - a < n
  · have b4 : decide ((z : Int) - a < n) = true := decide_eq_true h4
    rw [if_pos (.inr (.inr (.inr h4)))] at hR
    subst hR
    go_enter Try.func29, Try.ntmps29
    go_wp2_with fail
    refine (HIN.out _).mono ?_
    rintro e w1 ⟨rfl, rfl⟩
    go_wp2
    go_ret2
    exact ⟨rfl, rfl⟩
  have b4 : decide ((z : Int) - a < n) = false := decide_eq_false h4
  rw [if_neg (by omega)] at hR
  obtain ⟨p, rfl⟩ := Int.eq_ofNat_of_zero_le (show 0 ≤ a by omega)
  obtain ⟨k, rfl⟩ := Int.eq_ofNat_of_zero_le (show 0 ≤ n by omega)
  rw [Int.toNat_natCast, Int.toNat_natCast] at hR
  have hpk : p + k ≤ z := by omega
  have hw1 : IntKind.i64.wrap ((p : Int) + k) = (p : Int) + k := by rw [IntKind.wrap_i64]; omega
  have HR := Lib.hid hR
  clear hR h1 h2 h3 h4
  go_enter Try.func29, Try.ntmps29
  go_wp2_with fail
  refine (HIN.out _).mono ?_
  rintro e w1 ⟨rfl, rfl⟩
  go_wp2
  go_loopw [10, 11] (fun s v wr => ∃ j : Nat, j ≤ k ∧ v = .int .i64 ((p + j : Nat) : Int) ∧ s = .string (bstr ((L.drop p).take j).flatten) ∧ w = wr) (fun _ v _ => p + k - (intOf v).toNat)
  case atStart => exact ⟨0, by omega, rfl, rfl, rfl⟩
  case round =>
    obtain ⟨j, hj, rfl, rfl, rfl⟩ := hrel
    have h0j : (0 : Int) ≤ ((p + j : Nat) : Int) := by omega
    have hwj : IntKind.i64.wrap (((p + j : Nat) : Int) + 1) = ((p + (j + 1) : Nat) : Int) := by rw [IntKind.wrap_i64]; omega
    by_cases hjk : j < k
    · have hjI : ((p + j : Nat) : Int) < (p : Int) + k := by omega
      have hjl : p + j < L.length := by have := HZ.out; omega
      have hjz : ((p + j : Nat) : Int) < z := by omega
      obtain ⟨b, o, rfl, hbl, hcs⟩ := rdS_at HRD.out.1 hjl
      have hcl := hcs (p + j) _ (List.getElem?_eq_getElem hjl)
      have hso := HRD.out.2 L[p + j] (List.getElem_mem hjl)
      have hts : (L.drop p).take (j + 1) = (L.drop p).take j ++ [L[p + j]] := take_snoc (by rw [List.getElem?_drop, List.getElem?_eq_getElem hjl])
      have hfs : ((L.drop p).take j).flatten.length = 64 * j := by
        rw [flat_size _ (fun s hs => HRD.out.2 s (List.mem_of_mem_drop (List.mem_of_mem_take hs))), List.length_take, List.length_drop, Nat.min_eq_left (by omega)]
      have hcat : bstr ((L.drop p).take (j + 1)).flatten = bstr ((L.drop p).take j).flatten ++ bstr L[p + j] := by
        rw [hts, List.flatten_append, List.flatten_cons, List.flatten_nil, List.append_nil, bstr_append]
      have hX : (bstr ((L.drop p).take j).flatten).size = 64 * j := by rw [bstr_size, hfs]
      have hY : (bstr L[p + j]).size = 64 := by rw [bstr_size, hso.1]
      have HC := Lib.hid hcat
      generalize bstr L[p + j] = Y at *
      generalize bstr ((L.drop p).take j).flatten = X at *
      have hsum : X.size + Y.size ≤ 9223372036854775807 := by omega
      have hsum2 : (X.size : Int) + Y.size ≤ 9223372036854775807 := by omega
      have hsum3 : ¬ (9223372036854775807 < X.size + Y.size) := by omega
      generalize hq : p + j = q at *
      have HQ := Lib.hid hq
      clear hq
      clear hcs hbl hts hfs hcat hso hX hY
      go_wp2
      go_roundw
      case rel => exact ⟨j + 1, by omega, by go_num, by rw [HC.out], by first | rfl | trivial⟩
      case measure => have hq := HQ.out; simp [intOf]; omega
    · obtain rfl : j = k := by omega
      have hjI : ((p + j : Nat) : Int) = (p : Int) + j := by omega
      have hHR := HR.out
      go_wp2
      go_ret2
      exact ⟨by rw [← hHR]; rfl, rfl⟩
end Go.Proofs.Ytffojihhjiogpaa
