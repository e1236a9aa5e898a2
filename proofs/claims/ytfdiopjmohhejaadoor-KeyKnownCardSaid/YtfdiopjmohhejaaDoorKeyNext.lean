/- key.Next, and what is next to a text. Conditions: those of each lemma. -/
import Derived.Test.YtfdiopjmohhejaaDoorProg
import Derived.Test.YtfdiopjmohhejaaDoorKeyW
import Derived.Deep.RegionWith
namespace Go.Proofs.YtfdiopjmohhejaaDoor
open Go.RowKit
set_option linter.unusedVariables false
def ltL : List Nat → List Nat → Bool
  | [], [] => false
  | [], _ :: _ => true
  | _ :: _, [] => false
  | a :: r, b :: s => decide (a < b) || (decide (a = b) && ltL r s)
/-- the least text above all that begin with L -/
def nextL : List Nat → Option (List Nat)
  | [] => none
  | c :: r => match nextL r with
    | some t => some (c :: t)
    | none => if c = 255 then none else some [c + 1]
theorem ltL_nil (t : List Nat) : ltL t [] = false := by cases t <;> rfl
theorem nextL_cons {c : Nat} {r : List Nat} : (∃ t, nextL r = some t ∧ nextL (c :: r) = some (c :: t)) ∨ (nextL r = none ∧ c = 255 ∧ nextL (c :: r) = none) ∨ (nextL r = none ∧ c ≠ 255 ∧ nextL (c :: r) = some [c + 1]) := by
  cases h : nextL r with
  | some t => exact .inl ⟨t, rfl, by simp [nextL, h]⟩
  | none =>
    by_cases hc : c = 255
    · exact .inr (.inl ⟨rfl, hc, by simp [nextL, h, hc]⟩)
    · exact .inr (.inr ⟨rfl, hc, by simp [nextL, h, hc]⟩)
theorem pre_none : ∀ (S T : List Nat), (∀ x ∈ T, x < 256) → nextL S = none → ((S <+: T) ↔ ltL T S = false)
  | [], T, _, _ => by simp [ltL_nil]
  | c :: r, [], _, _ => by simp [ltL]
  | c :: r, d :: t, hT, h => by
    have hd := hT d (by simp)
    rcases nextL_cons (c := c) (r := r) with ⟨t', h1, h2⟩ | ⟨h1, rfl, h2⟩ | ⟨h1, hc, h2⟩
    · rw [h2] at h; cases h
    · have ih := pre_none r t (fun x hx => hT x (by simp [hx])) h1
      rw [List.cons_prefix_cons, ih]
      simp only [ltL, Bool.or_eq_false_iff, Bool.and_eq_false_iff, decide_eq_false_iff_not]
      constructor
      · rintro ⟨rfl, h3⟩
        exact ⟨by omega, .inr h3⟩
      · rintro ⟨h3, h4⟩
        refine ⟨by omega, ?_⟩
        rcases h4 with h4 | h4
        · omega
        · exact h4
    · rw [h2] at h; cases h
theorem pre_some : ∀ (S T N : List Nat), (∀ x ∈ T, x < 256) → nextL S = some N → ((S <+: T) ↔ (ltL T S = false ∧ ltL T N = true)) ∧ ltL S N = true
  | [], _, _, _, h => by simp [nextL] at h
  | c :: r, T, N, hT, h => by
    rcases nextL_cons (c := c) (r := r) with ⟨t', h1, h2⟩ | ⟨h1, rfl, h2⟩ | ⟨h1, hc, h2⟩
    · rw [h2] at h
      simp only [Option.some.injEq] at h
      subst h
      refine ⟨?_, ?_⟩
      · match T, hT with
        | [], _ => simp [ltL]
        | d :: t, hT =>
          have ih := (pre_some r t t' (fun x hx => hT x (by simp [hx])) h1).1
          rw [List.cons_prefix_cons, ih]
          simp only [ltL, Bool.or_eq_false_iff, Bool.and_eq_false_iff, decide_eq_false_iff_not, Bool.or_eq_true, Bool.and_eq_true, decide_eq_true_eq]
          constructor
          · rintro ⟨rfl, h3, h4⟩
            exact ⟨⟨by omega, .inr h3⟩, .inr ⟨rfl, h4⟩⟩
          · rintro ⟨⟨h3, h4⟩, h5⟩
            rcases h5 with h5 | ⟨rfl, h5⟩
            · omega
            · rcases h4 with h4 | h4
              · omega
              · exact ⟨rfl, h4, h5⟩
      · have ih := (pre_some r [] t' (fun x hx => by cases hx) h1).2
        simp [ltL, ih]
    · rw [h2] at h; cases h
    · rw [h2] at h
      simp only [Option.some.injEq] at h
      subst h
      refine ⟨?_, by simp [ltL]⟩
      match T, hT with
      | [], _ => simp [ltL]
      | d :: t, hT =>
        have ih := pre_none r t (fun x hx => hT x (by simp [hx])) h1
        rw [List.cons_prefix_cons, ih]
        simp only [ltL, ltL_nil, Bool.or_eq_false_iff, Bool.and_eq_false_iff, decide_eq_false_iff_not, Bool.or_eq_true, Bool.and_eq_true, decide_eq_true_eq]
        constructor
        · rintro ⟨rfl, h3⟩
          exact ⟨⟨by omega, .inr h3⟩, .inl (by omega)⟩
        · rintro ⟨⟨h3, h4⟩, h5⟩
          rcases h5 with h5 | ⟨_, h5⟩
          · refine ⟨by omega, ?_⟩
            rcases h4 with h4 | h4
            · omega
            · exact h4
          · cases h5
theorem nextL_all {B : List Nat} (h : ∀ x ∈ B, x = 255) : nextL B = none := by
  induction B with
  | nil => rfl
  | cons c r ih =>
    have := ih (fun x hx => h x (by simp [hx]))
    simp [nextL, this, h c (by simp)]
theorem nextL_none {B : List Nat} (h : nextL B = none) : ∀ x ∈ B, x = 255 := by
  induction B with
  | nil => intro x hx; cases hx
  | cons c r ih =>
    rcases nextL_cons (c := c) (r := r) with ⟨t', h1, h2⟩ | ⟨h1, rfl, h2⟩ | ⟨h1, hc, h2⟩
    · rw [h2] at h; cases h
    · intro x hx
      rcases List.mem_cons.1 hx with rfl | hx
      · rfl
      · exact ih h1 x hx
    · rw [h2] at h; cases h
theorem nextL_app {A B : List Nat} (h : ∀ x ∈ B, x = 255) : nextL (A ++ B) = nextL A := by
  induction A with
  | nil => exact nextL_all h
  | cons a A ih => simp [nextL, ih]
theorem nextL_snoc {A : List Nat} {c : Nat} (h : c ≠ 255) : nextL (A ++ [c]) = some (A ++ [c + 1]) := by
  induction A with
  | nil => simp [nextL, h]
  | cons a A ih => simp [nextL, ih]
def nextZ (L : List Nat) : ByteArray × Bool := match nextL L with
  | some t => (bstr t, true)
  | none => (⟨#[]⟩, false)
theorem nextL_lt {S N : List Nat} (hS : ∀ x ∈ S, x < 256) (h : nextL S = some N) : ∀ x ∈ N, x < 256 := by
  induction S generalizing N with
  | nil => simp [nextL] at h
  | cons c r ih =>
    have hc0 := hS c (by simp)
    rcases nextL_cons (c := c) (r := r) with ⟨t', h1, h2⟩ | ⟨h1, rfl, h2⟩ | ⟨h1, hc, h2⟩
    · rw [h2] at h
      simp only [Option.some.injEq] at h
      subst h
      intro x hx
      rcases List.mem_cons.1 hx with rfl | hx
      · exact hc0
      · exact ih (fun y hy => hS y (by simp [hy])) h1 x hx
    · rw [h2] at h; cases h
    · rw [h2] at h
      simp only [Option.some.injEq] at h
      subst h
      intro x hx
      simp at hx
      omega
set_option maxRecDepth 100000 in
set_option maxHeartbeats 2000000 in
theorem knext_any (s : ByteArray) (w : World) (hs : s.size ≤ 140737488351232) :
    Calls Tryd.prog 14 #[.string s] w fun e w' => e = .returned (.tuple #[.string (nextZ (bts s)).1, .bool (nextZ (bts s)).2]) ∧ Below w.heap.size w w' := by
  have hl := bts_length s
  go_enter Tryd.func14, Tryd.ntmps14
  go_wp2
  go_loopw [4] (fun i wr => ∃ j : Nat, j ≤ s.size ∧ i = .int .i64 ((j : Int) - 1) ∧ (∀ x ∈ (bts s).drop j, x = 255) ∧ Below w.heap.size w wr) (fun i _ => (intOf i + 1).toNat)
  case atStart => exact ⟨s.size, Nat.le_refl _, rfl, (by rw [List.drop_of_length_le (by omega)]; intro x hx; cases hx), Below.refl _ _⟩
  case round =>
    obtain ⟨j, hj, rfl, hall, hb⟩ := hrel
    by_cases hj0 : j = 0
    · subst hj0
      have HZ := Lib.hid (show nextZ (bts s) = (⟨#[]⟩, false) by
        unfold nextZ
        rw [nextL_all (by simpa using hall)])
      clear hall
      go_wp2
      go_ret2
      exact ⟨by rw [HZ.out]; rfl, hb⟩
    · obtain ⟨k, rfl⟩ : ∃ k, j = k + 1 := ⟨j - 1, by omega⟩
      have e : ((k + 1 : Nat) : Int) - 1 = k := by omega
      rw [e]
      have hks : k < s.size := by omega
      have hkI : (k : Int) < s.size := by omega
      have hby := byte_at s k hks
      have h256 := bts_getD_lt s k
      have hdr : (bts s).drop k = (bts s).getD k 0 :: (bts s).drop (k + 1) := by
        rw [List.drop_eq_getElem_cons (by omega), List.getD_eq_getElem?_getD, List.getElem?_eq_getElem (by omega)]; rfl
      have htk : bts s = (bts s).take k ++ (bts s).getD k 0 :: (bts s).drop (k + 1) := by rw [← hdr, List.take_append_drop]
      have hx0 : bts (s.extract 0 k) = (bts s).take k := bts_cutl s k
      generalize (bts s).getD k 0 = c at *
      by_cases hc : c = 255
      · have HD := Lib.hid (show ∀ x ∈ (bts s).drop k, x = 255 by
          rw [hdr]
          intro x hx
          rcases List.mem_cons.1 hx with rfl | hx
          · exact hc
          · exact hall x hx)
        have hcI : ((c : Int) != 255) = false := by rw [hc]; rfl
        clear hc hall hdr htk hx0 e hj0
        go_wp2
        go_roundw
        case rel => exact ⟨k, (by omega), rfl, HD.out, hb⟩
        case measure => simp [intOf]
      · have hcI : ((c : Int) != 255) = true := by rw [bne_iff_ne]; omega
        have hw : IntKind.u8.wrap ((c : Int) + 1) = (c : Int) + 1 := by rw [IntKind.wrap_u8]; omega
        have hcv := run_convert_bytes_arg (P := Tryd.prog) (wr.alloc (.cells #[Value.int IntKind.u8 ((c : Int) + 1)] 5)).drew 48 5 Tryd.underlying48 Tryd.underlying5 wr.heap.size 0 1 1 ([c + 1].map Int.ofNat) rfl (fun i hi => by
          show (wr.alloc (.cells #[Value.int IntKind.u8 ((c : Int) + 1)] 5)).cell? _ = _
          rw [World.cell?_alloc_mark]
          obtain rfl : i = 0 := by omega
          rfl) 9 Tryd.underlying9
        rw [bstr_nums] at hcv
        have hxs : (s.extract 0 k).size = k := by have := bts_length (s.extract 0 k); rw [hx0, List.length_take] at this; omega
        have hys : (bstr [c + 1]).size = 1 := by rw [bstr_size]; rfl
        have HZ := Lib.hid (show nextZ (bts s) = (s.extract 0 k ++ bstr [c + 1], true) by
          have e3 : nextL (bts s) = some ((bts s).take k ++ [c + 1]) := by
            have e1 : bts s = ((bts s).take k ++ [c]) ++ (bts s).drop (k + 1) := by
              have := htk
              simpa using this
            conv => lhs; rw [e1]
            rw [nextL_app hall, nextL_snoc hc]
          unfold nextZ
          rw [e3]
          simp only
          rw [← hx0, ← bstr_bts (s.extract 0 k ++ bstr [c + 1]), bts_app, bts_bstr [c + 1] (by intro x hx; simp at hx; omega)])
        generalize bstr [c + 1] = Y at *
        have z1 : (s.extract 0 k).size + Y.size ≤ 9223372036854775807 ∧ ¬ (9223372036854775807 < (s.extract 0 k).size + Y.size) ∧ ((s.extract 0 k).size : Int) + Y.size ≤ 9223372036854775807 := by omega
        obtain ⟨z1, z2, z3⟩ := z1
        have m1 : min k s.size = k := by omega
        have m2 : min (k : Int) (s.size : Int) = k := by omega
        have y1 : k + Y.size ≤ 9223372036854775807 := by omega
        have y2 : (k : Int) + Y.size ≤ 9223372036854775807 := by omega
        have y3 : ¬ (9223372036854775807 < k + Y.size) := by omega
        clear hc hall hdr htk hx0 e hj0 hxs hys h256
        go_wp2_with fail
        go_region_with (fail)
        all_goals
          go_wp2
          go_ret2
          exact ⟨by rw [HZ.out]; rfl, (hb.alloc hb.size _).drew⟩
end Go.Proofs.YtfdiopjmohhejaaDoor
