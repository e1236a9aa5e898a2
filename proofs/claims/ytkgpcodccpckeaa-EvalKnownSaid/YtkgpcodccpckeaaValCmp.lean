/- The order of values and rows: the program's. Conditions: those of each lemma. -/
import Derived.Test.YtkgpcodccpckeaaValOrd
import Derived.Test.YtkgpcodccpckeaaShelf
namespace Go.Proofs.Ytkgpcodccpckeaa
open Go.RowKit
set_option linter.unusedVariables false
set_option maxRecDepth 100000 in
theorem nan_u8 (a : Int) (w : World) : Calls Try.prog 76 #[.int .u8 a] w fun e w' => e = .returned (.bool false) ∧ w = w' := by
  have e1 : (a != a) = false := by simp
  go_enter Try.func76, Try.ntmps76
  go_wp2
  go_ret
  exact ⟨rfl, rfl⟩
set_option maxRecDepth 100000 in
theorem nan_i64 (a : Int) (w : World) : Calls Try.prog 77 #[.int .i64 a] w fun e w' => e = .returned (.bool false) ∧ w = w' := by
  have e1 : (a != a) = false := by simp
  go_enter Try.func77, Try.ntmps77
  go_wp2
  go_ret
  exact ⟨rfl, rfl⟩
theorem cmpI_cases (a b : Int) : (a < b ∧ cmpI a b = -1) ∨ (b < a ∧ b ≤ a ∧ cmpI a b = 1) ∨ (a = b ∧ cmpI a b = 0) := by
  unfold cmpI
  rcases Int.lt_trichotomy a b with h | h | h
  · exact .inl ⟨h, by rw [if_pos h]⟩
  · exact .inr (.inr ⟨h, by rw [if_neg (by omega), if_neg (by omega)]⟩)
  · exact .inr (.inl ⟨h, by omega, by rw [if_neg (by omega), if_pos h]⟩)
set_option maxRecDepth 100000 in
set_option maxHeartbeats 2000000 in
theorem cmp_u8 (a b : Int) (w : World) : Calls Try.prog 61 #[.int .u8 a, .int .u8 b] w fun e w' => e = .returned (.int .i64 (cmpI a b)) ∧ w = w' := by
  have HN := Lib.hid nan_u8
  rcases cmpI_cases a b with ⟨h, hc⟩ | ⟨h, h', hc⟩ | ⟨rfl, hc⟩
  all_goals
    rw [hc]
    clear hc
    go_enter Try.func61, Try.ntmps61
    go_wp2_with fail
    refine (HN.out _ _).mono ?_
    rintro e w1 ⟨rfl, rfl⟩
    go_wp2_with fail
    refine (HN.out _ _).mono ?_
    rintro e w1 ⟨rfl, rfl⟩
    go_wp2
    go_ret
    exact ⟨rfl, rfl⟩
set_option maxRecDepth 100000 in
set_option maxHeartbeats 2000000 in
theorem cmp_i64 (a b : Int) (w : World) : Calls Try.prog 62 #[.int .i64 a, .int .i64 b] w fun e w' => e = .returned (.int .i64 (cmpI a b)) ∧ w = w' := by
  have HN := Lib.hid nan_i64
  rcases cmpI_cases a b with ⟨h, hc⟩ | ⟨h, h', hc⟩ | ⟨rfl, hc⟩
  all_goals
    rw [hc]
    clear hc
    go_enter Try.func62, Try.ntmps62
    go_wp2_with fail
    refine (HN.out _ _).mono ?_
    rintro e w1 ⟨rfl, rfl⟩
    go_wp2_with fail
    refine (HN.out _ _).mono ?_
    rintro e w1 ⟨rfl, rfl⟩
    go_wp2
    go_ret
    exact ⟨rfl, rfl⟩
theorem cmpL_bytes (x y : List UInt8) : Lib.compareBytes x y = cmpL (x.map UInt8.toNat) (y.map UInt8.toNat) := by
  induction x generalizing y with
  | nil => cases y <;> rfl
  | cons a x ih =>
    cases y with
    | nil => rfl
    | cons b y =>
      simp only [Lib.compareBytes, List.map_cons, cmpL, ih y]
      rfl
theorem strCmp (a b : ByteArray) (w : World) : Calls Try.prog 63 #[.string a, .string b] w fun e w' => e = .returned (.int .i64 (cmpL (bts a) (bts b))) ∧ w = w' := by
  have h := Try.strings_Compare a b w
  rw [cmpL_bytes] at h
  exact h.mono fun e w' he => ⟨he.1, he.2.symm⟩
theorem bne_yes7 {a b : Int} (h : ¬ a = b) : (a != b) = true := by rw [bne_iff_ne]; exact h
set_option maxRecDepth 100000 in
set_option maxHeartbeats 4000000 in
theorem vcompare_any (x y : Val) (w : World) :
    Calls Try.prog 50 #[valV x, valV y] w fun e w' => e = .returned (.int .i64 (valCmp x y)) ∧ Below w.heap.size w w' := by
  obtain ⟨p, q, a⟩ := x
  obtain ⟨p', q', b⟩ := y
  have H8 := Lib.hid cmp_u8
  have H64 := Lib.hid cmp_i64
  have HS := Lib.hid strCmp
  by_cases hp : p = p'
  · subst hp
    by_cases h1 : p = 1
    · have hv : valCmp (p, q, a) (p, q', b) = cmpI q q' := by unfold valCmp; simp [h1]
      rw [hv]
      clear hv
      subst h1
      go_enter Try.func50, Try.ntmps50
      go_wp2_with fail
      refine (H64.out _ _ _).mono ?_
      rintro e w1 ⟨rfl, rfl⟩
      go_wp2
      go_ret
      exact ⟨rfl, hb2⟩
    · by_cases h23 : p = 2 ∨ p = 3
      · have hv : valCmp (p, q, a) (p, q', b) = cmpL (bts a) (bts b) := by unfold valCmp; simp [h1, h23]
        rw [hv]
        clear hv h1
        rcases h23 with rfl | rfl
        all_goals
          go_enter Try.func50, Try.ntmps50
          go_wp2_with fail
          refine (HS.out _ _ _).mono ?_
          rintro e w1 ⟨rfl, rfl⟩
          go_wp2
          go_ret
          exact ⟨rfl, hb2⟩
      · have hv : valCmp (p, q, a) (p, q', b) = 0 := by unfold valCmp; simp [h1, h23]
        have e1 := beq_no h1
        have e2 := beq_no (a := p) (b := 2) (fun e => h23 (.inl e))
        have e3 := beq_no (a := p) (b := 3) (fun e => h23 (.inr e))
        rw [hv]
        clear hv h1 h23
        go_enter Try.func50, Try.ntmps50
        go_wp2
        go_ret
        exact ⟨rfl, hb2⟩
  · have hv : valCmp (p, q, a) (p', q', b) = cmpI p p' := by unfold valCmp; simp [hp]
    have e1 := bne_yes7 hp
    rw [hv]
    clear hv hp
    go_enter Try.func50, Try.ntmps50
    go_wp2_with fail
    refine (H8.out _ _ _).mono ?_
    rintro e w1 ⟨rfl, rfl⟩
    go_wp2
    go_ret
    exact ⟨rfl, hb2⟩
abbrev cmpV : Value := .func (.func 50) #[] #[]
theorem rowCmp_nil (l : List Val) : rowCmp [] l = if l.length = 0 then 0 else -1 := by cases l <;> simp [rowCmp]
end Go.Proofs.Ytkgpcodccpckeaa
