/- eval's small functions. Conditions: those of each lemma. -/
import Derived.Test.YtkgpcodccpckeaaProg
import Derived.Test.YtkgpcodccpckeaaVal
import Derived.Outline
namespace Go.Proofs.Ytkgpcodccpckeaa
open Go.RowKit
set_option linter.unusedVariables false
theorem cell3 {W : World} {g : Nat} {t : TypeId} {a b c : Value} (h : Blk W g t #[a, b, c]) : W.cell? ⟨g, 0, none⟩ = some a ∧ W.cell? ⟨g, 1, none⟩ = some b ∧ W.cell? ⟨g, 2, none⟩ = some c ∧ W.frozen? ⟨g, 0, none⟩ = false ∧ W.frozen? ⟨g, 1, none⟩ = false ∧ W.frozen? ⟨g, 2, none⟩ = false :=
  ⟨h.cell 0, h.cell 1, h.cell 2, h.frozen 0, h.frozen 1, h.frozen 2⟩
theorem blk3_set {W : World} {g : Nat} {t : TypeId} {a b c : Value} (h : Blk W g t #[a, b, c]) (x y z : Value) : Blk (((W.setCell ⟨g, 0, none⟩ x).setCell ⟨g, 1, none⟩ y).setCell ⟨g, 2, none⟩ z) g t #[x, y, z] := ((h.set_ 0 x).set_ 1 y).set_ 2 z
theorem below3_set {w W : World} (h : Below w.heap.size w W) (x y z : Value) : Below w.heap.size w (((W.setCell ⟨w.heap.size, 0, none⟩ x).setCell ⟨w.heap.size, 1, none⟩ y).setCell ⟨w.heap.size, 2, none⟩ z) :=
  ((h.setCell (Nat.le_refl _) _).setCell (Nat.le_refl _) _).setCell (Nat.le_refl _) _
theorem one_alloc {w : World} {o : Obj} : Below w.heap.size w (w.alloc o) := (Below.refl _ _).alloc (Nat.le_refl _) _
set_option maxRecDepth 100000 in
set_option maxHeartbeats 2000000 in
theorem integer_any (n : Int) (w : World) : Calls Try.prog 57 #[.int .i64 n] w fun e w' => e = .returned (.agg #[.int .u8 1, .int .i64 n, .string ⟨#[]⟩]) ∧ Below w.heap.size w w' := by
  go_enter Try.func57, Try.ntmps57
  go_wp2
  first
    | (exact bodyPost_ret (v := .agg #[.int .u8 1, .int .i64 n, .string ⟨#[]⟩]) (by simp [results, Try.results57, go_sem]) rfl ⟨rfl, one_alloc⟩)
    | (obtain ⟨e0, e1, e2, _, _, _⟩ := cell3 (blk3_set (Blk.new w 23 #[.int .u8 0, .int .i64 0, .string ⟨#[]⟩]) (.int .u8 1) (.int .i64 n) (.string ⟨#[]⟩)); exact bodyPost_ret (v := .agg #[.int .u8 1, .int .i64 n, .string ⟨#[]⟩]) (by simp [results, Try.results57, go_sem, e0, e1, e2]) rfl ⟨rfl, below3_set one_alloc _ _ _⟩)
set_option maxRecDepth 100000 in
set_option maxHeartbeats 2000000 in
theorem mkNumber15 (n : Int) (w : World) : Calls Try.prog 17 #[.int .i64 n] w fun e w' => e = .returned (.agg #[.int .u8 1, .int .i64 n, .string ⟨#[]⟩]) ∧ Below w.heap.size w w' := by
  go_enter Try.func17, Try.ntmps17
  go_wp2
  first
    | (exact bodyPost_ret (v := .agg #[.int .u8 1, .int .i64 n, .string ⟨#[]⟩]) (by simp [results, Try.results17, go_sem]) rfl ⟨rfl, one_alloc⟩)
    | (obtain ⟨e0, e1, e2, _, _, _⟩ := cell3 (blk3_set (Blk.new w 23 #[.int .u8 0, .int .i64 0, .string ⟨#[]⟩]) (.int .u8 1) (.int .i64 n) (.string ⟨#[]⟩)); exact bodyPost_ret (v := .agg #[.int .u8 1, .int .i64 n, .string ⟨#[]⟩]) (by simp [results, Try.results17, go_sem, e0, e1, e2]) rfl ⟨rfl, below3_set one_alloc _ _ _⟩)
set_option maxRecDepth 100000 in
set_option maxHeartbeats 2000000 in
theorem truth_true (w : World) : Calls Try.prog 45 #[.bool true] w fun e w' => e = .returned (.agg #[.int .u8 1, .int .i64 1, .string ⟨#[]⟩]) ∧ Below w.heap.size w w' := by
  go_enter Try.func45, Try.ntmps45
  go_wp2_with fail
  refine (integer_any _ _).mono ?_
  rintro e w2 ⟨rfl, hb2⟩
  have HB := blk_at hb2
  obtain ⟨z0, z1, z2, f0, f1, f2⟩ := cell3 HB
  have hb3 := bj one_alloc hb2
  clear hb2
  go_wp2
  obtain ⟨e0, e1, e2, _, _, _⟩ := cell3 (blk3_set HB (.int .u8 1) (.int .i64 1) (.string ⟨#[]⟩))
  exact bodyPost_ret (v := .agg #[.int .u8 1, .int .i64 1, .string ⟨#[]⟩]) (by simp [results, Try.results45, go_sem, e0, e1, e2]) rfl ⟨rfl, below3_set hb3 _ _ _⟩
set_option maxRecDepth 100000 in
set_option maxHeartbeats 2000000 in
theorem truth_false (w : World) : Calls Try.prog 45 #[.bool false] w fun e w' => e = .returned (.agg #[.int .u8 1, .int .i64 0, .string ⟨#[]⟩]) ∧ Below w.heap.size w w' := by
  go_enter Try.func45, Try.ntmps45
  go_wp2_with fail
  refine (integer_any _ _).mono ?_
  rintro e w2 ⟨rfl, hb2⟩
  have HB := blk_at hb2
  obtain ⟨z0, z1, z2, f0, f1, f2⟩ := cell3 HB
  have hb3 := bj one_alloc hb2
  clear hb2
  go_wp2
  obtain ⟨e0, e1, e2, _, _, _⟩ := cell3 (blk3_set HB (.int .u8 1) (.int .i64 0) (.string ⟨#[]⟩))
  exact bodyPost_ret (v := .agg #[.int .u8 1, .int .i64 0, .string ⟨#[]⟩]) (by simp [results, Try.results45, go_sem, e0, e1, e2]) rfl ⟨rfl, below3_set hb3 _ _ _⟩
def truthV (b : Bool) : Val := (1, if b then 1 else 0, ⟨#[]⟩)
theorem truth_any (b : Bool) (w : World) : Calls Try.prog 45 #[.bool b] w fun e w' => e = .returned (valV (truthV b)) ∧ Below w.heap.size w w' := by
  cases b
  · exact truth_false w
  · exact truth_true w
def trueB (x : Val) : Bool := x.1 == 1 && x.2.1 != 0
set_option maxRecDepth 100000 in
set_option maxHeartbeats 2000000 in
theorem vtrue_any (x : Val) (w : World) : Calls Try.prog 26 #[valV x] w fun e w' => e = .returned (.bool (trueB x)) ∧ Below w.heap.size w w' := by
  obtain ⟨p, q, s⟩ := x
  by_cases h1 : p = 1
  · subst h1
    by_cases h2 : q = 0
    · subst h2
      go_enter Try.func26, Try.ntmps26
      go_wp2
      go_ret
      exact ⟨rfl, one_alloc⟩
    · have HT := Lib.hid (show trueB (1, q, s) = true by unfold trueB; simp [h2])
      have e1 : (q != 0) = true := by rw [bne_iff_ne]; exact h2
      clear h2
      go_enter Try.func26, Try.ntmps26
      go_wp2
      go_ret
      exact ⟨rbool HT.out.symm, one_alloc⟩
  · have HT := Lib.hid (show trueB (p, q, s) = false by unfold trueB; simp [h1])
    have e1 := beq_no h1
    clear h1
    go_enter Try.func26, Try.ntmps26
    go_wp2
    go_ret
    exact ⟨rbool HT.out.symm, one_alloc⟩
def groupedB (op : Int) : Bool := decide (20 ≤ op) && decide (op ≤ 23)
set_option maxRecDepth 100000 in
set_option maxHeartbeats 2000000 in
theorem grouped_any (op : Int) (w : World) : Calls Try.prog 39 #[.int .u8 op] w fun e w' => e = .returned (.bool (groupedB op)) ∧ w = w' := by
  by_cases h1 : 20 ≤ op
  · by_cases h2 : op ≤ 23
    · have HT := Lib.hid (show groupedB op = true by unfold groupedB; rw [decide_eq_true h1, decide_eq_true h2]; rfl)
      go_enter Try.func39, Try.ntmps39
      go_wp2
      go_ret
      exact ⟨rbool HT.out.symm, rfl⟩
    · have HT := Lib.hid (show groupedB op = false by unfold groupedB; rw [decide_eq_false h2]; simp)
      have h3 : 23 < op := by omega
      clear h2
      go_enter Try.func39, Try.ntmps39
      go_wp2
      go_ret
      first
        | exact ⟨rbool HT.out.symm, rfl⟩
        | exact ⟨rbool ((decide_eq_false (by omega)).trans HT.out.symm), rfl⟩
  · have HT := Lib.hid (show groupedB op = false by unfold groupedB; rw [decide_eq_false h1]; rfl)
    have h3 : op < 20 := by omega
    clear h1
    go_enter Try.func39, Try.ntmps39
    go_wp2
    go_ret
    exact ⟨rbool HT.out.symm, rfl⟩
def comparesB (op : Int) : Bool := decide (12 ≤ op) && decide (op ≤ 17)
set_option maxRecDepth 100000 in
set_option maxHeartbeats 2000000 in
theorem compares_any (op : Int) (w : World) : Calls Try.prog 48 #[.int .u8 op] w fun e w' => e = .returned (.bool (comparesB op)) ∧ w = w' := by
  by_cases h1 : 12 ≤ op
  · by_cases h2 : op ≤ 17
    · have HT := Lib.hid (show comparesB op = true by unfold comparesB; rw [decide_eq_true h1, decide_eq_true h2]; rfl)
      go_enter Try.func48, Try.ntmps48
      go_wp2
      go_ret
      exact ⟨rbool HT.out.symm, rfl⟩
    · have HT := Lib.hid (show comparesB op = false by unfold comparesB; rw [decide_eq_false h2]; simp)
      have h3 : 17 < op := by omega
      clear h2
      go_enter Try.func48, Try.ntmps48
      go_wp2
      go_ret
      first
        | exact ⟨rbool HT.out.symm, rfl⟩
        | exact ⟨rbool ((decide_eq_false (by omega)).trans HT.out.symm), rfl⟩
  · have HT := Lib.hid (show comparesB op = false by unfold comparesB; rw [decide_eq_false h1]; rfl)
    have h3 : op < 12 := by omega
    clear h1
    go_enter Try.func48, Try.ntmps48
    go_wp2
    go_ret
    exact ⟨rbool HT.out.symm, rfl⟩
def nullV (x : Val) : Bool := x.1 == 0
set_option maxRecDepth 100000 in
set_option maxHeartbeats 4000000 in
theorem null_any (A : Option Addr) (l : List Val) (n c : Nat) (w : World) (hV : Vals w w.heap.size A l) (hn : n = l.length) (hm : n ≤ 100) :
    Calls Try.prog 46 #[.slice A n c] w fun e w' => e = .returned (.bool (l.any nullV)) ∧ Below w.heap.size w w' := by
  have hmI : (n : Int) ≤ 100 := by omega
  by_cases h0 : n = 0
  · subst h0
    obtain rfl : l = [] := List.eq_nil_of_length_eq_zero hn.symm
    have HE := Lib.hid (show ([] : List Val).any nullV = false from rfl)
    clear hV hn
    go_enter Try.func46, Try.ntmps46
    go_wp2
    go_loopw [7] (fun i wr => i = .int .i64 0 ∧ Below w.heap.size w wr) (fun _ _ => 0)
    case atStart => exact ⟨rfl, Below.refl _ _⟩
    case round =>
      obtain ⟨rfl, hb⟩ := hrel
      go_wp2
      go_ret
      exact ⟨rbool HE.out.symm, hb⟩
  · obtain ⟨b, o, rfl, hbl, hc⟩ := vals_get hV (fun e => by rw [e] at hn; exact h0 hn)
    have HC := Lib.hid hc
    have HN := Lib.hid hn
    clear hc hV hn h0 hm
    go_enter Try.func46, Try.ntmps46
    go_wp2
    go_loopw [7] (fun i wr => ∃ j : Nat, j ≤ n ∧ i = .int .i64 j ∧ l.any nullV = (l.drop j).any nullV ∧ Below w.heap.size w wr) (fun i _ => n - (intOf i).toNat)
    case atStart => exact ⟨0, by omega, rfl, rfl, Below.refl _ _⟩
    case round =>
      obtain ⟨j, hj, rfl, heq, hb⟩ := hrel
      by_cases hjn : j < n
      · have hjl : j < l.length := by have := HN.out; omega
        obtain ⟨a1, a2, a3⟩ := HC.out j l[j] (List.getElem?_eq_getElem hjl)
        have c1 := (hb.cell (p := ⟨b, o + j * 3, none⟩) hbl).trans a1
        have c2 := (hb.cell (p := ⟨b, o + j * 3 + 1, none⟩) hbl).trans a2
        have c3 := (hb.cell (p := ⟨b, o + j * 3 + 2, none⟩) hbl).trans a3
        have hd : l.drop j = l[j] :: l.drop (j + 1) := List.drop_eq_getElem_cons hjl
        rw [hd, List.any_cons] at heq
        generalize l[j] = x at *
        obtain ⟨p, q, s⟩ := x
        simp only at c1 c2 c3 heq
        clear a1 a2 a3 hd
        by_cases hs : p = 0
        · have HE := Lib.hid (show l.any nullV = true by rw [heq, hs]; rfl)
          subst hs
          clear heq
          go_wp2
          go_ret
          exact ⟨rbool HE.out.symm, hb.alloc hb.size _⟩
        · have e1 := beq_no hs
          rw [show nullV (p, q, s) = false from e1, Bool.false_or] at heq
          have HE := Lib.hid heq
          clear heq hs
          go_wp2
          go_roundw
          case rel => exact ⟨j + 1, by omega, by go_num, HE.out, hb.alloc hb.size _⟩
          case measure => simp [intOf]; omega
      · obtain rfl : j = n := by omega
        have hE : l.any nullV = false := by rw [heq, List.drop_of_length_le (by have := HN.out; omega)]; rfl
        have HE := Lib.hid hE
        clear heq hE
        go_wp2
        go_ret
        exact ⟨rbool HE.out.symm, hb⟩
/-- a slice of bytes, as numbers -/
def U8s (w : World) (B : Nat) (A : Option Addr) (l : List Int) : Prop :=
  l = [] ∨ ∃ b o, A = some ⟨b, o, none⟩ ∧ b < B ∧ ∀ (j : Nat) x, l[j]? = some x → w.cell? ⟨b, o + j, none⟩ = some (.int .u8 x)
theorem u8s_get {w : World} {B : Nat} {A : Option Addr} {l : List Int} (h : U8s w B A l) (hl : l ≠ []) : ∃ b o, A = some ⟨b, o, none⟩ ∧ b < B ∧ ∀ (j : Nat) x, l[j]? = some x → w.cell? ⟨b, o + j, none⟩ = some (.int .u8 x) := by
  rcases h with h | h
  · exact absurd h hl
  · exact h
theorem u8s_blk {W : World} {g : Nat} {t : TypeId} {l : List Int} {cs : Array Value} (h : Blk W g t cs) (hc : ∀ (j : Nat) x, l[j]? = some x → cs[j]? = some (.int .u8 x)) : U8s W W.heap.size (some ⟨g, 0, none⟩) l := by
  refine .inr ⟨g, 0, rfl, h.lt, fun j x hx => ?_⟩
  rw [Nat.zero_add]
  exact (h.cell _).trans (hc j x hx)
theorem u8s_step {w w' : World} {A : Option Addr} {l : List Int} (h : U8s w w.heap.size A l) (hb : Below w.heap.size w w') : U8s w' w'.heap.size A l := by
  rcases h with h | ⟨b, o, hA, hlt, hc⟩
  · exact .inl h
  · exact .inr ⟨b, o, hA, Nat.lt_of_lt_of_le hlt hb.size, fun j x hx => (hb.cell (p := ⟨b, o + j, none⟩) hlt).trans (hc j x hx)⟩
def onlyB (k : Int) (l : List Int) : Bool := l.all (fun x => x == k || x == 0)
set_option maxRecDepth 100000 in
set_option maxHeartbeats 4000000 in
theorem only_any (k : Int) (A : Option Addr) (l : List Int) (n c : Nat) (w : World) (hV : U8s w w.heap.size A l) (hn : n = l.length) (hm : n ≤ 100) :
    Calls Try.prog 56 #[.int .u8 k, .slice A n c] w fun e w' => e = .returned (.bool (onlyB k l)) ∧ w = w' := by
  have hmI : (n : Int) ≤ 100 := by omega
  by_cases h0 : n = 0
  · subst h0
    obtain rfl : l = [] := List.eq_nil_of_length_eq_zero hn.symm
    have HE := Lib.hid (show onlyB k [] = true from rfl)
    clear hV hn
    go_enter Try.func56, Try.ntmps56
    go_wp2
    go_loopw [9] (fun i wr => i = .int .i64 0 ∧ w = wr) (fun _ _ => 0)
    case atStart => exact ⟨rfl, rfl⟩
    case round =>
      obtain ⟨rfl, rfl⟩ := hrel
      go_wp2
      go_ret
      exact ⟨rbool HE.out.symm, rfl⟩
  · obtain ⟨b, o, rfl, hbl, hc⟩ := u8s_get hV (fun e => by rw [e] at hn; exact h0 hn)
    have HC := Lib.hid hc
    have HN := Lib.hid hn
    clear hc hV hn h0 hm
    go_enter Try.func56, Try.ntmps56
    go_wp2
    go_loopw [6, 9] (fun y i wr => ∃ j : Nat, j ≤ n ∧ i = .int .i64 j ∧ onlyB k l = onlyB k (l.drop j) ∧ w = wr) (fun _ i _ => n - (intOf i).toNat)
    case atStart => exact ⟨0, by omega, rfl, rfl, rfl⟩
    case round =>
      obtain ⟨j, hj, rfl, heq, rfl⟩ := hrel
      by_cases hjn : j < n
      · have hjl : j < l.length := by have := HN.out; omega
        have c1 := HC.out j l[j] (List.getElem?_eq_getElem hjl)
        have hd : l.drop j = l[j] :: l.drop (j + 1) := List.drop_eq_getElem_cons hjl
        rw [hd] at heq
        unfold onlyB at heq
        rw [List.all_cons] at heq
        generalize l[j] = x at *
        clear hd
        by_cases hs : x = k
        · have e1 : (x != k) = false := by rw [hs]; simp
          have e2 : (x == k) = true := by rw [hs]; simp
          rw [e2, Bool.true_or, Bool.true_and] at heq
          have HE : Hid (onlyB k l = onlyB k (l.drop (j + 1))) := Lib.hid heq
          clear heq hs e2
          go_wp2
          go_roundw
          case rel => exact ⟨j + 1, by omega, by go_num, HE.out, by first | rfl | trivial⟩
          case measure => simp [intOf]; omega
        · have e1 : (x != k) = true := by rw [bne_iff_ne]; exact hs
          have e2 := beq_no hs
          by_cases h2 : x = 0
          · have e3 : (x == 0) = true := by rw [h2]; rfl
            rw [e2, e3, Bool.false_or, Bool.true_and] at heq
            have HE : Hid (onlyB k l = onlyB k (l.drop (j + 1))) := Lib.hid heq
            have e4 : (x != 0) = false := by rw [h2]; rfl
            clear heq hs e2 e3 h2
            go_wp2
            go_roundw
            case rel => exact ⟨j + 1, by omega, by go_num, HE.out, by first | rfl | trivial⟩
            case measure => simp [intOf]; omega
          · have e3 := beq_no h2
            have e4 : (x != 0) = true := by rw [bne_iff_ne]; exact h2
            rw [e2, e3, Bool.false_or, Bool.false_and] at heq
            have HE : Hid (onlyB k l = false) := Lib.hid heq
            clear heq hs e2 e3 h2
            go_wp2
            go_ret
            exact ⟨rbool HE.out.symm, rfl⟩
      · obtain rfl : j = n := by omega
        have hE : onlyB k l = true := by rw [heq, List.drop_of_length_le (by have := HN.out; omega)]; rfl
        have HE := Lib.hid hE
        clear heq hE
        go_wp2
        go_ret
        exact ⟨rbool HE.out.symm, rfl⟩
def holdsB (op c : Int) : Bool := if op = 12 then c == 0 else if op = 13 then c != 0 else if op = 14 then decide (c < 0) else if op = 15 then decide (c ≤ 0) else if op = 16 then decide (0 < c) else decide (0 ≤ c)
set_option maxRecDepth 100000 in
set_option maxHeartbeats 2000000 in
theorem holds_any (op c : Int) (w : World) (h1 : 12 ≤ op) (h2 : op ≤ 17) : Calls Try.prog 49 #[.int .u8 op, .int .i64 c] w fun e w' => e = .returned (.bool (holdsB op c)) ∧ w = w' := by
  obtain rfl | rfl | rfl | rfl | rfl | rfl : op = 12 ∨ op = 13 ∨ op = 14 ∨ op = 15 ∨ op = 16 ∨ op = 17 := by omega
  all_goals
    clear h1 h2
    go_enter Try.func49, Try.ntmps49
    go_wp2
    go_ret
    exact ⟨rfl, rfl⟩
end Go.Proofs.Ytkgpcodccpckeaa
