/- ref15.fit, ref15.Type of any expression. Conditions: how it lies in memory. -/
import Derived.Test.YtkgpcodccpckeaaEt5
import Derived.Test.YtkgpcodccpckeaaEt6
import Derived.BigQuiet
namespace Go.Proofs.Ytkgpcodccpckeaa
open Go Go.RowKit
set_option linter.unusedVariables false
set_option linter.unusedSimpArgs false
theorem fit_yes5 (A : Option Addr) (n c : Nat) (w : World) : Calls Try.prog 37 #[.int .u8 5, .slice A n c] w fun e w' => e = .returned (.bool true) ∧ Below w.heap.size w w' := by
  go_enter Try.func37, Try.ntmps37
  go_wp2
  go_ret
  exact ⟨rfl, Below.refl _ _⟩
theorem fit_yes20 (A : Option Addr) (n c : Nat) (w : World) : Calls Try.prog 37 #[.int .u8 20, .slice A n c] w fun e w' => e = .returned (.bool true) ∧ Below w.heap.size w w' := by
  go_enter Try.func37, Try.ntmps37
  go_wp2
  go_ret
  exact ⟨rfl, Below.refl _ _⟩
theorem fit_yes22 (A : Option Addr) (n c : Nat) (w : World) : Calls Try.prog 37 #[.int .u8 22, .slice A n c] w fun e w' => e = .returned (.bool true) ∧ Below w.heap.size w w' := by
  go_enter Try.func37, Try.ntmps37
  go_wp2
  go_ret
  exact ⟨rfl, Below.refl _ _⟩
theorem fit_yes23 (A : Option Addr) (n c : Nat) (w : World) : Calls Try.prog 37 #[.int .u8 23, .slice A n c] w fun e w' => e = .returned (.bool true) ∧ Below w.heap.size w w' := by
  go_enter Try.func37, Try.ntmps37
  go_wp2
  go_ret
  exact ⟨rfl, Below.refl _ _⟩
set_option maxRecDepth 100000 in
set_option maxHeartbeats 8000000 in
theorem fit_cmp (op : Int) (h1 : 12 ≤ op) (h2 : op ≤ 17) (b o n c : Nat) (x y : Int) (w : World) (hn : n = 2) (c0 : w.cell? ⟨b, o, none⟩ = some (.int .u8 x)) (c1 : w.cell? ⟨b, o + 1, none⟩ = some (.int .u8 y)) :
    Calls Try.prog 37 #[.int .u8 op, .slice (some ⟨b, o, none⟩) n c] w fun e w' => e = .returned (.bool ((x == y || x == 0) || y == 0)) ∧ Below w.heap.size w w' := by
  have b5 := beq_no (a := op) (b := 5) (by omega)
  have b20 := beq_no (a := op) (b := 20) (by omega)
  have b11 := beq_no (a := op) (b := 11) (by omega)
  have d22 : decide (22 ≤ op) = false := decide_eq_false (by omega)
  have d12 : decide (12 ≤ op) = true := decide_eq_true h1
  have d17 : decide (op ≤ 17) = true := decide_eq_true h2
  subst hn
  clear h1 h2
  have hi0 : (0 : Int) < 2 := by omega
  have hi1 : (1 : Int) < 2 := by omega
  obtain ⟨R, hR⟩ : ∃ R, ((x == y || x == 0) || y == 0) = R := ⟨_, rfl⟩
  rw [hR]
  cases q1 : (x == y)
  case' false => cases q2 : (x == 0)
  case' false.false => cases q3 : (y == 0)
  all_goals
    have HR := Lib.hid (hR.symm.trans (by first | (rw [q1, q2, q3]; done) | (rw [q1, q2]; done) | rw [q1]))
    clear hR
    go_enter Try.func37, Try.ntmps37
    go_wp2_with fail
    go_quiet (fail)
    all_goals
      go_wp2
      go_ret
      exact ⟨by rw [HR.out]; rfl, ⟨rfl, rfl, rfl, Nat.le_refl _, fun _ _ => rfl⟩⟩
set_option maxRecDepth 100000 in
set_option maxHeartbeats 8000000 in
theorem fit_11 (A : Option Addr) (l : List Int) (n c : Nat) (w : World) (hV : U8s w w.heap.size A l) (hn : n = l.length) (hm : n ≤ 100) (hne : l ≠ []) :
    Calls Try.prog 37 #[.int .u8 11, .slice A n c] w fun e w' => e = .returned (.bool (onlyB 2 l)) ∧ Below w.heap.size w w' := by
  obtain ⟨b, o, rfl, hbl, hc⟩ := u8s_get hV hne
  have HC := Lib.hid hc
  have HBL := Lib.hid hbl
  have HN := Lib.hid hn
  have hmI : (n : Int) ≤ 100 := by omega
  obtain ⟨R, hR⟩ : ∃ R, onlyB 2 l = R := ⟨_, rfl⟩
  have HR := Lib.hid hR
  rw [hR]
  clear hV hn hm hne hc hbl hR
  go_enter Try.func37, Try.ntmps37
  go_wp2
  go_loopw [6] (fun i wr => ∃ j : Nat, j ≤ n ∧ i = .int .i64 j ∧ onlyB 2 (l.drop j) = R ∧ Below w.heap.size w wr) (fun i _ => n - (intOf i).toNat)
  case atStart => exact ⟨0, by omega, rfl, HR.out, Below.refl _ _⟩
  case round =>
    clear HR
    obtain ⟨j, hj, rfl, heq, hb⟩ := hrel
    by_cases hjn : j < n
    · have hjl : j < l.length := by have := HN.out; omega
      have hx := (hb.cell (p := ⟨b, o + j, none⟩) HBL.out).trans (HC.out j l[j] (List.getElem?_eq_getElem hjl))
      have hd : l.drop j = l[j] :: l.drop (j + 1) := List.drop_eq_getElem_cons hjl
      rw [hd, onlyB, List.all_cons] at heq
      generalize l[j] = x at *
      have HB := Lib.hid hb
      clear hd hb
      by_cases h0 : x = 0
      · subst h0
        have HQ := Lib.hid (show onlyB 2 (l.drop (j + 1)) = R by rw [← heq]; simp [onlyB])
        clear heq
        go_wp2
        go_roundw
        case rel => exact ⟨j + 1, by omega, by go_num, HQ.out, HB.out⟩
        case measure => simp [intOf]; omega
      · have e0 : (x == 0) = false := by simp [h0]
        have e0' : (x != 0) = true := by simp [bne, e0]
        by_cases h1 : x = 2
        · subst h1
          have HQ := Lib.hid (show onlyB 2 (l.drop (j + 1)) = R by rw [← heq]; simp [onlyB])
          clear heq h0 e0 e0'
          go_wp2
          go_roundw
          case rel => exact ⟨j + 1, by omega, by go_num, HQ.out, HB.out⟩
          case measure => simp [intOf]; omega
        · have e1 : (x == 2) = false := by simp [h1]
          have e1' : (x != 2) = true := by simp [bne, e1]
          have HQ := Lib.hid (show false = R by rw [← heq, e0, e1]; rfl)
          clear heq h0 h1
          go_wp2
          go_ret
          exact ⟨by rw [← HQ.out]; rfl, HB.out⟩
    · obtain rfl : j = n := by omega
      have HQ := Lib.hid (show true = R by rw [← heq, List.drop_of_length_le (by have := HN.out; omega)]; rfl)
      clear heq
      go_wp2
      go_ret
      exact ⟨by rw [← HQ.out]; rfl, hb⟩
set_option maxRecDepth 100000 in
set_option maxHeartbeats 8000000 in
theorem fit_low (op : Int) (h1 : 3 ≤ op ∧ ¬ op = 5) (h2 : op ≤ 10) (A : Option Addr) (l : List Int) (n c : Nat) (w : World) (hV : U8s w w.heap.size A l) (hn : n = l.length) (hm : n ≤ 100) (hne : l ≠ []) :
    Calls Try.prog 37 #[.int .u8 op, .slice A n c] w fun e w' => e = .returned (.bool (onlyB 1 l)) ∧ Below w.heap.size w w' := by
  obtain ⟨b, o, rfl, hbl, hc⟩ := u8s_get hV hne
  have b5 := beq_no (a := op) (b := 5) (by omega)
  have b20 := beq_no (a := op) (b := 20) (by omega)
  have b11 := beq_no (a := op) (b := 11) (by omega)
  have d22 : decide (22 ≤ op) = false := decide_eq_false (by omega)
  have d12 : decide (12 ≤ op) = false := decide_eq_false (by omega)
  have HC := Lib.hid hc
  have HBL := Lib.hid hbl
  have HN := Lib.hid hn
  have hmI : (n : Int) ≤ 100 := by omega
  obtain ⟨R, hR⟩ : ∃ R, onlyB 1 l = R := ⟨_, rfl⟩
  have HR := Lib.hid hR
  rw [hR]
  clear hV hn hm hne hc hbl hR h1 h2
  go_enter Try.func37, Try.ntmps37
  go_wp2
  go_loopw [6] (fun i wr => ∃ j : Nat, j ≤ n ∧ i = .int .i64 j ∧ onlyB 1 (l.drop j) = R ∧ Below w.heap.size w wr) (fun i _ => n - (intOf i).toNat)
  case atStart => exact ⟨0, by omega, rfl, HR.out, Below.refl _ _⟩
  case round =>
    clear HR
    obtain ⟨j, hj, rfl, heq, hb⟩ := hrel
    by_cases hjn : j < n
    · have hjl : j < l.length := by have := HN.out; omega
      have hx := (hb.cell (p := ⟨b, o + j, none⟩) HBL.out).trans (HC.out j l[j] (List.getElem?_eq_getElem hjl))
      have hd : l.drop j = l[j] :: l.drop (j + 1) := List.drop_eq_getElem_cons hjl
      rw [hd, onlyB, List.all_cons] at heq
      generalize l[j] = x at *
      have HB := Lib.hid hb
      clear hd hb
      by_cases h0 : x = 0
      · subst h0
        have HQ := Lib.hid (show onlyB 1 (l.drop (j + 1)) = R by rw [← heq]; simp [onlyB])
        clear heq
        go_wp2
        go_roundw
        case rel => exact ⟨j + 1, by omega, by go_num, HQ.out, HB.out⟩
        case measure => simp [intOf]; omega
      · have e0 : (x == 0) = false := by simp [h0]
        have e0' : (x != 0) = true := by simp [bne, e0]
        by_cases h1 : x = 1
        · subst h1
          have HQ := Lib.hid (show onlyB 1 (l.drop (j + 1)) = R by rw [← heq]; simp [onlyB])
          clear heq h0 e0 e0'
          go_wp2
          go_roundw
          case rel => exact ⟨j + 1, by omega, by go_num, HQ.out, HB.out⟩
          case measure => simp [intOf]; omega
        · have e1 : (x == 1) = false := by simp [h1]
          have e1' : (x != 1) = true := by simp [bne, e1]
          have HQ := Lib.hid (show false = R by rw [← heq, e0, e1]; rfl)
          clear heq h0 h1
          go_wp2
          go_ret
          exact ⟨by rw [← HQ.out]; rfl, HB.out⟩
    · obtain rfl : j = n := by omega
      have HQ := Lib.hid (show true = R by rw [← heq, List.drop_of_length_le (by have := HN.out; omega)]; rfl)
      clear heq
      go_wp2
      go_ret
      exact ⟨by rw [← HQ.out]; rfl, hb⟩
set_option maxRecDepth 100000 in
set_option maxHeartbeats 8000000 in
theorem fit_high (op : Int) (h1 : 18 ≤ op ∧ ¬ op = 20) (h2 : op ≤ 21) (A : Option Addr) (l : List Int) (n c : Nat) (w : World) (hV : U8s w w.heap.size A l) (hn : n = l.length) (hm : n ≤ 100) (hne : l ≠ []) :
    Calls Try.prog 37 #[.int .u8 op, .slice A n c] w fun e w' => e = .returned (.bool (onlyB 1 l)) ∧ Below w.heap.size w w' := by
  obtain ⟨b, o, rfl, hbl, hc⟩ := u8s_get hV hne
  have b5 := beq_no (a := op) (b := 5) (by omega)
  have b20 := beq_no (a := op) (b := 20) (by omega)
  have b11 := beq_no (a := op) (b := 11) (by omega)
  have d22 : decide (22 ≤ op) = false := decide_eq_false (by omega)
  have d12 : decide (12 ≤ op) = true := decide_eq_true (by omega)
  have d17 : decide (op ≤ 17) = false := decide_eq_false (by omega)
  have HC := Lib.hid hc
  have HBL := Lib.hid hbl
  have HN := Lib.hid hn
  have hmI : (n : Int) ≤ 100 := by omega
  obtain ⟨R, hR⟩ : ∃ R, onlyB 1 l = R := ⟨_, rfl⟩
  have HR := Lib.hid hR
  rw [hR]
  clear hV hn hm hne hc hbl hR h1 h2
  go_enter Try.func37, Try.ntmps37
  go_wp2
  go_loopw [6] (fun i wr => ∃ j : Nat, j ≤ n ∧ i = .int .i64 j ∧ onlyB 1 (l.drop j) = R ∧ Below w.heap.size w wr) (fun i _ => n - (intOf i).toNat)
  case atStart => exact ⟨0, by omega, rfl, HR.out, Below.refl _ _⟩
  case round =>
    clear HR
    obtain ⟨j, hj, rfl, heq, hb⟩ := hrel
    by_cases hjn : j < n
    · have hjl : j < l.length := by have := HN.out; omega
      have hx := (hb.cell (p := ⟨b, o + j, none⟩) HBL.out).trans (HC.out j l[j] (List.getElem?_eq_getElem hjl))
      have hd : l.drop j = l[j] :: l.drop (j + 1) := List.drop_eq_getElem_cons hjl
      rw [hd, onlyB, List.all_cons] at heq
      generalize l[j] = x at *
      have HB := Lib.hid hb
      clear hd hb
      by_cases h0 : x = 0
      · subst h0
        have HQ := Lib.hid (show onlyB 1 (l.drop (j + 1)) = R by rw [← heq]; simp [onlyB])
        clear heq
        go_wp2
        go_roundw
        case rel => exact ⟨j + 1, by omega, by go_num, HQ.out, HB.out⟩
        case measure => simp [intOf]; omega
      · have e0 : (x == 0) = false := by simp [h0]
        have e0' : (x != 0) = true := by simp [bne, e0]
        by_cases h1 : x = 1
        · subst h1
          have HQ := Lib.hid (show onlyB 1 (l.drop (j + 1)) = R by rw [← heq]; simp [onlyB])
          clear heq h0 e0 e0'
          go_wp2
          go_roundw
          case rel => exact ⟨j + 1, by omega, by go_num, HQ.out, HB.out⟩
          case measure => simp [intOf]; omega
        · have e1 : (x == 1) = false := by simp [h1]
          have e1' : (x != 1) = true := by simp [bne, e1]
          have HQ := Lib.hid (show false = R by rw [← heq, e0, e1]; rfl)
          clear heq h0 h1
          go_wp2
          go_ret
          exact ⟨by rw [← HQ.out]; rfl, HB.out⟩
    · obtain rfl : j = n := by omega
      have HQ := Lib.hid (show true = R by rw [← heq, List.drop_of_length_le (by have := HN.out; omega)]; rfl)
      clear heq
      go_wp2
      go_ret
      exact ⟨by rw [← HQ.out]; rfl, hb⟩
theorem fit_any (op : Int) (A : Option Addr) (l : List Int) (n c : Nat) (w : World) (h1 : 3 ≤ op) (h2 : op ≤ 23) (hV : U8s w w.heap.size A l) (hn : n = l.length) (hm : n ≤ 100) (hc : 12 ≤ op → op ≤ 17 → l.length = 2) (hne : op = 20 ∨ l ≠ []) :
    Calls Try.prog 37 #[.int .u8 op, .slice A n c] w fun e w' => e = .returned (.bool (fitR op l)) ∧ Below w.heap.size w w' := by
  by_cases o5 : op = 5
  · subst o5; exact fit_yes5 A n c w
  by_cases o20 : op = 20
  · subst o20; exact fit_yes20 A n c w
  by_cases o22 : op = 22
  · subst o22; exact fit_yes22 A n c w
  by_cases o23 : op = 23
  · subst o23; exact fit_yes23 A n c w
  have hl : l ≠ [] := by rcases hne with h | h; exact absurd h o20; exact h
  have e1 : fitR op l = if 12 ≤ op ∧ op ≤ 17 then (l.getD 0 0 == l.getD 1 0 || l.getD 0 0 == 0) || l.getD 1 0 == 0 else if op = 11 then onlyB 2 l else onlyB 1 l := by
    unfold fitR
    rw [if_neg (show ¬ (op = 5 ∨ op = 20 ∨ 22 ≤ op) by omega)]
  rw [e1]
  by_cases o12 : 12 ≤ op ∧ op ≤ 17
  · rw [if_pos o12]
    have hlen := hc o12.1 o12.2
    match l, hlen with
    | [x, y], _ =>
      obtain ⟨b, o, rfl, hbl, hcc⟩ := u8s_get hV (by simp)
      exact fit_cmp op o12.1 o12.2 b o n c x y w hn (by simpa using hcc 0 x rfl) (by simpa using hcc 1 y rfl)
  rw [if_neg o12]
  by_cases o11 : op = 11
  · subst o11
    rw [if_pos rfl]
    exact fit_11 A l n c w hV hn hm hl
  rw [if_neg o11]
  by_cases olo : op ≤ 10
  · exact fit_low op ⟨h1, o5⟩ olo A l n c w hV hn hm hl
  · exact fit_high op ⟨by omega, o20⟩ (by omega) A l n c w hV hn hm hl
theorem own_stepK {W W' : World} {base : Nat} {e : TypeId} {size n : Nat} {v : Value} {xs : List Value} (h : W.ownsRow base e size v n xs) (hb : Below W.heap.size W W') : W'.ownsRow base e size v n xs := by
  obtain ⟨hl, h | ⟨g, cap, cur, hv, hbg, hg, hr⟩⟩ := h
  · exact ⟨hl, .inl h⟩
  · exact ⟨hl, .inr ⟨g, cap, cur, hv, hbg, blk_step (t := e) (cs := cur) hg hb, hr⟩⟩
theorem readsK (W : World) (x : Value) : Reads (W.alloc (.cells #[x] 5)) (W.heap.size + 1) 1 (some ⟨W.heap.size, 0, none⟩) 1 [x] := by
  refine ⟨rfl, fun _ => ⟨_, rfl, by simp, fun j u hj => ?_⟩⟩
  match j, hj with
  | 0, hj => simp at hj; subst hj; simp [Addr.add]
abbrev u8L (K : List Int) : List Value := K.map fun k => .int .u8 k
/-- an owned row of kinds is a slice of kinds -/
theorem u8s_own {W : World} {base : Nat} {v : Value} {n : Nat} {K : List Int} (h : W.ownsRow base 5 1 v n (u8L K)) (hn : n = K.length) : ∃ A c, v = .slice A n c ∧ U8s W W.heap.size A K := by
  rcases h.2 with ⟨h0, hn0⟩ | ⟨g, cap, cur, hv, hbg, hg, hr⟩
  · have : K = [] := List.eq_nil_of_length_eq_zero (by omega)
    exact ⟨none, 0, by rw [h0, hn0], .inl this⟩
  · have hb : Blk W g 5 cur := hg
    refine ⟨_, cap, hv, .inr ⟨g, 0, rfl, hb.lt, fun j x hx => ?_⟩⟩
    have hx2 := h.cells (g := g) (by rw [hv]; rfl) j (.int .u8 x) (by rw [List.getElem?_map, hx]; rfl)
    have e : (⟨g, 0, none⟩ : Addr).add j = ⟨g, 0 + j, none⟩ := by
      by_cases h0 : j = 0
      · subst h0; rfl
      · simp [Addr.add, h0]
    rw [← e]
    exact hx2
set_option maxRecDepth 100000 in
set_option maxHeartbeats 8000000 in
theorem rt_no (op : Int) (v : Val) (tb nm : ByteArray) (n : Int) (A : Option Addr) (m c : Nat) (CA : Option Addr) (cn cc : Nat) (g : Bool) (w : World) 
    (HM : Hid (∀ W : World, Below w.heap.size w W → Calls Try.prog 36 #[exV ⟨op, v, tb, nm, n, A, m, c⟩, .int .i64 cn, .int .i64 2] W fun e w' => e = .returned (.bool false) ∧ Below W.heap.size W w')) :
    Calls Try.prog 23 #[exV ⟨op, v, tb, nm, n, A, m, c⟩, .slice CA cn cc, .bool g] w fun e w' => e = .returned (.tuple #[.int .u8 0, .int .i64 2]) ∧ Below w.heap.size w w' := by
  obtain ⟨vk, vn, vs⟩ := v
  have HB := Lib.hid (bx_new w ⟨op, (vk, vn, vs), tb, nm, n, A, m, c⟩)
  go_enter Try.func23, Try.ntmps23
  go_wp2_with fail
  refine (HM.out _ HB.out.2).mono ?_
  rintro e w2 ⟨rfl, hb2⟩
  have HB2 := Lib.hid (bx_below HB.out hb2)
  obtain ⟨c0, c1, c2, c3, c4, c5, c6, c7⟩ := bx_cells (bx_below HB.out hb2)
  clear hb2 HM
  go_wp2
  go_ret2
  exact ⟨rfl, HB2.out.2⟩
set_option maxRecDepth 100000 in
set_option maxHeartbeats 8000000 in
theorem rt_leaf (v : Val) (tb nm : ByteArray) (n : Int) (A : Option Addr) (m c : Nat) (CA : Option Addr) (cn cc : Nat) (g : Bool) (w : World) 
    (HM : Hid (∀ W : World, Below w.heap.size w W → Calls Try.prog 36 #[exV ⟨1, v, tb, nm, n, A, m, c⟩, .int .i64 cn, .int .i64 2] W fun e w' => e = .returned (.bool true) ∧ Below W.heap.size W w')) :
    Calls Try.prog 23 #[exV ⟨1, v, tb, nm, n, A, m, c⟩, .slice CA cn cc, .bool g] w fun e w' => e = .returned (.tuple #[.int .u8 v.1, .int .i64 0]) ∧ Below w.heap.size w w' := by
  obtain ⟨vk, vn, vs⟩ := v
  have HB := Lib.hid (bx_new w ⟨1, (vk, vn, vs), tb, nm, n, A, m, c⟩)
  go_enter Try.func23, Try.ntmps23
  go_wp2_with fail
  refine (HM.out _ HB.out.2).mono ?_
  rintro e w2 ⟨rfl, hb2⟩
  have HB2 := Lib.hid (bx_below HB.out hb2)
  obtain ⟨c0, c1, c2, c3, c4, c5, c6, c7⟩ := bx_cells (bx_below HB.out hb2)
  clear hb2 HM
  go_wp2
  go_ret2
  exact ⟨rfl, HB2.out.2⟩
set_option maxRecDepth 100000 in
set_option maxHeartbeats 8000000 in
theorem rt_group (op : Int) (v : Val) (tb nm : ByteArray) (n : Int) (A : Option Addr) (m c : Nat) (CA : Option Addr) (cn cc : Nat) (g : Bool) (w : World) (hop : 20 ≤ op) (hg : g = false)
    (HM : Hid (∀ W : World, Below w.heap.size w W → Calls Try.prog 36 #[exV ⟨op, v, tb, nm, n, A, m, c⟩, .int .i64 cn, .int .i64 2] W fun e w' => e = .returned (.bool true) ∧ Below W.heap.size W w')) :
    Calls Try.prog 23 #[exV ⟨op, v, tb, nm, n, A, m, c⟩, .slice CA cn cc, .bool g] w fun e w' => e = .returned (.tuple #[.int .u8 0, .int .i64 151]) ∧ Below w.heap.size w w' := by
  obtain ⟨vk, vn, vs⟩ := v
  have HB := Lib.hid (bx_new w ⟨op, (vk, vn, vs), tb, nm, n, A, m, c⟩)
  have e1 := beq_no (a := op) (b := 1) (by omega)
  have e2 := beq_no (a := op) (b := 2) (by omega)
  have d20 : decide (20 ≤ op) = true := decide_eq_true hop
  subst hg
  clear hop
  go_enter Try.func23, Try.ntmps23
  go_wp2_with fail
  refine (HM.out _ HB.out.2).mono ?_
  rintro e w2 ⟨rfl, hb2⟩
  have HB2 := Lib.hid (bx_below HB.out hb2)
  obtain ⟨c0, c1, c2, c3, c4, c5, c6, c7⟩ := bx_cells (bx_below HB.out hb2)
  clear hb2 HM
  go_wp2
  go_ret2
  exact ⟨rfl, HB2.out.2⟩
set_option maxRecDepth 100000 in
set_option maxHeartbeats 8000000 in
theorem rt_col (v : Val) (tb nm : ByteArray) (n : Int) (A : Option Addr) (m c : Nat) (CA : Option Addr) (cn cc : Nat) (g : Bool) (w : World) (p : Nat) (hp : (p : Int) = n) (hpn : p < cn) (y : Int) (b o : Nat) (hCA : CA = some ⟨b, o, none⟩) (hbl : b < w.heap.size) (hy : w.cell? ⟨b, o + p, none⟩ = some (.int .u8 y))
    (HM : Hid (∀ W : World, Below w.heap.size w W → Calls Try.prog 36 #[exV ⟨2, v, tb, nm, n, A, m, c⟩, .int .i64 cn, .int .i64 2] W fun e w' => e = .returned (.bool true) ∧ Below W.heap.size W w')) :
    Calls Try.prog 23 #[exV ⟨2, v, tb, nm, n, A, m, c⟩, .slice CA cn cc, .bool g] w fun e w' => e = .returned (.tuple #[.int .u8 y, .int .i64 0]) ∧ Below w.heap.size w w' := by
  obtain ⟨vk, vn, vs⟩ := v
  have HB := Lib.hid (bx_new w ⟨2, (vk, vn, vs), tb, nm, n, A, m, c⟩)
  subst hp hCA
  have HY := Lib.hid (And.intro hbl hy)
  have hpI : (p : Int) < cn := by omega
  clear hbl hy
  go_enter Try.func23, Try.ntmps23
  go_wp2_with fail
  refine (HM.out _ HB.out.2).mono ?_
  rintro e w2 ⟨rfl, hb2⟩
  have HB2 := Lib.hid (bx_below HB.out hb2)
  obtain ⟨c0, c1, c2, c3, c4, c5, c6, c7⟩ := bx_cells (bx_below HB.out hb2)
  clear hb2 HM
  have hy := (HB2.out.2.cell (p := ⟨b, o + p, none⟩) HY.out.1).trans HY.out.2
  go_wp2
  go_ret2
  exact ⟨rfl, HB2.out.2⟩
end Go.Proofs.Ytkgpcodccpckeaa
