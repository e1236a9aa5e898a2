/- ref15.May, fit of any expression. Conditions: how it lies in memory. -/
import Derived.Test.YtkgpcodccpckeaaEt3
import Derived.Test.YtkgpcodccpckeaaRefChk
namespace Go.Proofs.Ytkgpcodccpckeaa
open Go Go.RowKit
set_option linter.unusedVariables false
set_option linter.unusedSimpArgs false
set_option maxRecDepth 100000 in
set_option maxHeartbeats 8000000 in
theorem rmay_1a (v : Val) (tb nm : ByteArray) (n : Int) (A : Option Addr) (m c : Nat) (ks : List XT) (k g : Int) (w : World) (hm : m = ks.length) (hml : m ≤ maxLen) (hK : Kids w w.heap.size A (ks.map XT.ex)) (hm0 : m = 0) (hf : Fits v)
    (hk : ∀ (j : Nat) x, ks[j]? = some x → ∀ W, Below w.heap.size w W → Calls Try.prog 36 #[exV x.ex, .int .i64 k, .int .i64 g] W fun e w' => e = .returned (.bool (mayR k x g)) ∧ Below W.heap.size W w') :
    Calls Try.prog 36 #[exV ⟨1, v, tb, nm, n, A, m, c⟩, .int .i64 k, .int .i64 g] w fun e w' => e = .returned (.bool (decide (chk v = 0) && mayRL k ks g)) ∧ Below w.heap.size w w' := by
  have HK := Lib.hid hk
  have HKI := Lib.hid hK
  have HN := Lib.hid hm
  have hmI : (m : Int) ≤ 9223372036854775807 := by have := maxLen_val; omega
  clear hk hK hm hml
  subst hm0
  have HCK := Lib.hid (fun W => refCheck_any v W hf)
  clear hf
  obtain ⟨B, hB⟩ : ∃ B, decide (chk v = 0) = B := ⟨_, rfl⟩
  rw [hB]
  have hB2 : (chk v == 0) = B := by rw [← hB]; by_cases e : chk v = 0 <;> simp [e]
  generalize chk v = E at *
  clear hB
  have hx := bx_new w ⟨1, v, tb, nm, n, A, 0, c⟩
  obtain ⟨R, hR⟩ : ∃ R, (B && mayRL k ks g) = R := ⟨_, rfl⟩
  have HR := Lib.hid hR
  rw [hR]
  clear hR
  go_enter Try.func36, Try.ntmps36
  go_wp2_with fail
  refine (HCK.out _).mono ?_
  rintro e w2 ⟨rfl, hb2⟩
  replace hx := bx_below hx hb2
  obtain ⟨c0, c1, c2, c3, c4, c5, c6, c7⟩ := bx_cells hx
  clear hb2
  have HX := Lib.hid hx
  go_wp2
  go_loopw [8, 9] (fun ov i wr => ∃ (j : Nat) (ok : Bool), j ≤ 0 ∧ i = .int .i64 j ∧ ov = .bool ok ∧ (ok && mayRL k (ks.drop j) g) = R ∧ Bx w ⟨1, v, tb, nm, n, A, 0, c⟩ wr) (fun _ i _ => 0 - (intOf i).toNat)
  case atStart => exact ⟨0, B, by omega, rfl, rfl, HR.out, HX.out⟩
  case round =>
    obtain ⟨j, ok, hj, rfl, rfl, heq, hb⟩ := hrel
    obtain ⟨c0, c1, c2, c3, c4, c5, c6, c7⟩ := bx_cells hb
    obtain rfl : j = 0 := by omega
    have HR2 := Lib.hid (show ok = R by rw [← heq, List.drop_of_length_le (by have := HN.out; omega)]; simp [mayRL])
    clear heq
    go_wp2
    go_ret
    exact ⟨by rw [HR2.out]; rfl, hb.2⟩
set_option maxRecDepth 100000 in
set_option maxHeartbeats 8000000 in
theorem rmay_1b (v : Val) (tb nm : ByteArray) (n : Int) (A : Option Addr) (m c : Nat) (ks : List XT) (k g : Int) (w : World) (hm : m = ks.length) (hml : m ≤ maxLen) (hK : Kids w w.heap.size A (ks.map XT.ex)) (hm0 : ¬ m = 0)
    (hk : ∀ (j : Nat) x, ks[j]? = some x → ∀ W, Below w.heap.size w W → Calls Try.prog 36 #[exV x.ex, .int .i64 k, .int .i64 g] W fun e w' => e = .returned (.bool (mayR k x g)) ∧ Below W.heap.size W w') :
    Calls Try.prog 36 #[exV ⟨1, v, tb, nm, n, A, m, c⟩, .int .i64 k, .int .i64 g] w fun e w' => e = .returned (.bool (false && mayRL k ks g)) ∧ Below w.heap.size w w' := by
  have HK := Lib.hid hk
  have HKI := Lib.hid hK
  have HN := Lib.hid hm
  have hmI : (m : Int) ≤ 9223372036854775807 := by have := maxLen_val; omega
  clear hk hK hm hml
  have hmb : ((m : Int) == 0) = false := by simp; omega
  clear hm0
  have hx := bx_new w ⟨1, v, tb, nm, n, A, m, c⟩
  obtain ⟨R, hR⟩ : ∃ R, (false && mayRL k ks g) = R := ⟨_, rfl⟩
  have HR := Lib.hid hR
  rw [hR]
  clear hR
  go_enter Try.func36, Try.ntmps36
  have HX := Lib.hid hx
  go_wp2
  go_loopw [8, 9] (fun ov i wr => ∃ (j : Nat) (ok : Bool), j ≤ m ∧ i = .int .i64 j ∧ ov = .bool ok ∧ (ok && mayRL k (ks.drop j) g) = R ∧ Bx w ⟨1, v, tb, nm, n, A, m, c⟩ wr) (fun _ i _ => m - (intOf i).toNat)
  case atStart => exact ⟨0, false, by omega, rfl, rfl, HR.out, HX.out⟩
  case round =>
    obtain ⟨j, ok, hj, rfl, rfl, heq, hb⟩ := hrel
    obtain ⟨c0, c1, c2, c3, c4, c5, c6, c7⟩ := bx_cells hb
    by_cases hjm : j < m
    · have hjl : j < ks.length := by have := HN.out; omega
      have hjx : (ks.map XT.ex)[j]? = some ks[j].ex := by rw [List.getElem?_map, List.getElem?_eq_getElem hjl]; rfl
      obtain ⟨b, o, rfl, hbl, hc⟩ := kids_get HKI.out (fun e => by rw [e] at hjx; simp at hjx)
      obtain ⟨a0, a1, a2, a3, a4, a5, a6, a7⟩ := cells8_below (hc j _ hjx) hb.2 hbl
      have hkc := HK.out j ks[j] (List.getElem?_eq_getElem hjl)
      have hd : ks.drop j = ks[j] :: ks.drop (j + 1) := List.drop_eq_getElem_cons hjl
      rw [hd, mayRL] at heq
      generalize ks[j] = y at *
      obtain ⟨yo, ⟨y1, y2, y3⟩, yt, yn, yN, yA, yc, yk⟩ := y
      simp only [XT.ex] at a0 a1 a2 a3 a4 a5 a6 a7
      generalize hbb : mayR k (XT.mk yo (y1, y2, y3) yt yn yN yA yc yk) g = bb at *
      have HKC := Lib.hid hkc
      have HB := Lib.hid hb
      clear hkc hd hjx hbl hc hbb hb
      cases ok
      · have HR2 := Lib.hid (show (false && mayRL k (ks.drop (j + 1)) g) = R by rw [← heq]; rfl)
        clear heq
        go_wp2
        go_roundw
        case rel => exact ⟨j + 1, false, by omega, by go_num, rfl, HR2.out, HB.out⟩
        case measure => simp [intOf]; omega
      · have HR2 := Lib.hid (show (bb && mayRL k (ks.drop (j + 1)) g) = R by rw [← heq]; simp)
        clear heq
        go_wp2_with fail
        refine (HKC.out _ HB.out.2).mono ?_
        rintro e w5 ⟨rfl, hb5⟩
        have HB5 := Lib.hid (bx_below HB.out hb5)
        clear hb5 HKC
        go_wp2
        go_roundw
        case rel => exact ⟨j + 1, bb, by omega, by go_num, rfl, HR2.out, HB5.out⟩
        case measure => simp [intOf]; omega
    · obtain rfl : j = m := by omega
      have HR2 := Lib.hid (show ok = R by rw [← heq, List.drop_of_length_le (by have := HN.out; omega)]; simp [mayRL])
      clear heq
      go_wp2
      go_ret
      exact ⟨by rw [HR2.out]; rfl, hb.2⟩
set_option maxRecDepth 100000 in
set_option maxHeartbeats 8000000 in
theorem rmay_2a (v : Val) (tb nm : ByteArray) (n : Int) (A : Option Addr) (m c : Nat) (ks : List XT) (k g : Int) (w : World) (hm : m = ks.length) (hml : m ≤ maxLen) (hK : Kids w w.heap.size A (ks.map XT.ex)) (hm0 : ¬ m = 0)
    (hk : ∀ (j : Nat) x, ks[j]? = some x → ∀ W, Below w.heap.size w W → Calls Try.prog 36 #[exV x.ex, .int .i64 k, .int .i64 g] W fun e w' => e = .returned (.bool (mayR k x g)) ∧ Below W.heap.size W w') :
    Calls Try.prog 36 #[exV ⟨2, v, tb, nm, n, A, m, c⟩, .int .i64 k, .int .i64 g] w fun e w' => e = .returned (.bool (false && mayRL k ks g)) ∧ Below w.heap.size w w' := by
  have HK := Lib.hid hk
  have HKI := Lib.hid hK
  have HN := Lib.hid hm
  have hmI : (m : Int) ≤ 9223372036854775807 := by have := maxLen_val; omega
  clear hk hK hm hml
  have hmb : ((m : Int) == 0) = false := by simp; omega
  clear hm0
  have hx := bx_new w ⟨2, v, tb, nm, n, A, m, c⟩
  obtain ⟨R, hR⟩ : ∃ R, (false && mayRL k ks g) = R := ⟨_, rfl⟩
  have HR := Lib.hid hR
  rw [hR]
  clear hR
  go_enter Try.func36, Try.ntmps36
  have HX := Lib.hid hx
  go_wp2
  go_loopw [8, 9] (fun ov i wr => ∃ (j : Nat) (ok : Bool), j ≤ m ∧ i = .int .i64 j ∧ ov = .bool ok ∧ (ok && mayRL k (ks.drop j) g) = R ∧ Bx w ⟨2, v, tb, nm, n, A, m, c⟩ wr) (fun _ i _ => m - (intOf i).toNat)
  case atStart => exact ⟨0, false, by omega, rfl, rfl, HR.out, HX.out⟩
  case round =>
    obtain ⟨j, ok, hj, rfl, rfl, heq, hb⟩ := hrel
    obtain ⟨c0, c1, c2, c3, c4, c5, c6, c7⟩ := bx_cells hb
    by_cases hjm : j < m
    · have hjl : j < ks.length := by have := HN.out; omega
      have hjx : (ks.map XT.ex)[j]? = some ks[j].ex := by rw [List.getElem?_map, List.getElem?_eq_getElem hjl]; rfl
      obtain ⟨b, o, rfl, hbl, hc⟩ := kids_get HKI.out (fun e => by rw [e] at hjx; simp at hjx)
      obtain ⟨a0, a1, a2, a3, a4, a5, a6, a7⟩ := cells8_below (hc j _ hjx) hb.2 hbl
      have hkc := HK.out j ks[j] (List.getElem?_eq_getElem hjl)
      have hd : ks.drop j = ks[j] :: ks.drop (j + 1) := List.drop_eq_getElem_cons hjl
      rw [hd, mayRL] at heq
      generalize ks[j] = y at *
      obtain ⟨yo, ⟨y1, y2, y3⟩, yt, yn, yN, yA, yc, yk⟩ := y
      simp only [XT.ex] at a0 a1 a2 a3 a4 a5 a6 a7
      generalize hbb : mayR k (XT.mk yo (y1, y2, y3) yt yn yN yA yc yk) g = bb at *
      have HKC := Lib.hid hkc
      have HB := Lib.hid hb
      clear hkc hd hjx hbl hc hbb hb
      cases ok
      · have HR2 := Lib.hid (show (false && mayRL k (ks.drop (j + 1)) g) = R by rw [← heq]; rfl)
        clear heq
        go_wp2
        go_roundw
        case rel => exact ⟨j + 1, false, by omega, by go_num, rfl, HR2.out, HB.out⟩
        case measure => simp [intOf]; omega
      · have HR2 := Lib.hid (show (bb && mayRL k (ks.drop (j + 1)) g) = R by rw [← heq]; simp)
        clear heq
        go_wp2_with fail
        refine (HKC.out _ HB.out.2).mono ?_
        rintro e w5 ⟨rfl, hb5⟩
        have HB5 := Lib.hid (bx_below HB.out hb5)
        clear hb5 HKC
        go_wp2
        go_roundw
        case rel => exact ⟨j + 1, bb, by omega, by go_num, rfl, HR2.out, HB5.out⟩
        case measure => simp [intOf]; omega
    · obtain rfl : j = m := by omega
      have HR2 := Lib.hid (show ok = R by rw [← heq, List.drop_of_length_le (by have := HN.out; omega)]; simp [mayRL])
      clear heq
      go_wp2
      go_ret
      exact ⟨by rw [HR2.out]; rfl, hb.2⟩
set_option maxRecDepth 100000 in
set_option maxHeartbeats 8000000 in
theorem rmay_2b (v : Val) (tb nm : ByteArray) (n : Int) (A : Option Addr) (m c : Nat) (ks : List XT) (k g : Int) (w : World) (hm : m = ks.length) (hml : m ≤ maxLen) (hK : Kids w w.heap.size A (ks.map XT.ex)) (hm0 : m = 0) (hn : n < 0)
    (hk : ∀ (j : Nat) x, ks[j]? = some x → ∀ W, Below w.heap.size w W → Calls Try.prog 36 #[exV x.ex, .int .i64 k, .int .i64 g] W fun e w' => e = .returned (.bool (mayR k x g)) ∧ Below W.heap.size W w') :
    Calls Try.prog 36 #[exV ⟨2, v, tb, nm, n, A, m, c⟩, .int .i64 k, .int .i64 g] w fun e w' => e = .returned (.bool (false && mayRL k ks g)) ∧ Below w.heap.size w w' := by
  have HK := Lib.hid hk
  have HKI := Lib.hid hK
  have HN := Lib.hid hm
  have hmI : (m : Int) ≤ 9223372036854775807 := by have := maxLen_val; omega
  clear hk hK hm hml
  subst hm0
  have hnb : decide (0 ≤ n) = false := decide_eq_false (by omega)
  clear hn
  have hx := bx_new w ⟨2, v, tb, nm, n, A, 0, c⟩
  obtain ⟨R, hR⟩ : ∃ R, (false && mayRL k ks g) = R := ⟨_, rfl⟩
  have HR := Lib.hid hR
  rw [hR]
  clear hR
  go_enter Try.func36, Try.ntmps36
  have HX := Lib.hid hx
  go_wp2
  go_loopw [8, 9] (fun ov i wr => ∃ (j : Nat) (ok : Bool), j ≤ 0 ∧ i = .int .i64 j ∧ ov = .bool ok ∧ (ok && mayRL k (ks.drop j) g) = R ∧ Bx w ⟨2, v, tb, nm, n, A, 0, c⟩ wr) (fun _ i _ => 0 - (intOf i).toNat)
  case atStart => exact ⟨0, false, by omega, rfl, rfl, HR.out, HX.out⟩
  case round =>
    obtain ⟨j, ok, hj, rfl, rfl, heq, hb⟩ := hrel
    obtain ⟨c0, c1, c2, c3, c4, c5, c6, c7⟩ := bx_cells hb
    obtain rfl : j = 0 := by omega
    have HR2 := Lib.hid (show ok = R by rw [← heq, List.drop_of_length_le (by have := HN.out; omega)]; simp [mayRL])
    clear heq
    go_wp2
    go_ret
    exact ⟨by rw [HR2.out]; rfl, hb.2⟩
set_option maxRecDepth 100000 in
set_option maxHeartbeats 8000000 in
theorem rmay_2c (v : Val) (tb nm : ByteArray) (n : Int) (A : Option Addr) (m c : Nat) (ks : List XT) (k g : Int) (w : World) (hm : m = ks.length) (hml : m ≤ maxLen) (hK : Kids w w.heap.size A (ks.map XT.ex)) (hm0 : m = 0) (hn : 0 ≤ n)
    (hk : ∀ (j : Nat) x, ks[j]? = some x → ∀ W, Below w.heap.size w W → Calls Try.prog 36 #[exV x.ex, .int .i64 k, .int .i64 g] W fun e w' => e = .returned (.bool (mayR k x g)) ∧ Below W.heap.size W w') :
    Calls Try.prog 36 #[exV ⟨2, v, tb, nm, n, A, m, c⟩, .int .i64 k, .int .i64 g] w fun e w' => e = .returned (.bool (decide (n < k) && mayRL k ks g)) ∧ Below w.heap.size w w' := by
  have HK := Lib.hid hk
  have HKI := Lib.hid hK
  have HN := Lib.hid hm
  have hmI : (m : Int) ≤ 9223372036854775807 := by have := maxLen_val; omega
  clear hk hK hm hml
  subst hm0
  have hnb : decide (0 ≤ n) = true := decide_eq_true hn
  clear hn
  obtain ⟨B, hB⟩ : ∃ B, decide (n < k) = B := ⟨_, rfl⟩
  rw [hB]
  have hx := bx_new w ⟨2, v, tb, nm, n, A, 0, c⟩
  obtain ⟨R, hR⟩ : ∃ R, (B && mayRL k ks g) = R := ⟨_, rfl⟩
  have HR := Lib.hid hR
  rw [hR]
  clear hR
  go_enter Try.func36, Try.ntmps36
  have HX := Lib.hid hx
  go_wp2
  go_loopw [8, 9] (fun ov i wr => ∃ (j : Nat) (ok : Bool), j ≤ 0 ∧ i = .int .i64 j ∧ ov = .bool ok ∧ (ok && mayRL k (ks.drop j) g) = R ∧ Bx w ⟨2, v, tb, nm, n, A, 0, c⟩ wr) (fun _ i _ => 0 - (intOf i).toNat)
  case atStart => exact ⟨0, B, by omega, rfl, rfl, HR.out, HX.out⟩
  case round =>
    obtain ⟨j, ok, hj, rfl, rfl, heq, hb⟩ := hrel
    obtain ⟨c0, c1, c2, c3, c4, c5, c6, c7⟩ := bx_cells hb
    obtain rfl : j = 0 := by omega
    have HR2 := Lib.hid (show ok = R by rw [← heq, List.drop_of_length_le (by have := HN.out; omega)]; simp [mayRL])
    clear heq
    go_wp2
    go_ret
    exact ⟨by rw [HR2.out]; rfl, hb.2⟩
set_option maxRecDepth 100000 in
set_option maxHeartbeats 8000000 in
theorem rmay_3 (op : Int) (v : Val) (tb nm : ByteArray) (n : Int) (A : Option Addr) (m c : Nat) (ks : List XT) (k g : Int) (w : World) (hm : m = ks.length) (hml : m ≤ maxLen) (hK : Kids w w.heap.size A (ks.map XT.ex)) (h1 : 3 ≤ op) (h2 : op ≤ 5)
    (hk : ∀ (j : Nat) x, ks[j]? = some x → ∀ W, Below w.heap.size w W → Calls Try.prog 36 #[exV x.ex, .int .i64 k, .int .i64 g] W fun e w' => e = .returned (.bool (mayR k x g)) ∧ Below W.heap.size W w') :
    Calls Try.prog 36 #[exV ⟨op, v, tb, nm, n, A, m, c⟩, .int .i64 k, .int .i64 g] w fun e w' => e = .returned (.bool (((m : Int) == 1) && mayRL k ks g)) ∧ Below w.heap.size w w' := by
  have HK := Lib.hid hk
  have HKI := Lib.hid hK
  have HN := Lib.hid hm
  have hmI : (m : Int) ≤ 9223372036854775807 := by have := maxLen_val; omega
  clear hk hK hm hml
  have e1 := beq_no (a := op) (b := 1) (by omega)
  have e2 := beq_no (a := op) (b := 2) (by omega)
  have e20 := beq_no (a := op) (b := 20) (by omega)
  have l3 : decide (3 ≤ op) = true := decide_eq_true (by omega)
  have l6 : decide (6 ≤ op) = false := decide_eq_false (by omega)
  have l21 : decide (21 ≤ op) = false := decide_eq_false (by omega)
  have l20 : decide (20 ≤ op) = false := decide_eq_false (by omega)
  have u5 : decide (op ≤ 5) = true := decide_eq_true (by omega)
  have u19 : decide (op ≤ 19) = true := decide_eq_true (by omega)
  have u23 : decide (op ≤ 23) = true := decide_eq_true (by omega)
  obtain ⟨B, hB⟩ : ∃ B, ((m : Int) == 1) = B := ⟨_, rfl⟩
  rw [hB]
  have hx := bx_new w ⟨op, v, tb, nm, n, A, m, c⟩
  obtain ⟨R, hR⟩ : ∃ R, (B && mayRL k ks g) = R := ⟨_, rfl⟩
  have HR := Lib.hid hR
  rw [hR]
  clear hR
  clear h1 h2
  go_enter Try.func36, Try.ntmps36
  have HX := Lib.hid hx
  go_wp2
  go_loopw [8, 9] (fun ov i wr => ∃ (j : Nat) (ok : Bool), j ≤ m ∧ i = .int .i64 j ∧ ov = .bool ok ∧ (ok && mayRL k (ks.drop j) g) = R ∧ Bx w ⟨op, v, tb, nm, n, A, m, c⟩ wr) (fun _ i _ => m - (intOf i).toNat)
  case atStart => exact ⟨0, B, by omega, rfl, rfl, HR.out, HX.out⟩
  case round =>
    obtain ⟨j, ok, hj, rfl, rfl, heq, hb⟩ := hrel
    obtain ⟨c0, c1, c2, c3, c4, c5, c6, c7⟩ := bx_cells hb
    by_cases hjm : j < m
    · have hjl : j < ks.length := by have := HN.out; omega
      have hjx : (ks.map XT.ex)[j]? = some ks[j].ex := by rw [List.getElem?_map, List.getElem?_eq_getElem hjl]; rfl
      obtain ⟨b, o, rfl, hbl, hc⟩ := kids_get HKI.out (fun e => by rw [e] at hjx; simp at hjx)
      obtain ⟨a0, a1, a2, a3, a4, a5, a6, a7⟩ := cells8_below (hc j _ hjx) hb.2 hbl
      have hkc := HK.out j ks[j] (List.getElem?_eq_getElem hjl)
      have hd : ks.drop j = ks[j] :: ks.drop (j + 1) := List.drop_eq_getElem_cons hjl
      rw [hd, mayRL] at heq
      generalize ks[j] = y at *
      obtain ⟨yo, ⟨y1, y2, y3⟩, yt, yn, yN, yA, yc, yk⟩ := y
      simp only [XT.ex] at a0 a1 a2 a3 a4 a5 a6 a7
      generalize hbb : mayR k (XT.mk yo (y1, y2, y3) yt yn yN yA yc yk) g = bb at *
      have HKC := Lib.hid hkc
      have HB := Lib.hid hb
      clear hkc hd hjx hbl hc hbb hb
      cases ok
      · have HR2 := Lib.hid (show (false && mayRL k (ks.drop (j + 1)) g) = R by rw [← heq]; rfl)
        clear heq
        go_wp2
        go_roundw
        case rel => exact ⟨j + 1, false, by omega, by go_num, rfl, HR2.out, HB.out⟩
        case measure => simp [intOf]; omega
      · have HR2 := Lib.hid (show (bb && mayRL k (ks.drop (j + 1)) g) = R by rw [← heq]; simp)
        clear heq
        go_wp2_with fail
        refine (HKC.out _ HB.out.2).mono ?_
        rintro e w5 ⟨rfl, hb5⟩
        have HB5 := Lib.hid (bx_below HB.out hb5)
        clear hb5 HKC
        go_wp2
        go_roundw
        case rel => exact ⟨j + 1, bb, by omega, by go_num, rfl, HR2.out, HB5.out⟩
        case measure => simp [intOf]; omega
    · obtain rfl : j = m := by omega
      have HR2 := Lib.hid (show ok = R by rw [← heq, List.drop_of_length_le (by have := HN.out; omega)]; simp [mayRL])
      clear heq
      go_wp2
      go_ret
      exact ⟨by rw [HR2.out]; rfl, hb.2⟩
set_option maxRecDepth 100000 in
set_option maxHeartbeats 8000000 in
theorem rmay_6 (op : Int) (v : Val) (tb nm : ByteArray) (n : Int) (A : Option Addr) (m c : Nat) (ks : List XT) (k g : Int) (w : World) (hm : m = ks.length) (hml : m ≤ maxLen) (hK : Kids w w.heap.size A (ks.map XT.ex)) (h1 : 6 ≤ op) (h2 : op ≤ 19)
    (hk : ∀ (j : Nat) x, ks[j]? = some x → ∀ W, Below w.heap.size w W → Calls Try.prog 36 #[exV x.ex, .int .i64 k, .int .i64 g] W fun e w' => e = .returned (.bool (mayR k x g)) ∧ Below W.heap.size W w') :
    Calls Try.prog 36 #[exV ⟨op, v, tb, nm, n, A, m, c⟩, .int .i64 k, .int .i64 g] w fun e w' => e = .returned (.bool (((m : Int) == 2) && mayRL k ks g)) ∧ Below w.heap.size w w' := by
  have HK := Lib.hid hk
  have HKI := Lib.hid hK
  have HN := Lib.hid hm
  have hmI : (m : Int) ≤ 9223372036854775807 := by have := maxLen_val; omega
  clear hk hK hm hml
  have e1 := beq_no (a := op) (b := 1) (by omega)
  have e2 := beq_no (a := op) (b := 2) (by omega)
  have e20 := beq_no (a := op) (b := 20) (by omega)
  have l3 : decide (3 ≤ op) = true := decide_eq_true (by omega)
  have l6 : decide (6 ≤ op) = true := decide_eq_true (by omega)
  have l21 : decide (21 ≤ op) = false := decide_eq_false (by omega)
  have l20 : decide (20 ≤ op) = false := decide_eq_false (by omega)
  have u5 : decide (op ≤ 5) = false := decide_eq_false (by omega)
  have u19 : decide (op ≤ 19) = true := decide_eq_true (by omega)
  have u23 : decide (op ≤ 23) = true := decide_eq_true (by omega)
  obtain ⟨B, hB⟩ : ∃ B, ((m : Int) == 2) = B := ⟨_, rfl⟩
  rw [hB]
  have hx := bx_new w ⟨op, v, tb, nm, n, A, m, c⟩
  obtain ⟨R, hR⟩ : ∃ R, (B && mayRL k ks g) = R := ⟨_, rfl⟩
  have HR := Lib.hid hR
  rw [hR]
  clear hR
  clear h1 h2
  go_enter Try.func36, Try.ntmps36
  have HX := Lib.hid hx
  go_wp2
  go_loopw [8, 9] (fun ov i wr => ∃ (j : Nat) (ok : Bool), j ≤ m ∧ i = .int .i64 j ∧ ov = .bool ok ∧ (ok && mayRL k (ks.drop j) g) = R ∧ Bx w ⟨op, v, tb, nm, n, A, m, c⟩ wr) (fun _ i _ => m - (intOf i).toNat)
  case atStart => exact ⟨0, B, by omega, rfl, rfl, HR.out, HX.out⟩
  case round =>
    obtain ⟨j, ok, hj, rfl, rfl, heq, hb⟩ := hrel
    obtain ⟨c0, c1, c2, c3, c4, c5, c6, c7⟩ := bx_cells hb
    by_cases hjm : j < m
    · have hjl : j < ks.length := by have := HN.out; omega
      have hjx : (ks.map XT.ex)[j]? = some ks[j].ex := by rw [List.getElem?_map, List.getElem?_eq_getElem hjl]; rfl
      obtain ⟨b, o, rfl, hbl, hc⟩ := kids_get HKI.out (fun e => by rw [e] at hjx; simp at hjx)
      obtain ⟨a0, a1, a2, a3, a4, a5, a6, a7⟩ := cells8_below (hc j _ hjx) hb.2 hbl
      have hkc := HK.out j ks[j] (List.getElem?_eq_getElem hjl)
      have hd : ks.drop j = ks[j] :: ks.drop (j + 1) := List.drop_eq_getElem_cons hjl
      rw [hd, mayRL] at heq
      generalize ks[j] = y at *
      obtain ⟨yo, ⟨y1, y2, y3⟩, yt, yn, yN, yA, yc, yk⟩ := y
      simp only [XT.ex] at a0 a1 a2 a3 a4 a5 a6 a7
      generalize hbb : mayR k (XT.mk yo (y1, y2, y3) yt yn yN yA yc yk) g = bb at *
      have HKC := Lib.hid hkc
      have HB := Lib.hid hb
      clear hkc hd hjx hbl hc hbb hb
      cases ok
      · have HR2 := Lib.hid (show (false && mayRL k (ks.drop (j + 1)) g) = R by rw [← heq]; rfl)
        clear heq
        go_wp2
        go_roundw
        case rel => exact ⟨j + 1, false, by omega, by go_num, rfl, HR2.out, HB.out⟩
        case measure => simp [intOf]; omega
      · have HR2 := Lib.hid (show (bb && mayRL k (ks.drop (j + 1)) g) = R by rw [← heq]; simp)
        clear heq
        go_wp2_with fail
        refine (HKC.out _ HB.out.2).mono ?_
        rintro e w5 ⟨rfl, hb5⟩
        have HB5 := Lib.hid (bx_below HB.out hb5)
        clear hb5 HKC
        go_wp2
        go_roundw
        case rel => exact ⟨j + 1, bb, by omega, by go_num, rfl, HR2.out, HB5.out⟩
        case measure => simp [intOf]; omega
    · obtain rfl : j = m := by omega
      have HR2 := Lib.hid (show ok = R by rw [← heq, List.drop_of_length_le (by have := HN.out; omega)]; simp [mayRL])
      clear heq
      go_wp2
      go_ret
      exact ⟨by rw [HR2.out]; rfl, hb.2⟩
set_option maxRecDepth 100000 in
set_option maxHeartbeats 8000000 in
theorem rmay_20a_one (v : Val) (tb nm : ByteArray) (n : Int) (A : Option Addr) (m c : Nat) (ks : List XT) (k g : Int) (w : World) (hm : m = ks.length) (hml : m ≤ maxLen) (hK : Kids w w.heap.size A (ks.map XT.ex)) (hm0 : 1 < m) (hg1 : g = 1)
    (hk : ∀ (j : Nat) x, ks[j]? = some x → ∀ W, Below w.heap.size w W → Calls Try.prog 36 #[exV x.ex, .int .i64 k, .int .i64 0] W fun e w' => e = .returned (.bool (mayR k x 0)) ∧ Below W.heap.size W w') :
    Calls Try.prog 36 #[exV ⟨20, v, tb, nm, n, A, m, c⟩, .int .i64 k, .int .i64 g] w fun e w' => e = .returned (.bool (false && mayRL k ks 0)) ∧ Below w.heap.size w w' := by
  have HK := Lib.hid hk
  have HKI := Lib.hid hK
  have HN := Lib.hid hm
  have hmI : (m : Int) ≤ 9223372036854775807 := by have := maxLen_val; omega
  clear hk hK hm hml
  subst hg1
  have hmb : decide ((m : Int) ≤ 1) = false := decide_eq_false (by omega)
  clear hm0
  have hx := bx_new w ⟨20, v, tb, nm, n, A, m, c⟩
  obtain ⟨R, hR⟩ : ∃ R, (false && mayRL k ks 0) = R := ⟨_, rfl⟩
  have HR := Lib.hid hR
  rw [hR]
  clear hR
  go_enter Try.func36, Try.ntmps36
  have HX := Lib.hid hx
  go_wp2
  go_loopw [8, 9] (fun ov i wr => ∃ (j : Nat) (ok : Bool), j ≤ m ∧ i = .int .i64 j ∧ ov = .bool ok ∧ (ok && mayRL k (ks.drop j) 0) = R ∧ Bx w ⟨20, v, tb, nm, n, A, m, c⟩ wr) (fun _ i _ => m - (intOf i).toNat)
  case atStart => exact ⟨0, false, by omega, rfl, rfl, HR.out, HX.out⟩
  case round =>
    obtain ⟨j, ok, hj, rfl, rfl, heq, hb⟩ := hrel
    obtain ⟨c0, c1, c2, c3, c4, c5, c6, c7⟩ := bx_cells hb
    by_cases hjm : j < m
    · have hjl : j < ks.length := by have := HN.out; omega
      have hjx : (ks.map XT.ex)[j]? = some ks[j].ex := by rw [List.getElem?_map, List.getElem?_eq_getElem hjl]; rfl
      obtain ⟨b, o, rfl, hbl, hc⟩ := kids_get HKI.out (fun e => by rw [e] at hjx; simp at hjx)
      obtain ⟨a0, a1, a2, a3, a4, a5, a6, a7⟩ := cells8_below (hc j _ hjx) hb.2 hbl
      have hkc := HK.out j ks[j] (List.getElem?_eq_getElem hjl)
      have hd : ks.drop j = ks[j] :: ks.drop (j + 1) := List.drop_eq_getElem_cons hjl
      rw [hd, mayRL] at heq
      generalize ks[j] = y at *
      obtain ⟨yo, ⟨y1, y2, y3⟩, yt, yn, yN, yA, yc, yk⟩ := y
      simp only [XT.ex] at a0 a1 a2 a3 a4 a5 a6 a7
      generalize hbb : mayR k (XT.mk yo (y1, y2, y3) yt yn yN yA yc yk) 0 = bb at *
      have HKC := Lib.hid hkc
      have HB := Lib.hid hb
      clear hkc hd hjx hbl hc hbb hb
      cases ok
      · have HR2 := Lib.hid (show (false && mayRL k (ks.drop (j + 1)) 0) = R by rw [← heq]; rfl)
        clear heq
        go_wp2
        go_roundw
        case rel => exact ⟨j + 1, false, by omega, by go_num, rfl, HR2.out, HB.out⟩
        case measure => simp [intOf]; omega
      · have HR2 := Lib.hid (show (bb && mayRL k (ks.drop (j + 1)) 0) = R by rw [← heq]; simp)
        clear heq
        go_wp2_with fail
        refine (HKC.out _ HB.out.2).mono ?_
        rintro e w5 ⟨rfl, hb5⟩
        have HB5 := Lib.hid (bx_below HB.out hb5)
        clear hb5 HKC
        go_wp2
        go_roundw
        case rel => exact ⟨j + 1, bb, by omega, by go_num, rfl, HR2.out, HB5.out⟩
        case measure => simp [intOf]; omega
    · obtain rfl : j = m := by omega
      have HR2 := Lib.hid (show ok = R by rw [← heq, List.drop_of_length_le (by have := HN.out; omega)]; simp [mayRL])
      clear heq
      go_wp2
      go_ret
      exact ⟨by rw [HR2.out]; rfl, hb.2⟩
set_option maxRecDepth 100000 in
set_option maxHeartbeats 8000000 in
theorem rmay_20a_not (v : Val) (tb nm : ByteArray) (n : Int) (A : Option Addr) (m c : Nat) (ks : List XT) (k g : Int) (w : World) (hm : m = ks.length) (hml : m ≤ maxLen) (hK : Kids w w.heap.size A (ks.map XT.ex)) (hm0 : 1 < m) (hg1 : ¬ g = 1)
    (hk : ∀ (j : Nat) x, ks[j]? = some x → ∀ W, Below w.heap.size w W → Calls Try.prog 36 #[exV x.ex, .int .i64 k, .int .i64 g] W fun e w' => e = .returned (.bool (mayR k x g)) ∧ Below W.heap.size W w') :
    Calls Try.prog 36 #[exV ⟨20, v, tb, nm, n, A, m, c⟩, .int .i64 k, .int .i64 g] w fun e w' => e = .returned (.bool (false && mayRL k ks g)) ∧ Below w.heap.size w w' := by
  have HK := Lib.hid hk
  have HKI := Lib.hid hK
  have HN := Lib.hid hm
  have hmI : (m : Int) ≤ 9223372036854775807 := by have := maxLen_val; omega
  clear hk hK hm hml
  have hgb : (g == 1) = false := by simp; exact hg1
  have hmb : decide ((m : Int) ≤ 1) = false := decide_eq_false (by omega)
  clear hm0
  have hx := bx_new w ⟨20, v, tb, nm, n, A, m, c⟩
  obtain ⟨R, hR⟩ : ∃ R, (false && mayRL k ks g) = R := ⟨_, rfl⟩
  have HR := Lib.hid hR
  rw [hR]
  clear hR
  go_enter Try.func36, Try.ntmps36
  have HX := Lib.hid hx
  go_wp2
  go_loopw [8, 9] (fun ov i wr => ∃ (j : Nat) (ok : Bool), j ≤ m ∧ i = .int .i64 j ∧ ov = .bool ok ∧ (ok && mayRL k (ks.drop j) g) = R ∧ Bx w ⟨20, v, tb, nm, n, A, m, c⟩ wr) (fun _ i _ => m - (intOf i).toNat)
  case atStart => exact ⟨0, false, by omega, rfl, rfl, HR.out, HX.out⟩
  case round =>
    obtain ⟨j, ok, hj, rfl, rfl, heq, hb⟩ := hrel
    obtain ⟨c0, c1, c2, c3, c4, c5, c6, c7⟩ := bx_cells hb
    by_cases hjm : j < m
    · have hjl : j < ks.length := by have := HN.out; omega
      have hjx : (ks.map XT.ex)[j]? = some ks[j].ex := by rw [List.getElem?_map, List.getElem?_eq_getElem hjl]; rfl
      obtain ⟨b, o, rfl, hbl, hc⟩ := kids_get HKI.out (fun e => by rw [e] at hjx; simp at hjx)
      obtain ⟨a0, a1, a2, a3, a4, a5, a6, a7⟩ := cells8_below (hc j _ hjx) hb.2 hbl
      have hkc := HK.out j ks[j] (List.getElem?_eq_getElem hjl)
      have hd : ks.drop j = ks[j] :: ks.drop (j + 1) := List.drop_eq_getElem_cons hjl
      rw [hd, mayRL] at heq
      generalize ks[j] = y at *
      obtain ⟨yo, ⟨y1, y2, y3⟩, yt, yn, yN, yA, yc, yk⟩ := y
      simp only [XT.ex] at a0 a1 a2 a3 a4 a5 a6 a7
      generalize hbb : mayR k (XT.mk yo (y1, y2, y3) yt yn yN yA yc yk) g = bb at *
      have HKC := Lib.hid hkc
      have HB := Lib.hid hb
      clear hkc hd hjx hbl hc hbb hb
      cases ok
      · have HR2 := Lib.hid (show (false && mayRL k (ks.drop (j + 1)) g) = R by rw [← heq]; rfl)
        clear heq
        go_wp2
        go_roundw
        case rel => exact ⟨j + 1, false, by omega, by go_num, rfl, HR2.out, HB.out⟩
        case measure => simp [intOf]; omega
      · have HR2 := Lib.hid (show (bb && mayRL k (ks.drop (j + 1)) g) = R by rw [← heq]; simp)
        clear heq
        go_wp2_with fail
        refine (HKC.out _ HB.out.2).mono ?_
        rintro e w5 ⟨rfl, hb5⟩
        have HB5 := Lib.hid (bx_below HB.out hb5)
        clear hb5 HKC
        go_wp2
        go_roundw
        case rel => exact ⟨j + 1, bb, by omega, by go_num, rfl, HR2.out, HB5.out⟩
        case measure => simp [intOf]; omega
    · obtain rfl : j = m := by omega
      have HR2 := Lib.hid (show ok = R by rw [← heq, List.drop_of_length_le (by have := HN.out; omega)]; simp [mayRL])
      clear heq
      go_wp2
      go_ret
      exact ⟨by rw [HR2.out]; rfl, hb.2⟩
set_option maxRecDepth 100000 in
set_option maxHeartbeats 8000000 in
theorem rmay_20b_one (v : Val) (tb nm : ByteArray) (n : Int) (A : Option Addr) (m c : Nat) (ks : List XT) (k g : Int) (w : World) (hm : m = ks.length) (hml : m ≤ maxLen) (hK : Kids w w.heap.size A (ks.map XT.ex)) (hm0 : m ≤ 1) (hg1 : g = 1)
    (hk : ∀ (j : Nat) x, ks[j]? = some x → ∀ W, Below w.heap.size w W → Calls Try.prog 36 #[exV x.ex, .int .i64 k, .int .i64 0] W fun e w' => e = .returned (.bool (mayR k x 0)) ∧ Below W.heap.size W w') :
    Calls Try.prog 36 #[exV ⟨20, v, tb, nm, n, A, m, c⟩, .int .i64 k, .int .i64 g] w fun e w' => e = .returned (.bool (decide (0 < g) && mayRL k ks 0)) ∧ Below w.heap.size w w' := by
  have HK := Lib.hid hk
  have HKI := Lib.hid hK
  have HN := Lib.hid hm
  have hmI : (m : Int) ≤ 9223372036854775807 := by have := maxLen_val; omega
  clear hk hK hm hml
  subst hg1
  have hmb : decide ((m : Int) ≤ 1) = true := decide_eq_true (by omega)
  rw [show decide ((0 : Int) < 1) = true from rfl]
  have hx := bx_new w ⟨20, v, tb, nm, n, A, m, c⟩
  obtain ⟨R, hR⟩ : ∃ R, (true && mayRL k ks 0) = R := ⟨_, rfl⟩
  have HR := Lib.hid hR
  rw [hR]
  clear hR
  go_enter Try.func36, Try.ntmps36
  have HX := Lib.hid hx
  go_wp2
  go_loopw [8, 9] (fun ov i wr => ∃ (j : Nat) (ok : Bool), j ≤ m ∧ i = .int .i64 j ∧ ov = .bool ok ∧ (ok && mayRL k (ks.drop j) 0) = R ∧ Bx w ⟨20, v, tb, nm, n, A, m, c⟩ wr) (fun _ i _ => m - (intOf i).toNat)
  case atStart => exact ⟨0, true, by omega, rfl, rfl, HR.out, HX.out⟩
  case round =>
    obtain ⟨j, ok, hj, rfl, rfl, heq, hb⟩ := hrel
    obtain ⟨c0, c1, c2, c3, c4, c5, c6, c7⟩ := bx_cells hb
    by_cases hjm : j < m
    · have hjl : j < ks.length := by have := HN.out; omega
      have hjx : (ks.map XT.ex)[j]? = some ks[j].ex := by rw [List.getElem?_map, List.getElem?_eq_getElem hjl]; rfl
      obtain ⟨b, o, rfl, hbl, hc⟩ := kids_get HKI.out (fun e => by rw [e] at hjx; simp at hjx)
      obtain ⟨a0, a1, a2, a3, a4, a5, a6, a7⟩ := cells8_below (hc j _ hjx) hb.2 hbl
      have hkc := HK.out j ks[j] (List.getElem?_eq_getElem hjl)
      have hd : ks.drop j = ks[j] :: ks.drop (j + 1) := List.drop_eq_getElem_cons hjl
      rw [hd, mayRL] at heq
      generalize ks[j] = y at *
      obtain ⟨yo, ⟨y1, y2, y3⟩, yt, yn, yN, yA, yc, yk⟩ := y
      simp only [XT.ex] at a0 a1 a2 a3 a4 a5 a6 a7
      generalize hbb : mayR k (XT.mk yo (y1, y2, y3) yt yn yN yA yc yk) 0 = bb at *
      have HKC := Lib.hid hkc
      have HB := Lib.hid hb
      clear hkc hd hjx hbl hc hbb hb
      cases ok
      · have HR2 := Lib.hid (show (false && mayRL k (ks.drop (j + 1)) 0) = R by rw [← heq]; rfl)
        clear heq
        go_wp2
        go_roundw
        case rel => exact ⟨j + 1, false, by omega, by go_num, rfl, HR2.out, HB.out⟩
        case measure => simp [intOf]; omega
      · have HR2 := Lib.hid (show (bb && mayRL k (ks.drop (j + 1)) 0) = R by rw [← heq]; simp)
        clear heq
        go_wp2_with fail
        refine (HKC.out _ HB.out.2).mono ?_
        rintro e w5 ⟨rfl, hb5⟩
        have HB5 := Lib.hid (bx_below HB.out hb5)
        clear hb5 HKC
        go_wp2
        go_roundw
        case rel => exact ⟨j + 1, bb, by omega, by go_num, rfl, HR2.out, HB5.out⟩
        case measure => simp [intOf]; omega
    · obtain rfl : j = m := by omega
      have HR2 := Lib.hid (show ok = R by rw [← heq, List.drop_of_length_le (by have := HN.out; omega)]; simp [mayRL])
      clear heq
      go_wp2
      go_ret
      exact ⟨by rw [HR2.out]; rfl, hb.2⟩
set_option maxRecDepth 100000 in
set_option maxHeartbeats 8000000 in
theorem rmay_20b_not (v : Val) (tb nm : ByteArray) (n : Int) (A : Option Addr) (m c : Nat) (ks : List XT) (k g : Int) (w : World) (hm : m = ks.length) (hml : m ≤ maxLen) (hK : Kids w w.heap.size A (ks.map XT.ex)) (hm0 : m ≤ 1) (hg1 : ¬ g = 1)
    (hk : ∀ (j : Nat) x, ks[j]? = some x → ∀ W, Below w.heap.size w W → Calls Try.prog 36 #[exV x.ex, .int .i64 k, .int .i64 g] W fun e w' => e = .returned (.bool (mayR k x g)) ∧ Below W.heap.size W w') :
    Calls Try.prog 36 #[exV ⟨20, v, tb, nm, n, A, m, c⟩, .int .i64 k, .int .i64 g] w fun e w' => e = .returned (.bool (decide (0 < g) && mayRL k ks g)) ∧ Below w.heap.size w w' := by
  have HK := Lib.hid hk
  have HKI := Lib.hid hK
  have HN := Lib.hid hm
  have hmI : (m : Int) ≤ 9223372036854775807 := by have := maxLen_val; omega
  clear hk hK hm hml
  have hgb : (g == 1) = false := by simp; exact hg1
  have hmb : decide ((m : Int) ≤ 1) = true := decide_eq_true (by omega)
  obtain ⟨B, hB⟩ : ∃ B, decide (0 < g) = B := ⟨_, rfl⟩
  rw [hB]
  have hx := bx_new w ⟨20, v, tb, nm, n, A, m, c⟩
  obtain ⟨R, hR⟩ : ∃ R, (B && mayRL k ks g) = R := ⟨_, rfl⟩
  have HR := Lib.hid hR
  rw [hR]
  clear hR
  go_enter Try.func36, Try.ntmps36
  have HX := Lib.hid hx
  go_wp2
  go_loopw [8, 9] (fun ov i wr => ∃ (j : Nat) (ok : Bool), j ≤ m ∧ i = .int .i64 j ∧ ov = .bool ok ∧ (ok && mayRL k (ks.drop j) g) = R ∧ Bx w ⟨20, v, tb, nm, n, A, m, c⟩ wr) (fun _ i _ => m - (intOf i).toNat)
  case atStart => exact ⟨0, B, by omega, rfl, rfl, HR.out, HX.out⟩
  case round =>
    obtain ⟨j, ok, hj, rfl, rfl, heq, hb⟩ := hrel
    obtain ⟨c0, c1, c2, c3, c4, c5, c6, c7⟩ := bx_cells hb
    by_cases hjm : j < m
    · have hjl : j < ks.length := by have := HN.out; omega
      have hjx : (ks.map XT.ex)[j]? = some ks[j].ex := by rw [List.getElem?_map, List.getElem?_eq_getElem hjl]; rfl
      obtain ⟨b, o, rfl, hbl, hc⟩ := kids_get HKI.out (fun e => by rw [e] at hjx; simp at hjx)
      obtain ⟨a0, a1, a2, a3, a4, a5, a6, a7⟩ := cells8_below (hc j _ hjx) hb.2 hbl
      have hkc := HK.out j ks[j] (List.getElem?_eq_getElem hjl)
      have hd : ks.drop j = ks[j] :: ks.drop (j + 1) := List.drop_eq_getElem_cons hjl
      rw [hd, mayRL] at heq
      generalize ks[j] = y at *
      obtain ⟨yo, ⟨y1, y2, y3⟩, yt, yn, yN, yA, yc, yk⟩ := y
      simp only [XT.ex] at a0 a1 a2 a3 a4 a5 a6 a7
      generalize hbb : mayR k (XT.mk yo (y1, y2, y3) yt yn yN yA yc yk) g = bb at *
      have HKC := Lib.hid hkc
      have HB := Lib.hid hb
      clear hkc hd hjx hbl hc hbb hb
      cases ok
      · have HR2 := Lib.hid (show (false && mayRL k (ks.drop (j + 1)) g) = R by rw [← heq]; rfl)
        clear heq
        go_wp2
        go_roundw
        case rel => exact ⟨j + 1, false, by omega, by go_num, rfl, HR2.out, HB.out⟩
        case measure => simp [intOf]; omega
      · have HR2 := Lib.hid (show (bb && mayRL k (ks.drop (j + 1)) g) = R by rw [← heq]; simp)
        clear heq
        go_wp2_with fail
        refine (HKC.out _ HB.out.2).mono ?_
        rintro e w5 ⟨rfl, hb5⟩
        have HB5 := Lib.hid (bx_below HB.out hb5)
        clear hb5 HKC
        go_wp2
        go_roundw
        case rel => exact ⟨j + 1, bb, by omega, by go_num, rfl, HR2.out, HB5.out⟩
        case measure => simp [intOf]; omega
    · obtain rfl : j = m := by omega
      have HR2 := Lib.hid (show ok = R by rw [← heq, List.drop_of_length_le (by have := HN.out; omega)]; simp [mayRL])
      clear heq
      go_wp2
      go_ret
      exact ⟨by rw [HR2.out]; rfl, hb.2⟩
set_option maxRecDepth 100000 in
set_option maxHeartbeats 8000000 in
theorem rmay_21a_one (op : Int) (v : Val) (tb nm : ByteArray) (n : Int) (A : Option Addr) (m c : Nat) (ks : List XT) (k g : Int) (w : World) (hm : m = ks.length) (hml : m ≤ maxLen) (hK : Kids w w.heap.size A (ks.map XT.ex)) (h1 : 21 ≤ op) (h2 : op ≤ 23) (hm0 : ¬ m = 1) (hg1 : g = 1)
    (hk : ∀ (j : Nat) x, ks[j]? = some x → ∀ W, Below w.heap.size w W → Calls Try.prog 36 #[exV x.ex, .int .i64 k, .int .i64 0] W fun e w' => e = .returned (.bool (mayR k x 0)) ∧ Below W.heap.size W w') :
    Calls Try.prog 36 #[exV ⟨op, v, tb, nm, n, A, m, c⟩, .int .i64 k, .int .i64 g] w fun e w' => e = .returned (.bool (false && mayRL k ks 0)) ∧ Below w.heap.size w w' := by
  have HK := Lib.hid hk
  have HKI := Lib.hid hK
  have HN := Lib.hid hm
  have hmI : (m : Int) ≤ 9223372036854775807 := by have := maxLen_val; omega
  clear hk hK hm hml
  have e1 := beq_no (a := op) (b := 1) (by omega)
  have e2 := beq_no (a := op) (b := 2) (by omega)
  have e20 := beq_no (a := op) (b := 20) (by omega)
  have l3 : decide (3 ≤ op) = true := decide_eq_true (by omega)
  have l6 : decide (6 ≤ op) = true := decide_eq_true (by omega)
  have l21 : decide (21 ≤ op) = true := decide_eq_true (by omega)
  have l20 : decide (20 ≤ op) = true := decide_eq_true (by omega)
  have u5 : decide (op ≤ 5) = false := decide_eq_false (by omega)
  have u19 : decide (op ≤ 19) = false := decide_eq_false (by omega)
  have u23 : decide (op ≤ 23) = true := decide_eq_true (by omega)
  subst hg1
  have hmb : ((m : Int) == 1) = false := by simp; omega
  clear hm0
  have hx := bx_new w ⟨op, v, tb, nm, n, A, m, c⟩
  obtain ⟨R, hR⟩ : ∃ R, (false && mayRL k ks 0) = R := ⟨_, rfl⟩
  have HR := Lib.hid hR
  rw [hR]
  clear hR
  clear h1 h2
  go_enter Try.func36, Try.ntmps36
  have HX := Lib.hid hx
  go_wp2
  go_loopw [8, 9] (fun ov i wr => ∃ (j : Nat) (ok : Bool), j ≤ m ∧ i = .int .i64 j ∧ ov = .bool ok ∧ (ok && mayRL k (ks.drop j) 0) = R ∧ Bx w ⟨op, v, tb, nm, n, A, m, c⟩ wr) (fun _ i _ => m - (intOf i).toNat)
  case atStart => exact ⟨0, false, by omega, rfl, rfl, HR.out, HX.out⟩
  case round =>
    obtain ⟨j, ok, hj, rfl, rfl, heq, hb⟩ := hrel
    obtain ⟨c0, c1, c2, c3, c4, c5, c6, c7⟩ := bx_cells hb
    by_cases hjm : j < m
    · have hjl : j < ks.length := by have := HN.out; omega
      have hjx : (ks.map XT.ex)[j]? = some ks[j].ex := by rw [List.getElem?_map, List.getElem?_eq_getElem hjl]; rfl
      obtain ⟨b, o, rfl, hbl, hc⟩ := kids_get HKI.out (fun e => by rw [e] at hjx; simp at hjx)
      obtain ⟨a0, a1, a2, a3, a4, a5, a6, a7⟩ := cells8_below (hc j _ hjx) hb.2 hbl
      have hkc := HK.out j ks[j] (List.getElem?_eq_getElem hjl)
      have hd : ks.drop j = ks[j] :: ks.drop (j + 1) := List.drop_eq_getElem_cons hjl
      rw [hd, mayRL] at heq
      generalize ks[j] = y at *
      obtain ⟨yo, ⟨y1, y2, y3⟩, yt, yn, yN, yA, yc, yk⟩ := y
      simp only [XT.ex] at a0 a1 a2 a3 a4 a5 a6 a7
      generalize hbb : mayR k (XT.mk yo (y1, y2, y3) yt yn yN yA yc yk) 0 = bb at *
      have HKC := Lib.hid hkc
      have HB := Lib.hid hb
      clear hkc hd hjx hbl hc hbb hb
      cases ok
      · have HR2 := Lib.hid (show (false && mayRL k (ks.drop (j + 1)) 0) = R by rw [← heq]; rfl)
        clear heq
        go_wp2
        go_roundw
        case rel => exact ⟨j + 1, false, by omega, by go_num, rfl, HR2.out, HB.out⟩
        case measure => simp [intOf]; omega
      · have HR2 := Lib.hid (show (bb && mayRL k (ks.drop (j + 1)) 0) = R by rw [← heq]; simp)
        clear heq
        go_wp2_with fail
        refine (HKC.out _ HB.out.2).mono ?_
        rintro e w5 ⟨rfl, hb5⟩
        have HB5 := Lib.hid (bx_below HB.out hb5)
        clear hb5 HKC
        go_wp2
        go_roundw
        case rel => exact ⟨j + 1, bb, by omega, by go_num, rfl, HR2.out, HB5.out⟩
        case measure => simp [intOf]; omega
    · obtain rfl : j = m := by omega
      have HR2 := Lib.hid (show ok = R by rw [← heq, List.drop_of_length_le (by have := HN.out; omega)]; simp [mayRL])
      clear heq
      go_wp2
      go_ret
      exact ⟨by rw [HR2.out]; rfl, hb.2⟩
set_option maxRecDepth 100000 in
set_option maxHeartbeats 8000000 in
theorem rmay_21a_not (op : Int) (v : Val) (tb nm : ByteArray) (n : Int) (A : Option Addr) (m c : Nat) (ks : List XT) (k g : Int) (w : World) (hm : m = ks.length) (hml : m ≤ maxLen) (hK : Kids w w.heap.size A (ks.map XT.ex)) (h1 : 21 ≤ op) (h2 : op ≤ 23) (hm0 : ¬ m = 1) (hg1 : ¬ g = 1)
    (hk : ∀ (j : Nat) x, ks[j]? = some x → ∀ W, Below w.heap.size w W → Calls Try.prog 36 #[exV x.ex, .int .i64 k, .int .i64 g] W fun e w' => e = .returned (.bool (mayR k x g)) ∧ Below W.heap.size W w') :
    Calls Try.prog 36 #[exV ⟨op, v, tb, nm, n, A, m, c⟩, .int .i64 k, .int .i64 g] w fun e w' => e = .returned (.bool (false && mayRL k ks g)) ∧ Below w.heap.size w w' := by
  have HK := Lib.hid hk
  have HKI := Lib.hid hK
  have HN := Lib.hid hm
  have hmI : (m : Int) ≤ 9223372036854775807 := by have := maxLen_val; omega
  clear hk hK hm hml
  have e1 := beq_no (a := op) (b := 1) (by omega)
  have e2 := beq_no (a := op) (b := 2) (by omega)
  have e20 := beq_no (a := op) (b := 20) (by omega)
  have l3 : decide (3 ≤ op) = true := decide_eq_true (by omega)
  have l6 : decide (6 ≤ op) = true := decide_eq_true (by omega)
  have l21 : decide (21 ≤ op) = true := decide_eq_true (by omega)
  have l20 : decide (20 ≤ op) = true := decide_eq_true (by omega)
  have u5 : decide (op ≤ 5) = false := decide_eq_false (by omega)
  have u19 : decide (op ≤ 19) = false := decide_eq_false (by omega)
  have u23 : decide (op ≤ 23) = true := decide_eq_true (by omega)
  have hgb : (g == 1) = false := by simp; exact hg1
  have hmb : ((m : Int) == 1) = false := by simp; omega
  clear hm0
  have hx := bx_new w ⟨op, v, tb, nm, n, A, m, c⟩
  obtain ⟨R, hR⟩ : ∃ R, (false && mayRL k ks g) = R := ⟨_, rfl⟩
  have HR := Lib.hid hR
  rw [hR]
  clear hR
  clear h1 h2
  go_enter Try.func36, Try.ntmps36
  have HX := Lib.hid hx
  go_wp2
  go_loopw [8, 9] (fun ov i wr => ∃ (j : Nat) (ok : Bool), j ≤ m ∧ i = .int .i64 j ∧ ov = .bool ok ∧ (ok && mayRL k (ks.drop j) g) = R ∧ Bx w ⟨op, v, tb, nm, n, A, m, c⟩ wr) (fun _ i _ => m - (intOf i).toNat)
  case atStart => exact ⟨0, false, by omega, rfl, rfl, HR.out, HX.out⟩
  case round =>
    obtain ⟨j, ok, hj, rfl, rfl, heq, hb⟩ := hrel
    obtain ⟨c0, c1, c2, c3, c4, c5, c6, c7⟩ := bx_cells hb
    by_cases hjm : j < m
    · have hjl : j < ks.length := by have := HN.out; omega
      have hjx : (ks.map XT.ex)[j]? = some ks[j].ex := by rw [List.getElem?_map, List.getElem?_eq_getElem hjl]; rfl
      obtain ⟨b, o, rfl, hbl, hc⟩ := kids_get HKI.out (fun e => by rw [e] at hjx; simp at hjx)
      obtain ⟨a0, a1, a2, a3, a4, a5, a6, a7⟩ := cells8_below (hc j _ hjx) hb.2 hbl
      have hkc := HK.out j ks[j] (List.getElem?_eq_getElem hjl)
      have hd : ks.drop j = ks[j] :: ks.drop (j + 1) := List.drop_eq_getElem_cons hjl
      rw [hd, mayRL] at heq
      generalize ks[j] = y at *
      obtain ⟨yo, ⟨y1, y2, y3⟩, yt, yn, yN, yA, yc, yk⟩ := y
      simp only [XT.ex] at a0 a1 a2 a3 a4 a5 a6 a7
      generalize hbb : mayR k (XT.mk yo (y1, y2, y3) yt yn yN yA yc yk) g = bb at *
      have HKC := Lib.hid hkc
      have HB := Lib.hid hb
      clear hkc hd hjx hbl hc hbb hb
      cases ok
      · have HR2 := Lib.hid (show (false && mayRL k (ks.drop (j + 1)) g) = R by rw [← heq]; rfl)
        clear heq
        go_wp2
        go_roundw
        case rel => exact ⟨j + 1, false, by omega, by go_num, rfl, HR2.out, HB.out⟩
        case measure => simp [intOf]; omega
      · have HR2 := Lib.hid (show (bb && mayRL k (ks.drop (j + 1)) g) = R by rw [← heq]; simp)
        clear heq
        go_wp2_with fail
        refine (HKC.out _ HB.out.2).mono ?_
        rintro e w5 ⟨rfl, hb5⟩
        have HB5 := Lib.hid (bx_below HB.out hb5)
        clear hb5 HKC
        go_wp2
        go_roundw
        case rel => exact ⟨j + 1, bb, by omega, by go_num, rfl, HR2.out, HB5.out⟩
        case measure => simp [intOf]; omega
    · obtain rfl : j = m := by omega
      have HR2 := Lib.hid (show ok = R by rw [← heq, List.drop_of_length_le (by have := HN.out; omega)]; simp [mayRL])
      clear heq
      go_wp2
      go_ret
      exact ⟨by rw [HR2.out]; rfl, hb.2⟩
set_option maxRecDepth 100000 in
set_option maxHeartbeats 8000000 in
theorem rmay_21b_one (op : Int) (v : Val) (tb nm : ByteArray) (n : Int) (A : Option Addr) (m c : Nat) (ks : List XT) (k g : Int) (w : World) (hm : m = ks.length) (hml : m ≤ maxLen) (hK : Kids w w.heap.size A (ks.map XT.ex)) (h1 : 21 ≤ op) (h2 : op ≤ 23) (hm0 : m = 1) (hg1 : g = 1)
    (hk : ∀ (j : Nat) x, ks[j]? = some x → ∀ W, Below w.heap.size w W → Calls Try.prog 36 #[exV x.ex, .int .i64 k, .int .i64 0] W fun e w' => e = .returned (.bool (mayR k x 0)) ∧ Below W.heap.size W w') :
    Calls Try.prog 36 #[exV ⟨op, v, tb, nm, n, A, m, c⟩, .int .i64 k, .int .i64 g] w fun e w' => e = .returned (.bool (decide (0 < g) && mayRL k ks 0)) ∧ Below w.heap.size w w' := by
  have HK := Lib.hid hk
  have HKI := Lib.hid hK
  have HN := Lib.hid hm
  have hmI : (m : Int) ≤ 9223372036854775807 := by have := maxLen_val; omega
  clear hk hK hm hml
  have e1 := beq_no (a := op) (b := 1) (by omega)
  have e2 := beq_no (a := op) (b := 2) (by omega)
  have e20 := beq_no (a := op) (b := 20) (by omega)
  have l3 : decide (3 ≤ op) = true := decide_eq_true (by omega)
  have l6 : decide (6 ≤ op) = true := decide_eq_true (by omega)
  have l21 : decide (21 ≤ op) = true := decide_eq_true (by omega)
  have l20 : decide (20 ≤ op) = true := decide_eq_true (by omega)
  have u5 : decide (op ≤ 5) = false := decide_eq_false (by omega)
  have u19 : decide (op ≤ 19) = false := decide_eq_false (by omega)
  have u23 : decide (op ≤ 23) = true := decide_eq_true (by omega)
  subst hg1
  have hmb : ((m : Int) == 1) = true := by simp; omega
  clear hm0
  rw [show decide ((0 : Int) < 1) = true from rfl]
  have hx := bx_new w ⟨op, v, tb, nm, n, A, m, c⟩
  obtain ⟨R, hR⟩ : ∃ R, (true && mayRL k ks 0) = R := ⟨_, rfl⟩
  have HR := Lib.hid hR
  rw [hR]
  clear hR
  clear h1 h2
  go_enter Try.func36, Try.ntmps36
  have HX := Lib.hid hx
  go_wp2
  go_loopw [8, 9] (fun ov i wr => ∃ (j : Nat) (ok : Bool), j ≤ m ∧ i = .int .i64 j ∧ ov = .bool ok ∧ (ok && mayRL k (ks.drop j) 0) = R ∧ Bx w ⟨op, v, tb, nm, n, A, m, c⟩ wr) (fun _ i _ => m - (intOf i).toNat)
  case atStart => exact ⟨0, true, by omega, rfl, rfl, HR.out, HX.out⟩
  case round =>
    obtain ⟨j, ok, hj, rfl, rfl, heq, hb⟩ := hrel
    obtain ⟨c0, c1, c2, c3, c4, c5, c6, c7⟩ := bx_cells hb
    by_cases hjm : j < m
    · have hjl : j < ks.length := by have := HN.out; omega
      have hjx : (ks.map XT.ex)[j]? = some ks[j].ex := by rw [List.getElem?_map, List.getElem?_eq_getElem hjl]; rfl
      obtain ⟨b, o, rfl, hbl, hc⟩ := kids_get HKI.out (fun e => by rw [e] at hjx; simp at hjx)
      obtain ⟨a0, a1, a2, a3, a4, a5, a6, a7⟩ := cells8_below (hc j _ hjx) hb.2 hbl
      have hkc := HK.out j ks[j] (List.getElem?_eq_getElem hjl)
      have hd : ks.drop j = ks[j] :: ks.drop (j + 1) := List.drop_eq_getElem_cons hjl
      rw [hd, mayRL] at heq
      generalize ks[j] = y at *
      obtain ⟨yo, ⟨y1, y2, y3⟩, yt, yn, yN, yA, yc, yk⟩ := y
      simp only [XT.ex] at a0 a1 a2 a3 a4 a5 a6 a7
      generalize hbb : mayR k (XT.mk yo (y1, y2, y3) yt yn yN yA yc yk) 0 = bb at *
      have HKC := Lib.hid hkc
      have HB := Lib.hid hb
      clear hkc hd hjx hbl hc hbb hb
      cases ok
      · have HR2 := Lib.hid (show (false && mayRL k (ks.drop (j + 1)) 0) = R by rw [← heq]; rfl)
        clear heq
        go_wp2
        go_roundw
        case rel => exact ⟨j + 1, false, by omega, by go_num, rfl, HR2.out, HB.out⟩
        case measure => simp [intOf]; omega
      · have HR2 := Lib.hid (show (bb && mayRL k (ks.drop (j + 1)) 0) = R by rw [← heq]; simp)
        clear heq
        go_wp2_with fail
        refine (HKC.out _ HB.out.2).mono ?_
        rintro e w5 ⟨rfl, hb5⟩
        have HB5 := Lib.hid (bx_below HB.out hb5)
        clear hb5 HKC
        go_wp2
        go_roundw
        case rel => exact ⟨j + 1, bb, by omega, by go_num, rfl, HR2.out, HB5.out⟩
        case measure => simp [intOf]; omega
    · obtain rfl : j = m := by omega
      have HR2 := Lib.hid (show ok = R by rw [← heq, List.drop_of_length_le (by have := HN.out; omega)]; simp [mayRL])
      clear heq
      go_wp2
      go_ret
      exact ⟨by rw [HR2.out]; rfl, hb.2⟩
set_option maxRecDepth 100000 in
set_option maxHeartbeats 8000000 in
theorem rmay_21b_not (op : Int) (v : Val) (tb nm : ByteArray) (n : Int) (A : Option Addr) (m c : Nat) (ks : List XT) (k g : Int) (w : World) (hm : m = ks.length) (hml : m ≤ maxLen) (hK : Kids w w.heap.size A (ks.map XT.ex)) (h1 : 21 ≤ op) (h2 : op ≤ 23) (hm0 : m = 1) (hg1 : ¬ g = 1)
    (hk : ∀ (j : Nat) x, ks[j]? = some x → ∀ W, Below w.heap.size w W → Calls Try.prog 36 #[exV x.ex, .int .i64 k, .int .i64 g] W fun e w' => e = .returned (.bool (mayR k x g)) ∧ Below W.heap.size W w') :
    Calls Try.prog 36 #[exV ⟨op, v, tb, nm, n, A, m, c⟩, .int .i64 k, .int .i64 g] w fun e w' => e = .returned (.bool (decide (0 < g) && mayRL k ks g)) ∧ Below w.heap.size w w' := by
  have HK := Lib.hid hk
  have HKI := Lib.hid hK
  have HN := Lib.hid hm
  have hmI : (m : Int) ≤ 9223372036854775807 := by have := maxLen_val; omega
  clear hk hK hm hml
  have e1 := beq_no (a := op) (b := 1) (by omega)
  have e2 := beq_no (a := op) (b := 2) (by omega)
  have e20 := beq_no (a := op) (b := 20) (by omega)
  have l3 : decide (3 ≤ op) = true := decide_eq_true (by omega)
  have l6 : decide (6 ≤ op) = true := decide_eq_true (by omega)
  have l21 : decide (21 ≤ op) = true := decide_eq_true (by omega)
  have l20 : decide (20 ≤ op) = true := decide_eq_true (by omega)
  have u5 : decide (op ≤ 5) = false := decide_eq_false (by omega)
  have u19 : decide (op ≤ 19) = false := decide_eq_false (by omega)
  have u23 : decide (op ≤ 23) = true := decide_eq_true (by omega)
  have hgb : (g == 1) = false := by simp; exact hg1
  have hmb : ((m : Int) == 1) = true := by simp; omega
  clear hm0
  obtain ⟨B, hB⟩ : ∃ B, decide (0 < g) = B := ⟨_, rfl⟩
  rw [hB]
  have hx := bx_new w ⟨op, v, tb, nm, n, A, m, c⟩
  obtain ⟨R, hR⟩ : ∃ R, (B && mayRL k ks g) = R := ⟨_, rfl⟩
  have HR := Lib.hid hR
  rw [hR]
  clear hR
  clear h1 h2
  go_enter Try.func36, Try.ntmps36
  have HX := Lib.hid hx
  go_wp2
  go_loopw [8, 9] (fun ov i wr => ∃ (j : Nat) (ok : Bool), j ≤ m ∧ i = .int .i64 j ∧ ov = .bool ok ∧ (ok && mayRL k (ks.drop j) g) = R ∧ Bx w ⟨op, v, tb, nm, n, A, m, c⟩ wr) (fun _ i _ => m - (intOf i).toNat)
  case atStart => exact ⟨0, B, by omega, rfl, rfl, HR.out, HX.out⟩
  case round =>
    obtain ⟨j, ok, hj, rfl, rfl, heq, hb⟩ := hrel
    obtain ⟨c0, c1, c2, c3, c4, c5, c6, c7⟩ := bx_cells hb
    by_cases hjm : j < m
    · have hjl : j < ks.length := by have := HN.out; omega
      have hjx : (ks.map XT.ex)[j]? = some ks[j].ex := by rw [List.getElem?_map, List.getElem?_eq_getElem hjl]; rfl
      obtain ⟨b, o, rfl, hbl, hc⟩ := kids_get HKI.out (fun e => by rw [e] at hjx; simp at hjx)
      obtain ⟨a0, a1, a2, a3, a4, a5, a6, a7⟩ := cells8_below (hc j _ hjx) hb.2 hbl
      have hkc := HK.out j ks[j] (List.getElem?_eq_getElem hjl)
      have hd : ks.drop j = ks[j] :: ks.drop (j + 1) := List.drop_eq_getElem_cons hjl
      rw [hd, mayRL] at heq
      generalize ks[j] = y at *
      obtain ⟨yo, ⟨y1, y2, y3⟩, yt, yn, yN, yA, yc, yk⟩ := y
      simp only [XT.ex] at a0 a1 a2 a3 a4 a5 a6 a7
      generalize hbb : mayR k (XT.mk yo (y1, y2, y3) yt yn yN yA yc yk) g = bb at *
      have HKC := Lib.hid hkc
      have HB := Lib.hid hb
      clear hkc hd hjx hbl hc hbb hb
      cases ok
      · have HR2 := Lib.hid (show (false && mayRL k (ks.drop (j + 1)) g) = R by rw [← heq]; rfl)
        clear heq
        go_wp2
        go_roundw
        case rel => exact ⟨j + 1, false, by omega, by go_num, rfl, HR2.out, HB.out⟩
        case measure => simp [intOf]; omega
      · have HR2 := Lib.hid (show (bb && mayRL k (ks.drop (j + 1)) g) = R by rw [← heq]; simp)
        clear heq
        go_wp2_with fail
        refine (HKC.out _ HB.out.2).mono ?_
        rintro e w5 ⟨rfl, hb5⟩
        have HB5 := Lib.hid (bx_below HB.out hb5)
        clear hb5 HKC
        go_wp2
        go_roundw
        case rel => exact ⟨j + 1, bb, by omega, by go_num, rfl, HR2.out, HB5.out⟩
        case measure => simp [intOf]; omega
    · obtain rfl : j = m := by omega
      have HR2 := Lib.hid (show ok = R by rw [← heq, List.drop_of_length_le (by have := HN.out; omega)]; simp [mayRL])
      clear heq
      go_wp2
      go_ret
      exact ⟨by rw [HR2.out]; rfl, hb.2⟩
set_option maxRecDepth 100000 in
set_option maxHeartbeats 8000000 in
theorem rmay_lo (op : Int) (v : Val) (tb nm : ByteArray) (n : Int) (A : Option Addr) (m c : Nat) (ks : List XT) (k g : Int) (w : World) (hm : m = ks.length) (hml : m ≤ maxLen) (hK : Kids w w.heap.size A (ks.map XT.ex)) (h2 : op < 1)
    (hk : ∀ (j : Nat) x, ks[j]? = some x → ∀ W, Below w.heap.size w W → Calls Try.prog 36 #[exV x.ex, .int .i64 k, .int .i64 g] W fun e w' => e = .returned (.bool (mayR k x g)) ∧ Below W.heap.size W w') :
    Calls Try.prog 36 #[exV ⟨op, v, tb, nm, n, A, m, c⟩, .int .i64 k, .int .i64 g] w fun e w' => e = .returned (.bool (false && mayRL k ks g)) ∧ Below w.heap.size w w' := by
  have HK := Lib.hid hk
  have HKI := Lib.hid hK
  have HN := Lib.hid hm
  have hmI : (m : Int) ≤ 9223372036854775807 := by have := maxLen_val; omega
  clear hk hK hm hml
  have e1 := beq_no (a := op) (b := 1) (by omega)
  have e2 := beq_no (a := op) (b := 2) (by omega)
  have e20 := beq_no (a := op) (b := 20) (by omega)
  have l3 : decide (3 ≤ op) = false := decide_eq_false (by omega)
  have l6 : decide (6 ≤ op) = false := decide_eq_false (by omega)
  have l21 : decide (21 ≤ op) = false := decide_eq_false (by omega)
  have l20 : decide (20 ≤ op) = false := decide_eq_false (by omega)
  have u5 : decide (op ≤ 5) = true := decide_eq_true (by omega)
  have u19 : decide (op ≤ 19) = true := decide_eq_true (by omega)
  have u23 : decide (op ≤ 23) = true := decide_eq_true (by omega)
  have hx := bx_new w ⟨op, v, tb, nm, n, A, m, c⟩
  obtain ⟨R, hR⟩ : ∃ R, (false && mayRL k ks g) = R := ⟨_, rfl⟩
  have HR := Lib.hid hR
  rw [hR]
  clear hR
  clear h2
  go_enter Try.func36, Try.ntmps36
  have HX := Lib.hid hx
  go_wp2
  go_loopw [8, 9] (fun ov i wr => ∃ (j : Nat) (ok : Bool), j ≤ m ∧ i = .int .i64 j ∧ ov = .bool ok ∧ (ok && mayRL k (ks.drop j) g) = R ∧ Bx w ⟨op, v, tb, nm, n, A, m, c⟩ wr) (fun _ i _ => m - (intOf i).toNat)
  case atStart => exact ⟨0, false, by omega, rfl, rfl, HR.out, HX.out⟩
  case round =>
    obtain ⟨j, ok, hj, rfl, rfl, heq, hb⟩ := hrel
    obtain ⟨c0, c1, c2, c3, c4, c5, c6, c7⟩ := bx_cells hb
    by_cases hjm : j < m
    · have hjl : j < ks.length := by have := HN.out; omega
      have hjx : (ks.map XT.ex)[j]? = some ks[j].ex := by rw [List.getElem?_map, List.getElem?_eq_getElem hjl]; rfl
      obtain ⟨b, o, rfl, hbl, hc⟩ := kids_get HKI.out (fun e => by rw [e] at hjx; simp at hjx)
      obtain ⟨a0, a1, a2, a3, a4, a5, a6, a7⟩ := cells8_below (hc j _ hjx) hb.2 hbl
      have hkc := HK.out j ks[j] (List.getElem?_eq_getElem hjl)
      have hd : ks.drop j = ks[j] :: ks.drop (j + 1) := List.drop_eq_getElem_cons hjl
      rw [hd, mayRL] at heq
      generalize ks[j] = y at *
      obtain ⟨yo, ⟨y1, y2, y3⟩, yt, yn, yN, yA, yc, yk⟩ := y
      simp only [XT.ex] at a0 a1 a2 a3 a4 a5 a6 a7
      generalize hbb : mayR k (XT.mk yo (y1, y2, y3) yt yn yN yA yc yk) g = bb at *
      have HKC := Lib.hid hkc
      have HB := Lib.hid hb
      clear hkc hd hjx hbl hc hbb hb
      cases ok
      · have HR2 := Lib.hid (show (false && mayRL k (ks.drop (j + 1)) g) = R by rw [← heq]; rfl)
        clear heq
        go_wp2
        go_roundw
        case rel => exact ⟨j + 1, false, by omega, by go_num, rfl, HR2.out, HB.out⟩
        case measure => simp [intOf]; omega
      · have HR2 := Lib.hid (show (bb && mayRL k (ks.drop (j + 1)) g) = R by rw [← heq]; simp)
        clear heq
        go_wp2_with fail
        refine (HKC.out _ HB.out.2).mono ?_
        rintro e w5 ⟨rfl, hb5⟩
        have HB5 := Lib.hid (bx_below HB.out hb5)
        clear hb5 HKC
        go_wp2
        go_roundw
        case rel => exact ⟨j + 1, bb, by omega, by go_num, rfl, HR2.out, HB5.out⟩
        case measure => simp [intOf]; omega
    · obtain rfl : j = m := by omega
      have HR2 := Lib.hid (show ok = R by rw [← heq, List.drop_of_length_le (by have := HN.out; omega)]; simp [mayRL])
      clear heq
      go_wp2
      go_ret
      exact ⟨by rw [HR2.out]; rfl, hb.2⟩
set_option maxRecDepth 100000 in
set_option maxHeartbeats 8000000 in
theorem rmay_hi_one (op : Int) (v : Val) (tb nm : ByteArray) (n : Int) (A : Option Addr) (m c : Nat) (ks : List XT) (k g : Int) (w : World) (hm : m = ks.length) (hml : m ≤ maxLen) (hK : Kids w w.heap.size A (ks.map XT.ex)) (h1 : 23 < op) (hg1 : g = 1)
    (hk : ∀ (j : Nat) x, ks[j]? = some x → ∀ W, Below w.heap.size w W → Calls Try.prog 36 #[exV x.ex, .int .i64 k, .int .i64 0] W fun e w' => e = .returned (.bool (mayR k x 0)) ∧ Below W.heap.size W w') :
    Calls Try.prog 36 #[exV ⟨op, v, tb, nm, n, A, m, c⟩, .int .i64 k, .int .i64 g] w fun e w' => e = .returned (.bool (false && mayRL k ks 0)) ∧ Below w.heap.size w w' := by
  have HK := Lib.hid hk
  have HKI := Lib.hid hK
  have HN := Lib.hid hm
  have hmI : (m : Int) ≤ 9223372036854775807 := by have := maxLen_val; omega
  clear hk hK hm hml
  have e1 := beq_no (a := op) (b := 1) (by omega)
  have e2 := beq_no (a := op) (b := 2) (by omega)
  have e20 := beq_no (a := op) (b := 20) (by omega)
  have l3 : decide (3 ≤ op) = true := decide_eq_true (by omega)
  have l6 : decide (6 ≤ op) = true := decide_eq_true (by omega)
  have l21 : decide (21 ≤ op) = true := decide_eq_true (by omega)
  have l20 : decide (20 ≤ op) = true := decide_eq_true (by omega)
  have u5 : decide (op ≤ 5) = false := decide_eq_false (by omega)
  have u19 : decide (op ≤ 19) = false := decide_eq_false (by omega)
  have u23 : decide (op ≤ 23) = false := decide_eq_false (by omega)
  subst hg1
  have hx := bx_new w ⟨op, v, tb, nm, n, A, m, c⟩
  obtain ⟨R, hR⟩ : ∃ R, (false && mayRL k ks 0) = R := ⟨_, rfl⟩
  have HR := Lib.hid hR
  rw [hR]
  clear hR
  clear h1
  go_enter Try.func36, Try.ntmps36
  have HX := Lib.hid hx
  go_wp2
  go_loopw [8, 9] (fun ov i wr => ∃ (j : Nat) (ok : Bool), j ≤ m ∧ i = .int .i64 j ∧ ov = .bool ok ∧ (ok && mayRL k (ks.drop j) 0) = R ∧ Bx w ⟨op, v, tb, nm, n, A, m, c⟩ wr) (fun _ i _ => m - (intOf i).toNat)
  case atStart => exact ⟨0, false, by omega, rfl, rfl, HR.out, HX.out⟩
  case round =>
    obtain ⟨j, ok, hj, rfl, rfl, heq, hb⟩ := hrel
    obtain ⟨c0, c1, c2, c3, c4, c5, c6, c7⟩ := bx_cells hb
    by_cases hjm : j < m
    · have hjl : j < ks.length := by have := HN.out; omega
      have hjx : (ks.map XT.ex)[j]? = some ks[j].ex := by rw [List.getElem?_map, List.getElem?_eq_getElem hjl]; rfl
      obtain ⟨b, o, rfl, hbl, hc⟩ := kids_get HKI.out (fun e => by rw [e] at hjx; simp at hjx)
      obtain ⟨a0, a1, a2, a3, a4, a5, a6, a7⟩ := cells8_below (hc j _ hjx) hb.2 hbl
      have hkc := HK.out j ks[j] (List.getElem?_eq_getElem hjl)
      have hd : ks.drop j = ks[j] :: ks.drop (j + 1) := List.drop_eq_getElem_cons hjl
      rw [hd, mayRL] at heq
      generalize ks[j] = y at *
      obtain ⟨yo, ⟨y1, y2, y3⟩, yt, yn, yN, yA, yc, yk⟩ := y
      simp only [XT.ex] at a0 a1 a2 a3 a4 a5 a6 a7
      generalize hbb : mayR k (XT.mk yo (y1, y2, y3) yt yn yN yA yc yk) 0 = bb at *
      have HKC := Lib.hid hkc
      have HB := Lib.hid hb
      clear hkc hd hjx hbl hc hbb hb
      cases ok
      · have HR2 := Lib.hid (show (false && mayRL k (ks.drop (j + 1)) 0) = R by rw [← heq]; rfl)
        clear heq
        go_wp2
        go_roundw
        case rel => exact ⟨j + 1, false, by omega, by go_num, rfl, HR2.out, HB.out⟩
        case measure => simp [intOf]; omega
      · have HR2 := Lib.hid (show (bb && mayRL k (ks.drop (j + 1)) 0) = R by rw [← heq]; simp)
        clear heq
        go_wp2_with fail
        refine (HKC.out _ HB.out.2).mono ?_
        rintro e w5 ⟨rfl, hb5⟩
        have HB5 := Lib.hid (bx_below HB.out hb5)
        clear hb5 HKC
        go_wp2
        go_roundw
        case rel => exact ⟨j + 1, bb, by omega, by go_num, rfl, HR2.out, HB5.out⟩
        case measure => simp [intOf]; omega
    · obtain rfl : j = m := by omega
      have HR2 := Lib.hid (show ok = R by rw [← heq, List.drop_of_length_le (by have := HN.out; omega)]; simp [mayRL])
      clear heq
      go_wp2
      go_ret
      exact ⟨by rw [HR2.out]; rfl, hb.2⟩
set_option maxRecDepth 100000 in
set_option maxHeartbeats 8000000 in
theorem rmay_hi_not (op : Int) (v : Val) (tb nm : ByteArray) (n : Int) (A : Option Addr) (m c : Nat) (ks : List XT) (k g : Int) (w : World) (hm : m = ks.length) (hml : m ≤ maxLen) (hK : Kids w w.heap.size A (ks.map XT.ex)) (h1 : 23 < op) (hg1 : ¬ g = 1)
    (hk : ∀ (j : Nat) x, ks[j]? = some x → ∀ W, Below w.heap.size w W → Calls Try.prog 36 #[exV x.ex, .int .i64 k, .int .i64 g] W fun e w' => e = .returned (.bool (mayR k x g)) ∧ Below W.heap.size W w') :
    Calls Try.prog 36 #[exV ⟨op, v, tb, nm, n, A, m, c⟩, .int .i64 k, .int .i64 g] w fun e w' => e = .returned (.bool (false && mayRL k ks g)) ∧ Below w.heap.size w w' := by
  have HK := Lib.hid hk
  have HKI := Lib.hid hK
  have HN := Lib.hid hm
  have hmI : (m : Int) ≤ 9223372036854775807 := by have := maxLen_val; omega
  clear hk hK hm hml
  have e1 := beq_no (a := op) (b := 1) (by omega)
  have e2 := beq_no (a := op) (b := 2) (by omega)
  have e20 := beq_no (a := op) (b := 20) (by omega)
  have l3 : decide (3 ≤ op) = true := decide_eq_true (by omega)
  have l6 : decide (6 ≤ op) = true := decide_eq_true (by omega)
  have l21 : decide (21 ≤ op) = true := decide_eq_true (by omega)
  have l20 : decide (20 ≤ op) = true := decide_eq_true (by omega)
  have u5 : decide (op ≤ 5) = false := decide_eq_false (by omega)
  have u19 : decide (op ≤ 19) = false := decide_eq_false (by omega)
  have u23 : decide (op ≤ 23) = false := decide_eq_false (by omega)
  have hgb : (g == 1) = false := by simp; exact hg1
  have hx := bx_new w ⟨op, v, tb, nm, n, A, m, c⟩
  obtain ⟨R, hR⟩ : ∃ R, (false && mayRL k ks g) = R := ⟨_, rfl⟩
  have HR := Lib.hid hR
  rw [hR]
  clear hR
  clear h1
  go_enter Try.func36, Try.ntmps36
  have HX := Lib.hid hx
  go_wp2
  go_loopw [8, 9] (fun ov i wr => ∃ (j : Nat) (ok : Bool), j ≤ m ∧ i = .int .i64 j ∧ ov = .bool ok ∧ (ok && mayRL k (ks.drop j) g) = R ∧ Bx w ⟨op, v, tb, nm, n, A, m, c⟩ wr) (fun _ i _ => m - (intOf i).toNat)
  case atStart => exact ⟨0, false, by omega, rfl, rfl, HR.out, HX.out⟩
  case round =>
    obtain ⟨j, ok, hj, rfl, rfl, heq, hb⟩ := hrel
    obtain ⟨c0, c1, c2, c3, c4, c5, c6, c7⟩ := bx_cells hb
    by_cases hjm : j < m
    · have hjl : j < ks.length := by have := HN.out; omega
      have hjx : (ks.map XT.ex)[j]? = some ks[j].ex := by rw [List.getElem?_map, List.getElem?_eq_getElem hjl]; rfl
      obtain ⟨b, o, rfl, hbl, hc⟩ := kids_get HKI.out (fun e => by rw [e] at hjx; simp at hjx)
      obtain ⟨a0, a1, a2, a3, a4, a5, a6, a7⟩ := cells8_below (hc j _ hjx) hb.2 hbl
      have hkc := HK.out j ks[j] (List.getElem?_eq_getElem hjl)
      have hd : ks.drop j = ks[j] :: ks.drop (j + 1) := List.drop_eq_getElem_cons hjl
      rw [hd, mayRL] at heq
      generalize ks[j] = y at *
      obtain ⟨yo, ⟨y1, y2, y3⟩, yt, yn, yN, yA, yc, yk⟩ := y
      simp only [XT.ex] at a0 a1 a2 a3 a4 a5 a6 a7
      generalize hbb : mayR k (XT.mk yo (y1, y2, y3) yt yn yN yA yc yk) g = bb at *
      have HKC := Lib.hid hkc
      have HB := Lib.hid hb
      clear hkc hd hjx hbl hc hbb hb
      cases ok
      · have HR2 := Lib.hid (show (false && mayRL k (ks.drop (j + 1)) g) = R by rw [← heq]; rfl)
        clear heq
        go_wp2
        go_roundw
        case rel => exact ⟨j + 1, false, by omega, by go_num, rfl, HR2.out, HB.out⟩
        case measure => simp [intOf]; omega
      · have HR2 := Lib.hid (show (bb && mayRL k (ks.drop (j + 1)) g) = R by rw [← heq]; simp)
        clear heq
        go_wp2_with fail
        refine (HKC.out _ HB.out.2).mono ?_
        rintro e w5 ⟨rfl, hb5⟩
        have HB5 := Lib.hid (bx_below HB.out hb5)
        clear hb5 HKC
        go_wp2
        go_roundw
        case rel => exact ⟨j + 1, bb, by omega, by go_num, rfl, HR2.out, HB5.out⟩
        case measure => simp [intOf]; omega
    · obtain rfl : j = m := by omega
      have HR2 := Lib.hid (show ok = R by rw [← heq, List.drop_of_length_le (by have := HN.out; omega)]; simp [mayRL])
      clear heq
      go_wp2
      go_ret
      exact ⟨by rw [HR2.out]; rfl, hb.2⟩
theorem dec_nat (m k : Nat) : decide (m = k) = ((m : Int) == (k : Int)) := by
  by_cases h : m = k
  · subst h; simp
  · rw [decide_eq_false h]; symm; simp; omega
/-- ref15's May, of any expression -/
theorem rmay_tree (k : Int) (T : XT) : ∀ (w : World) (g : Int), InT w w.heap.size T →
    Calls Try.prog 36 #[exV T.ex, .int .i64 k, .int .i64 g] w fun e w' => e = .returned (.bool (mayR k T g)) ∧ Below w.heap.size w w' := by
  induction T using xt_ind with
  | h op v tb nm n A c ks ih =>
    intro w g hin
    cases hin with
    | mk _ _ _ _ _ _ _ _ h0 h1 h2 h3 h4 hk hi =>
    have IHK : ∀ g1 (j : Nat) x, ks[j]? = some x → ∀ W, Below w.heap.size w W → Calls Try.prog 36 #[exV x.ex, .int .i64 k, .int .i64 g1] W fun e w' => e = .returned (.bool (mayR k x g1)) ∧ Below W.heap.size W w' := fun g1 j x hx W hW =>
      ih x (List.mem_of_getElem? hx) W g1 (int_step (hi x (List.mem_of_getElem? hx)) hW)
    show Calls Try.prog 36 #[exV ⟨op, v, tb, nm, n, A, ks.length, c⟩, .int .i64 k, .int .i64 g] w _
    rw [mayR]
    by_cases o1 : op = 1
    · subst o1
      rw [if_neg (show ¬ ((20 : Int) ≤ 1 ∧ g = 1) by omega)]
      by_cases hm0 : ks.length = 0
      · rw [show mayRh 1 v n ks.length k g = decide (chk v = 0) by unfold mayRh; simp [hm0]]
        exact rmay_1a v tb nm n A ks.length c ks k g w rfl h4 hk hm0 h1 (IHK g)
      · rw [show mayRh 1 v n ks.length k g = false by unfold mayRh; rw [if_pos rfl, decide_eq_false hm0]; rfl]
        exact rmay_1b v tb nm n A ks.length c ks k g w rfl h4 hk hm0 (IHK g)
    by_cases o2 : op = 2
    · subst o2
      rw [if_neg (show ¬ ((20 : Int) ≤ 2 ∧ g = 1) by omega)]
      have e : mayRh 2 v n ks.length k g = decide (ks.length = 0 ∧ 0 ≤ n ∧ n < k) := by unfold mayRh; rw [if_neg (by omega), if_pos rfl]
      rw [e]
      by_cases hm0 : ks.length = 0
      · by_cases hn : 0 ≤ n
        · rw [show decide (ks.length = 0 ∧ 0 ≤ n ∧ n < k) = decide (n < k) by simp [hm0, hn]]
          exact rmay_2c v tb nm n A ks.length c ks k g w rfl h4 hk hm0 hn (IHK g)
        · rw [show decide (ks.length = 0 ∧ 0 ≤ n ∧ n < k) = false by simp [hn]]
          exact rmay_2b v tb nm n A ks.length c ks k g w rfl h4 hk hm0 (by omega) (IHK g)
      · rw [show decide (ks.length = 0 ∧ 0 ≤ n ∧ n < k) = false by rw [decide_eq_false]; exact fun h => hm0 h.1]
        exact rmay_2a v tb nm n A ks.length c ks k g w rfl h4 hk hm0 (IHK g)
    by_cases o3 : 3 ≤ op ∧ op ≤ 5
    · rw [if_neg (show ¬ (20 ≤ op ∧ g = 1) by omega), show mayRh op v n ks.length k g = ((ks.length : Int) == 1) by unfold mayRh; rw [if_neg o1, if_neg o2, if_pos o3]; exact dec_nat _ 1]
      exact rmay_3 op v tb nm n A ks.length c ks k g w rfl h4 hk o3.1 o3.2 (IHK g)
    by_cases o6 : 6 ≤ op ∧ op ≤ 19
    · rw [if_neg (show ¬ (20 ≤ op ∧ g = 1) by omega), show mayRh op v n ks.length k g = ((ks.length : Int) == 2) by unfold mayRh; rw [if_neg o1, if_neg o2, if_neg o3, if_pos o6]; exact dec_nat _ 2]
      exact rmay_6 op v tb nm n A ks.length c ks k g w rfl h4 hk o6.1 o6.2 (IHK g)
    by_cases olo : op < 1
    · rw [if_neg (show ¬ (20 ≤ op ∧ g = 1) by omega), show mayRh op v n ks.length k g = false by unfold mayRh; rw [if_neg o1, if_neg o2, if_neg o3, if_neg o6, if_neg (by omega), if_neg (by omega)]]
      exact rmay_lo op v tb nm n A ks.length c ks k g w rfl h4 hk olo (IHK g)
    have e20 : mayRh op v n ks.length k g = if op = 20 then decide (ks.length ≤ 1 ∧ 0 < g) else if 21 ≤ op ∧ op ≤ 23 then decide (ks.length = 1 ∧ 0 < g) else false := by unfold mayRh; rw [if_neg o1, if_neg o2, if_neg o3, if_neg o6]
    rw [e20]
    by_cases hg1 : g = 1
    all_goals
      first
        | rw [if_pos (show 20 ≤ op ∧ g = 1 from ⟨by omega, hg1⟩)]
        | rw [if_neg (show ¬ (20 ≤ op ∧ g = 1) from fun h => hg1 h.2)]
      by_cases o20 : op = 20
      · subst o20
        rw [if_pos rfl]
        by_cases hm0 : ks.length ≤ 1
        · rw [show decide (ks.length ≤ 1 ∧ 0 < g) = decide (0 < g) by simp [hm0]]
          first
            | exact rmay_20b_one v tb nm n A ks.length c ks k g w rfl h4 hk hm0 hg1 (IHK 0)
            | exact rmay_20b_not v tb nm n A ks.length c ks k g w rfl h4 hk hm0 hg1 (IHK g)
        · rw [show decide (ks.length ≤ 1 ∧ 0 < g) = false by rw [decide_eq_false]; exact fun h => hm0 h.1]
          first
            | exact rmay_20a_one v tb nm n A ks.length c ks k g w rfl h4 hk (by omega) hg1 (IHK 0)
            | exact rmay_20a_not v tb nm n A ks.length c ks k g w rfl h4 hk (by omega) hg1 (IHK g)
      rw [if_neg o20]
      by_cases o21 : 21 ≤ op ∧ op ≤ 23
      · rw [if_pos o21]
        by_cases hm0 : ks.length = 1
        · rw [show decide (ks.length = 1 ∧ 0 < g) = decide (0 < g) by simp [hm0]]
          first
            | exact rmay_21b_one op v tb nm n A ks.length c ks k g w rfl h4 hk o21.1 o21.2 hm0 hg1 (IHK 0)
            | exact rmay_21b_not op v tb nm n A ks.length c ks k g w rfl h4 hk o21.1 o21.2 hm0 hg1 (IHK g)
        · rw [show decide (ks.length = 1 ∧ 0 < g) = false by rw [decide_eq_false]; exact fun h => hm0 h.1]
          first
            | exact rmay_21a_one op v tb nm n A ks.length c ks k g w rfl h4 hk o21.1 o21.2 hm0 hg1 (IHK 0)
            | exact rmay_21a_not op v tb nm n A ks.length c ks k g w rfl h4 hk o21.1 o21.2 hm0 hg1 (IHK g)
      rw [if_neg o21]
      first
        | exact rmay_hi_one op v tb nm n A ks.length c ks k g w rfl h4 hk (by omega) hg1 (IHK 0)
        | exact rmay_hi_not op v tb nm n A ks.length c ks k g w rfl h4 hk (by omega) hg1 (IHK g)
end Go.Proofs.Ytkgpcodccpckeaa
