/- The document's own Check, Put of rows; record.Size. Conditions: the numbers fit their kinds, a text is no longer than a machine has addresses. -/
import Derived.Test.YtocbdehcjcggeaaProg
import Derived.Test.YtocbdehcjcggeaaRec1
import Derived.Test.YtocbdehcjcggeaaRefPut
namespace Go.Proofs.Ytocbdehcjcggeaa
open Go.RowKit
set_option linter.unusedVariables false
theorem str_em {s : ByteArray} (h : s.size ≠ 0) : s.toList.isEmpty = false := by
  have := str_no h
  cases hh : s.toList with
  | nil => exact absurd hh this
  | cons a l => rfl
theorem bne_yes {a b : Int} (h : ¬ a = b) : (a != b) = true := by rw [bne_iff_ne]; exact h
set_option maxRecDepth 100000 in
set_option maxHeartbeats 2000000 in
theorem refCheck0 (n : Int) (s : ByteArray) (w : World) :
    Calls Try.prog 107 #[valV (0, n, s)] w fun e w' => e = .returned (.int .i64 (chk (0, n, s))) ∧ Below w.heap.size w w' := by
  have hb1 : ∀ {o : Obj}, Below w.heap.size w (w.alloc o) := (Below.refl _ _).alloc (Nat.le_refl _) _
  by_cases h1 : n = 0
  · by_cases h2 : s.size = 0
    · subst h1
      obtain rfl := empty_of h2
      have HC := Lib.hid (show chk (0, 0, bstr []) = 0 by decide)
      rw [show (bstr [] : ByteArray) = ⟨#[]⟩ from rfl] at *
      go_enter Try.func107, Try.ntmps107
      go_wp2
      go_ret
      exact ⟨rint HC.out.symm, hb1⟩
    · have HC := Lib.hid (chk_bad (x := (0, n, s)) (by simp only; omega))
      have e := str_no h2
      have e' := str_em h2
      subst h1
      clear h2
      go_enter Try.func107, Try.ntmps107
      go_wp2
      go_ret
      exact ⟨rint HC.out.symm, hb1⟩
  · have HC := Lib.hid (chk_bad (x := (0, n, s)) (by simp only; omega))
    have e := beq_no h1
    have e' := bne_yes h1
    clear h1
    go_enter Try.func107, Try.ntmps107
    go_wp2
    go_ret
    exact ⟨rint HC.out.symm, hb1⟩
set_option maxRecDepth 100000 in
set_option maxHeartbeats 2000000 in
theorem refCheck1 (n : Int) (s : ByteArray) (w : World) :
    Calls Try.prog 107 #[valV (1, n, s)] w fun e w' => e = .returned (.int .i64 (chk (1, n, s))) ∧ Below w.heap.size w w' := by
  have hb1 : ∀ {o : Obj}, Below w.heap.size w (w.alloc o) := (Below.refl _ _).alloc (Nat.le_refl _) _
  by_cases h2 : s.size = 0
  · obtain rfl := empty_of h2
    have HC := Lib.hid (chk_ok (x := (1, n, bstr [])) (by simp only; omega) (by simp only; omega))
    rw [show (bstr [] : ByteArray) = ⟨#[]⟩ from rfl] at *
    go_enter Try.func107, Try.ntmps107
    go_wp2
    go_ret
    exact ⟨rint HC.out.symm, hb1⟩
  · have HC := Lib.hid (chk_bad (x := (1, n, s)) (by simp only; omega))
    have e := str_no h2
    have e' := str_em h2
    clear h2
    go_enter Try.func107, Try.ntmps107
    go_wp2
    go_ret
    exact ⟨rint HC.out.symm, hb1⟩
set_option maxRecDepth 100000 in
set_option maxHeartbeats 2000000 in
theorem refCheck23 (k n : Int) (s : ByteArray) (w : World) (hk : k = 2 ∨ k = 3) :
    Calls Try.prog 107 #[valV (k, n, s)] w fun e w' => e = .returned (.int .i64 (chk (k, n, s))) ∧ Below w.heap.size w w' := by
  have hb1 : ∀ {o : Obj}, Below w.heap.size w (w.alloc o) := (Below.refl _ _).alloc (Nat.le_refl _) _
  by_cases h1 : n = 0
  · by_cases h2 : 1000 < s.size
    · have HC := Lib.hid (chk_long (x := (k, n, s)) (by simp only; omega) h2)
      have h2' : (1000 : Int) < s.size := by omega
      subst h1
      clear h2
      rcases hk with rfl | rfl
      all_goals
        go_enter Try.func107, Try.ntmps107
        go_wp2
        go_ret
        exact ⟨rint HC.out.symm, hb1⟩
    · have HC := Lib.hid (chk_ok (x := (k, n, s)) (by simp only; omega) (by simp only; omega))
      have h2' : (s.size : Int) ≤ 1000 := by omega
      subst h1
      clear h2
      rcases hk with rfl | rfl
      all_goals
        go_enter Try.func107, Try.ntmps107
        go_wp2
        go_ret
        exact ⟨rint HC.out.symm, hb1⟩
  · have HC := Lib.hid (chk_bad (x := (k, n, s)) (by simp only; omega))
    have e := beq_no h1
    have e' := bne_yes h1
    clear h1
    rcases hk with rfl | rfl
    all_goals
      go_enter Try.func107, Try.ntmps107
      go_wp2
      go_ret
      exact ⟨rint HC.out.symm, hb1⟩
set_option maxRecDepth 100000 in
set_option maxHeartbeats 2000000 in
theorem refCheck_any (x : Val) (w : World) (hf : Fits x) :
    Calls Try.prog 107 #[valV x] w fun e w' => e = .returned (.int .i64 (chk x)) ∧ Below w.heap.size w w' := by
  obtain ⟨k, n, s⟩ := x
  obtain ⟨f1, f2, _, _⟩ := hf
  simp only at f1 f2
  by_cases k0 : k = 0
  · subst k0; exact refCheck0 n s w
  · by_cases k1 : k = 1
    · subst k1; exact refCheck1 n s w
    · by_cases k2 : k = 2 ∨ k = 3
      · exact refCheck23 k n s w k2
      · have HC := Lib.hid (chk_bad (x := (k, n, s)) (by simp only; omega))
        have hb1 : ∀ {o : Obj}, Below w.heap.size w (w.alloc o) := (Below.refl _ _).alloc (Nat.le_refl _) _
        have e4 : 3 < k := by omega
        clear k0 k1 k2 f1 f2
        go_enter Try.func107, Try.ntmps107
        go_wp2
        go_ret
        exact ⟨rint HC.out.symm, hb1⟩
set_option maxRecDepth 100000 in
set_option maxHeartbeats 4000000 in
theorem refRCheck_any (A : Option Addr) (l : List Val) (n c : Nat) (w : World) (hV : Vals w w.heap.size A l) (hn : n = l.length) (hf : ∀ x ∈ l, Fits x) :
    Calls Try.prog 94 #[.slice A n c] w fun e w' => e = .returned (.int .i64 (chkR l)) ∧ Below w.heap.size w w' := by
  by_cases h16 : 16 < n
  · have HR := Lib.hid (show chkR l = 90 by unfold chkR; rw [if_pos (by omega)])
    have h16' : (16 : Int) < n := by omega
    clear hn h16
    go_enter Try.func94, Try.ntmps94
    go_wp2
    go_ret
    exact ⟨rint64 HR.out.symm, Below.refl _ _⟩
  · have HR := Lib.hid (show chkR l = chkL l by unfold chkR; rw [if_neg (by omega)])
    have h16' : (n : Int) ≤ 16 := by omega
    clear h16
    by_cases h0 : n = 0
    · subst h0
      obtain rfl : l = [] := List.eq_nil_of_length_eq_zero hn.symm
      clear hV hn hf
      go_enter Try.func94, Try.ntmps94
      go_wp2
      go_loopw [3] (fun i wr => i = .int .i64 0 ∧ Below w.heap.size w wr) (fun _ _ => 0)
      case atStart => exact ⟨rfl, Below.refl _ _⟩
      case round =>
        obtain ⟨rfl, hb⟩ := hrel
        go_wp2
        go_ret
        exact ⟨rint64 HR.out.symm, hb⟩
    · obtain ⟨b, o, rfl, hbl, hc⟩ := vals_get hV (fun e => by rw [e] at hn; exact h0 hn)
      have HC := Lib.hid hc
      have HN := Lib.hid hn
      have HF := Lib.hid hf
      clear hc hV hn hf h0
      go_enter Try.func94, Try.ntmps94
      go_wp2
      go_loopw [3] (fun i wr => ∃ j : Nat, j ≤ n ∧ i = .int .i64 j ∧ chkL l = chkL (l.drop j) ∧ Below w.heap.size w wr) (fun i _ => n - (intOf i).toNat)
      case atStart => exact ⟨0, by omega, rfl, rfl, Below.refl _ _⟩
      case round =>
        obtain ⟨j, hj, rfl, heq, hb⟩ := hrel
        by_cases hjn : j < n
        · have hjl : j < l.length := by have := HN.out; omega
          obtain ⟨a1, a2, a3⟩ := HC.out j l[j] (List.getElem?_eq_getElem hjl)
          have c1 := (hb.cell (p := ⟨b, o + j * 3, none⟩) hbl).trans a1
          have c2 := (hb.cell (p := ⟨b, o + j * 3 + 1, none⟩) hbl).trans a2
          have c3 := (hb.cell (p := ⟨b, o + j * 3 + 2, none⟩) hbl).trans a3
          have hfx := HF.out l[j] (List.getElem_mem hjl)
          have hd : l.drop j = l[j] :: l.drop (j + 1) := List.drop_eq_getElem_cons hjl
          rw [hd] at heq
          generalize l[j] = x at *
          have hck := fun W => refCheck_any x W hfx
          simp only [chkL] at heq
          obtain ⟨p, q, s⟩ := x
          simp only at c1 c2 c3
          have HE := Lib.hid heq
          have HB := Lib.hid hb
          clear a1 a2 a3 hfx hd heq hb
          by_cases hz : chk (p, q, s) = 0
          · rw [hz] at hck
            have HZ := Lib.hid hz
            have HCK := Lib.hid hck
            clear hz hck
            go_wp2_with fail
            refine (HCK.out _).mono ?_
            rintro e w1 ⟨rfl, hb1⟩
            go_wp2
            go_roundw
            case rel => exact ⟨j + 1, by omega, by go_num, by rw [HE.out, if_pos HZ.out], bj HB.out hb1⟩
            case measure => simp [intOf]; omega
          · have hz' := chk_ne hz
            have HE2 := Lib.hid (show chkR l = chk (p, q, s) by rw [HR.out, HE.out, if_neg hz])
            generalize chk (p, q, s) = E at *
            have HCK := Lib.hid hck
            clear hz hck
            go_wp2_with fail
            refine (HCK.out _).mono ?_
            rintro e w1 ⟨rfl, hb1⟩
            go_wp2
            go_ret
            exact ⟨rint64 HE2.out.symm, bj HB.out hb1⟩
        · obtain rfl : j = n := by omega
          have hE : chkR l = 0 := by rw [HR.out, heq, List.drop_of_length_le (by have := HN.out; omega)]; rfl
          have HE := Lib.hid hE
          clear heq hE
          go_wp2
          go_ret
          exact ⟨rint64 HE.out.symm, hb⟩
set_option maxRecDepth 100000 in
set_option maxHeartbeats 2000000 in
theorem refTag_any (x : Val) (w : World) (hz : x.2.2.size ≤ 1000) (h0 : 0 ≤ x.1) (h3 : x.1 ≤ 3) :
    Calls Try.prog 108 #[valV x] w fun e w' => e = .returned (.int .u64 (tagN x : Nat)) ∧ Below w.heap.size w w' := by
  obtain ⟨k, n, s⟩ := x
  simp only at hz h0 h3
  have hb1 : ∀ {o : Obj}, Below w.heap.size w (w.alloc o) := (Below.refl _ _).alloc (Nat.le_refl _) _
  have hz' : (s.size : Int) ≤ 1000 := by omega
  have hk : k = 0 ∨ k = 1 ∨ k = 2 ∨ k = 3 := by omega
  rcases hk with rfl | rfl | rfl | rfl
  · have HT := Lib.hid (show tagN (0, n, s) = 0 by simp [tagN])
    go_enter Try.func108, Try.ntmps108
    go_wp2
    go_ret
    exact ⟨rint (by rw [HT.out]; rfl), hb1⟩
  · have HT := Lib.hid (show tagN (1, n, s) = 1 by simp [tagN])
    go_enter Try.func108, Try.ntmps108
    go_wp2
    go_ret
    exact ⟨rint (by rw [HT.out]; rfl), hb1⟩
  · have HT := Lib.hid (show tagN (2, n, s) = 2 * s.size + 2 by simp [tagN])
    go_enter Try.func108, Try.ntmps108
    go_wp2
    go_ret
    exact ⟨rint (by rw [HT.out]; push_cast; omega), hb1⟩
  · have HT := Lib.hid (show tagN (3, n, s) = 2 * s.size + 3 by simp [tagN])
    go_enter Try.func108, Try.ntmps108
    go_wp2
    go_ret
    exact ⟨rint (by rw [HT.out]; push_cast; omega), hb1⟩
set_option maxRecDepth 100000 in
theorem refFold_any (i : Int) (w : World) (h0 : -9223372036854775808 ≤ i) (h1 : i ≤ 9223372036854775807) :
    Calls Try.prog 109 #[.int .i64 i] w fun e w' => e = .returned (.int .u64 (foldZ i)) ∧ w = w' := by
  by_cases h : 0 ≤ i
  · have HF := Lib.hid (show foldZ i = 2 * i by unfold foldZ; rw [if_pos h])
    go_enter Try.func109, Try.ntmps109
    go_wp2
    go_ret
    exact ⟨rint (by rw [HF.out]), rfl⟩
  · have HF := Lib.hid (show foldZ i = 2 * -(i + 1) + 1 by unfold foldZ; rw [if_neg h]; omega)
    go_enter Try.func109, Try.ntmps109
    go_wp2
    go_ret
    exact ⟨rint (by rw [HF.out]), rfl⟩
theorem tagsL_take (l : List Val) (j : Nat) (h : j < l.length) : tagsL (l.take (j + 1)) = tagsL (l.take j) ++ putL (tagN l[j]) := by
  unfold tagsL
  rw [List.take_succ_eq_append_getElem h, List.flatMap_append]
  simp
theorem bodsL_take (l : List Val) (j : Nat) (h : j < l.length) : bodsL (l.take (j + 1)) = bodsL (l.take j) ++ bodyL l[j] := by
  unfold bodsL
  rw [List.take_succ_eq_append_getElem h, List.flatMap_append]
  simp
theorem bodyL_len {x : Val} (h : chk x = 0) : (bodyL x).length ≤ 1000 := by
  have h4 := (chk_of h).2.2.2
  unfold bodyL
  split
  · rw [putL_length]; have := sz_le (foldN x.2.1); omega
  · rw [bts_length]; omega
theorem tagsL_len (l : List Val) : (tagsL l).length ≤ 9 * l.length := by
  induction l with
  | nil => simp [tagsL]
  | cons x l ih =>
    have : tagsL (x :: l) = putL (tagN x) ++ tagsL l := by simp [tagsL]
    rw [this, List.length_append, putL_length, List.length_cons]
    have := sz_le (tagN x)
    omega
theorem bodsL_len (l : List Val) (h : ∀ x ∈ l, chk x = 0) : (bodsL l).length ≤ 1000 * l.length := by
  induction l with
  | nil => simp [bodsL]
  | cons x l ih =>
    have e : bodsL (x :: l) = bodyL x ++ bodsL l := by simp [bodsL]
    rw [e, List.length_append, List.length_cons]
    have := bodyL_len (h x (by simp))
    have := ih (fun y hy => h y (by simp [hy]))
    omega
theorem bodyL_lt (x : Val) : ∀ y ∈ bodyL x, y < 256 := by
  unfold bodyL
  split
  · exact putL_lt _
  · exact bts_lt _
theorem recL_lt (l : List Val) (h : l.length < 256) : ∀ y ∈ recL l, y < 256 := by
  intro y hy
  unfold recL tagsL bodsL at hy
  rcases List.mem_cons.1 hy with rfl | hy
  · exact h
  · rcases List.mem_append.1 hy with hy | hy
    · obtain ⟨x, _, hx⟩ := List.mem_flatMap.1 hy
      exact putL_lt _ y hx
    · obtain ⟨x, _, hx⟩ := List.mem_flatMap.1 hy
      exact bodyL_lt x y hx
end Go.Proofs.Ytocbdehcjcggeaa
