/- The document's own Check and Put of keys. Conditions: the numbers fit their kinds, the row has no more than a thousand values. -/
import Derived.Test.YtfdiopjmohhejaaDoorProg
import Derived.Test.YtfdiopjmohhejaaDoorKeyR1
import Derived.Test.YtfdiopjmohhejaaDoorVal
namespace Go.Proofs.YtfdiopjmohhejaaDoor
open Go.RowKit
set_option linter.unusedVariables false
theorem str_em {s : ByteArray} (h : s.size ≠ 0) : s.toList.isEmpty = false := by
  have := str_no h
  cases hh : s.toList with
  | nil => exact absurd hh this
  | cons a l => rfl
theorem bne_yes {a b : Int} (h : ¬ a = b) : (a != b) = true := by rw [bne_iff_ne]; exact h
set_option maxRecDepth 100000 in
set_option maxHeartbeats 2000000 in
theorem refCheck0 (n : Int) (s : ByteArray) (w : World) :
    Calls Tryd.prog 33 #[valV (0, n, s)] w fun e w' => e = .returned (.int .i64 (chk (0, n, s))) ∧ Below w.heap.size w w' := by
  have hb1 : ∀ {o : Obj}, Below w.heap.size w (w.alloc o) := (Below.refl _ _).alloc (Nat.le_refl _) _
  by_cases h1 : n = 0
  · by_cases h2 : s.size = 0
    · subst h1
      obtain rfl := empty_of h2
      have HC := Lib.hid (show chk (0, 0, bstr []) = 0 by decide)
      rw [show (bstr [] : ByteArray) = ⟨#[]⟩ from rfl] at *
      go_enter Tryd.func33, Tryd.ntmps33
      go_wp2
      go_ret
      exact ⟨rint HC.out.symm, hb1⟩
    · have HC := Lib.hid (chk_bad (x := (0, n, s)) (by simp only; omega))
      have e := str_no h2
      have e' := str_em h2
      subst h1
      clear h2
      go_enter Tryd.func33, Tryd.ntmps33
      go_wp2
      go_ret
      exact ⟨rint HC.out.symm, hb1⟩
  · have HC := Lib.hid (chk_bad (x := (0, n, s)) (by simp only; omega))
    have e := beq_no h1
    have e' := bne_yes h1
    clear h1
    go_enter Tryd.func33, Tryd.ntmps33
    go_wp2
    go_ret
    exact ⟨rint HC.out.symm, hb1⟩
set_option maxRecDepth 100000 in
set_option maxHeartbeats 2000000 in
theorem refCheck1 (n : Int) (s : ByteArray) (w : World) :
    Calls Tryd.prog 33 #[valV (1, n, s)] w fun e w' => e = .returned (.int .i64 (chk (1, n, s))) ∧ Below w.heap.size w w' := by
  have hb1 : ∀ {o : Obj}, Below w.heap.size w (w.alloc o) := (Below.refl _ _).alloc (Nat.le_refl _) _
  by_cases h2 : s.size = 0
  · obtain rfl := empty_of h2
    have HC := Lib.hid (chk_ok (x := (1, n, bstr [])) (by simp only; omega) (by simp only; omega))
    rw [show (bstr [] : ByteArray) = ⟨#[]⟩ from rfl] at *
    go_enter Tryd.func33, Tryd.ntmps33
    go_wp2
    go_ret
    exact ⟨rint HC.out.symm, hb1⟩
  · have HC := Lib.hid (chk_bad (x := (1, n, s)) (by simp only; omega))
    have e := str_no h2
    have e' := str_em h2
    clear h2
    go_enter Tryd.func33, Tryd.ntmps33
    go_wp2
    go_ret
    exact ⟨rint HC.out.symm, hb1⟩
set_option maxRecDepth 100000 in
set_option maxHeartbeats 2000000 in
theorem refCheck23 (k n : Int) (s : ByteArray) (w : World) (hk : k = 2 ∨ k = 3) :
    Calls Tryd.prog 33 #[valV (k, n, s)] w fun e w' => e = .returned (.int .i64 (chk (k, n, s))) ∧ Below w.heap.size w w' := by
  have hb1 : ∀ {o : Obj}, Below w.heap.size w (w.alloc o) := (Below.refl _ _).alloc (Nat.le_refl _) _
  by_cases h1 : n = 0
  · by_cases h2 : 1000 < s.size
    · have HC := Lib.hid (chk_long (x := (k, n, s)) (by simp only; omega) h2)
      have h2' : (1000 : Int) < s.size := by omega
      subst h1
      clear h2
      rcases hk with rfl | rfl
      all_goals
        go_enter Tryd.func33, Tryd.ntmps33
        go_wp2
        go_ret
        exact ⟨rint HC.out.symm, hb1⟩
    · have HC := Lib.hid (chk_ok (x := (k, n, s)) (by simp only; omega) (by simp only; omega))
      have h2' : (s.size : Int) ≤ 1000 := by omega
      subst h1
      clear h2
      rcases hk with rfl | rfl
      all_goals
        go_enter Tryd.func33, Tryd.ntmps33
        go_wp2
        go_ret
        exact ⟨rint HC.out.symm, hb1⟩
  · have HC := Lib.hid (chk_bad (x := (k, n, s)) (by simp only; omega))
    have e := beq_no h1
    have e' := bne_yes h1
    clear h1
    rcases hk with rfl | rfl
    all_goals
      go_enter Tryd.func33, Tryd.ntmps33
      go_wp2
      go_ret
      exact ⟨rint HC.out.symm, hb1⟩
set_option maxRecDepth 100000 in
set_option maxHeartbeats 2000000 in
theorem refCheck_any (x : Val) (w : World) (hf : Fits x) :
    Calls Tryd.prog 33 #[valV x] w fun e w' => e = .returned (.int .i64 (chk x)) ∧ Below w.heap.size w w' := by
  obtain ⟨k, n, s⟩ := x
  obtain ⟨f1, f2, _, _⟩ := hf
  simp only at f1 f2
  by_cases k0 : k = 0
  · subst k0; exact refCheck0 n s w
  · by_cases k1 : k = 1
    · subst k1; exact refCheck1 n s w
    · by_cases k2 : k = 2 ∨ k = 3
      · exact refCheck23 k n s w k2
      · have HC := Lib.hid (chk_bad (x := (k, n, s)) (by simp only; omega))
        have hb1 : ∀ {o : Obj}, Below w.heap.size w (w.alloc o) := (Below.refl _ _).alloc (Nat.le_refl _) _
        have e4 : 3 < k := by omega
        clear k0 k1 k2 f1 f2
        go_enter Tryd.func33, Tryd.ntmps33
        go_wp2
        go_ret
        exact ⟨rint HC.out.symm, hb1⟩
theorem oneK_lt {x : Val} (h0 : 0 ≤ x.1) (h : x.1 ≤ 3) : ∀ y ∈ oneK x, y < 256 := by
  intro y hy
  unfold oneK at hy
  split at hy
  · simp at hy; omega
  · split at hy
    · rcases List.mem_cons.1 hy with rfl | hy
      · omega
      · exact eightL_lt _ y hy
    · rcases List.mem_cons.1 hy with rfl | hy
      · omega
      · rcases List.mem_append.1 hy with hy | hy
        · exact escL_lt (bts_lt _) y hy
        · simp at hy; omega
theorem refOne_any (x : Val) (w : World) (hf : Fits x) (hc : chk x = 0) : Calls Tryd.prog 34 #[valV x] w fun e w' => e = .returned (.string (bstr (oneK x))) ∧ Below w.heap.size w w' := by
  obtain ⟨k1, k2, k3, k4⟩ := chk_of hc
  obtain ⟨p, q, s⟩ := x
  obtain ⟨f1, f2, f3, f4⟩ := hf
  simp only at k1 k2 k3 k4 f1 f2 f3 f4
  by_cases p0 : p = 0
  · subst p0
    exact refOne_0 s q w
  · by_cases p1 : p = 1
    · subst p1
      exact refOne_1 s q w f3 f4
    · have h := refOne_23 s p q w k4 (by omega)
      unfold oneK
      simp only
      rw [if_neg p0, if_neg p1]
      exact h
set_option maxRecDepth 100000 in
set_option maxHeartbeats 4000000 in
theorem krefPut_row (A : Option Addr) (l : List Val) (n c : Nat) (w : World) (hV : Vals w w.heap.size A l) (hn : n = l.length) (h1000 : n ≤ 1000) (hf : ∀ x ∈ l, Fits x) :
    Calls Tryd.prog 16 #[.slice A n c] w fun e w' => e = .returned (.tuple #[.string (kputS l).1, .int .i64 (kputS l).2]) ∧ Below w.heap.size w w' := by
  have HA : Hid (0 < n → ∃ b o, A = some ⟨b, o, none⟩ ∧ b < w.heap.size ∧ ∀ (j : Nat) x, l[j]? = some x → w.cell? ⟨b, o + j * 3, none⟩ = some (.int .u8 x.1) ∧ w.cell? ⟨b, o + j * 3 + 1, none⟩ = some (.int .i64 x.2.1) ∧ w.cell? ⟨b, o + j * 3 + 2, none⟩ = some (.string x.2.2)) :=
    Lib.hid fun h => vals_get hV (fun e => by rw [e] at hn; simp at hn; omega)
  have hnI : (n : Int) ≤ 1000 := by omega
  have HN := Lib.hid hn
  have HF := Lib.hid hf
  clear hV hn hf
  go_enter Tryd.func16, Tryd.ntmps16
  go_wp2
  go_loopw [4, 5] (fun s i wr => ∃ (j : Nat) (T : ByteArray), j ≤ n ∧ i = .int .i64 j ∧ s = .string T ∧ bts T = keyL (l.take j) ∧ chkL l = chkL (l.drop j) ∧ (∀ x ∈ l.take j, chk x = 0) ∧ Below w.heap.size w wr) (fun _ i _ => n - (intOf i).toNat)
  case atStart => exact ⟨0, bstr [], by omega, rfl, rfl, rfl, rfl, (fun x hx => by simp at hx), Below.refl _ _⟩
  case round =>
    obtain ⟨j, T, hj, rfl, rfl, hT, heq, hok, hb⟩ := hrel
    have hlT : T.size ≤ 2010000 := by
      have h1 := bts_length T
      have h2 := keyL_len (l.take j) hok
      rw [List.length_take] at h2
      rw [hT] at h1
      omega
    by_cases hjn : j < n
    · have hjl : j < l.length := by have := HN.out; omega
      obtain ⟨b, o, rfl, hbl, hcs⟩ := HA.out (by omega)
      obtain ⟨a1, a2, a3⟩ := hcs j l[j] (List.getElem?_eq_getElem hjl)
      have c1 := (hb.cell (p := ⟨b, o + j * 3, none⟩) hbl).trans a1
      have c2 := (hb.cell (p := ⟨b, o + j * 3 + 1, none⟩) hbl).trans a2
      have c3 := (hb.cell (p := ⟨b, o + j * 3 + 2, none⟩) hbl).trans a3
      have hfx := HF.out l[j] (List.getElem_mem hjl)
      have hd : l.drop j = l[j] :: l.drop (j + 1) := List.drop_eq_getElem_cons hjl
      have htk : l.take (j + 1) = l.take j ++ [l[j]] := List.take_succ_eq_append_getElem hjl
      have hkt := keyL_take l j hjl
      rw [hd] at heq
      simp only [chkL] at heq
      generalize l[j] = x at *
      have hck := fun W => refCheck_any x W hfx
      have HB := Lib.hid hb
      by_cases hz : chk x = 0
      · have hro := fun W => refOne_any x W hfx hz
        have hlx := oneK_len hz
        obtain ⟨k1, _, _, _⟩ := chk_of hz
        have hR := bts_bstr _ (oneK_lt hfx.1 k1)
        have hRl : (bstr (oneK x)).size ≤ 2010 := by rw [bstr_size]; exact hlx
        have HT := Lib.hid (show bts (T ++ bstr (oneK x)) = keyL (l.take (j + 1)) by rw [bts_app, hT, hR, hkt])
        have HE := Lib.hid (show chkL l = chkL (l.drop (j + 1)) by rw [heq, if_pos hz])
        have HOK := Lib.hid (show ∀ y ∈ l.take (j + 1), chk y = 0 by
          rw [htk]; intro y hy
          rcases List.mem_append.1 hy with hy | hy
          · exact hok y hy
          · rw [List.mem_singleton.1 hy]; exact hz)
        rw [hz] at hck
        generalize bstr (oneK x) = R at *
        obtain ⟨p, q, s⟩ := x
        simp only at c1 c2 c3
        have z1 : T.size + R.size ≤ 9223372036854775807 ∧ ¬ (9223372036854775807 < T.size + R.size) ∧ (T.size : Int) + R.size ≤ 9223372036854775807 := by omega
        obtain ⟨z1, z2, z3⟩ := z1
        have HCK := Lib.hid hck
        have HRO := Lib.hid hro
        clear a1 a2 a3 hfx hd htk hkt heq hok hb hz hro hlx hR hRl hck hcs hT hlT k1
        go_wp2_with fail
        refine (HCK.out _).mono ?_
        rintro e w2 ⟨rfl, hb2⟩
        have hb2' := bj HB.out hb2
        have e1 := (hb2.cell (p := ⟨b, o + j * 3, none⟩) (Nat.lt_of_lt_of_le hbl HB.out.size)).trans c1
        have e2 := (hb2.cell (p := ⟨b, o + j * 3 + 1, none⟩) (Nat.lt_of_lt_of_le hbl HB.out.size)).trans c2
        have e3 := (hb2.cell (p := ⟨b, o + j * 3 + 2, none⟩) (Nat.lt_of_lt_of_le hbl HB.out.size)).trans c3
        have HB2 := Lib.hid hb2'
        clear hb2 hb2' c1 c2 c3
        go_wp2_with fail
        refine (HRO.out _).mono ?_
        rintro e w3 ⟨rfl, hb3⟩
        go_wp2
        go_roundw
        case rel => exact ⟨j + 1, _, by omega, by go_num, rfl, HT.out, HE.out, HOK.out, bj HB2.out hb3⟩
        case measure => simp [intOf]; omega
      · have HZ := Lib.hid (show kputS l = (bstr [], chk x) by unfold kputS; rw [heq, if_neg hz, if_neg hz])
        have hne := chk_ne hz
        generalize chk x = E at *
        obtain ⟨p, q, s⟩ := x
        simp only at c1 c2 c3
        have HCK := Lib.hid hck
        clear a1 a2 a3 hfx hd htk hkt heq hok hb hz hck hcs hT hlT
        go_wp2_with fail
        refine (HCK.out _).mono ?_
        rintro e w2 ⟨rfl, hb2⟩
        go_wp2
        go_ret2
        exact ⟨by rw [HZ.out]; rfl, bj HB.out hb2⟩
    · obtain rfl : j = n := by omega
      have hall : l.take j = l := List.take_of_length_le (by have := HN.out; omega)
      have hdr : l.drop j = [] := List.drop_of_length_le (by have := HN.out; omega)
      rw [hall] at hT
      rw [hdr] at heq
      have HZ := Lib.hid (show kputS l = (T, 0) by unfold kputS; rw [heq, if_pos (by rfl), ← hT, bstr_bts])
      clear hall hdr hT heq hok hlT
      go_wp2
      go_ret2
      exact ⟨by rw [HZ.out]; rfl, hb⟩
end Go.Proofs.YtfdiopjmohhejaaDoor
