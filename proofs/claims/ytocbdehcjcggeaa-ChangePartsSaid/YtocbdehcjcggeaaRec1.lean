/- The small functions of package record, and the document's own. Conditions: the numbers fit their kinds, a text is no longer than a machine has addresses. -/
import Derived.Test.YtocbdehcjcggeaaProg
import Derived.Test.YtocbdehcjcggeaaVal
import Derived.Test.YtocbdehcjcggeaaNumPut
import Derived.Deep.RegionHeld3
namespace Go.Proofs.Ytocbdehcjcggeaa
open Go.RowKit
set_option linter.unusedVariables false
def Vk (w : World) (g : Nat) (x : Val) (W : World) : Prop := Blk W g 56 (valC x) ∧ Below w.heap.size w W
theorem vk_step {w W W' : World} {g : Nat} {x : Val} (h : Vk w g x W) (hb : Below W.heap.size W W') : Vk w g x W' := ⟨blk_step h.1 hb, bj h.2 hb⟩
theorem vkR {w W : World} {g : Nat} {x : Val} (h : Vk w g x W) : W.cell? ⟨g, 0, none⟩ = some (.int .u8 x.1) ∧ W.cell? ⟨g, 1, none⟩ = some (.int .i64 x.2.1) ∧ W.cell? ⟨g, 2, none⟩ = some (.string x.2.2) := ⟨h.1.cell 0, h.1.cell 1, h.1.cell 2⟩
theorem sv_step {w W W' : World} {g : Nat} {p q : Int} {s : ByteArray} (hb : Below W.heap.size W W') (h : Vk w g (p, q, s) W) : W'.cell? ⟨g, 0, none⟩ = some (.int .u8 p) ∧ W'.cell? ⟨g, 1, none⟩ = some (.int .i64 q) ∧ W'.cell? ⟨g, 2, none⟩ = some (.string s) ∧ Vk w g (p, q, s) W' :=
  have h' := vk_step h hb
  ⟨(vkR h').1, (vkR h').2.1, (vkR h').2.2, h'⟩
theorem vk_new {w wr : World} (x : Val) (hb : Below w.heap.size w wr) : Vk w wr.heap.size x (wr.alloc (.cells (valC x) 56)) := ⟨Blk.new _ _ _, hb.alloc hb.size _⟩
theorem rint64 {a b : Int} (h : a = b) : Ending.returned (.int .i64 a) = .returned (.int .i64 b) := by rw [h]
/-- the answer that a row's check gives -/
theorem chk_ne {x : Val} (h : chk x ≠ 0) : (chk x != 0) = true := by rw [bne_iff_ne]; exact h
set_option maxRecDepth 100000 in
set_option maxHeartbeats 4000000 in
theorem rcheck_any (A : Option Addr) (l : List Val) (n c : Nat) (w : World) (hV : Vals w w.heap.size A l) (hn : n = l.length) (hf : ∀ x ∈ l, Fits x) :
    Calls Try.prog 49 #[.slice A n c] w fun e w' => e = .returned (.int .i64 (chkR l)) ∧ Below w.heap.size w w' := by
  by_cases h16 : 16 < n
  · have HR := Lib.hid (show chkR l = 90 by unfold chkR; rw [if_pos (by omega)])
    have h16' : (16 : Int) < n := by omega
    clear hn h16
    go_enter Try.func49, Try.ntmps49
    go_wp2
    go_ret
    exact ⟨rint64 HR.out.symm, Below.refl _ _⟩
  · have HR := Lib.hid (show chkR l = chkL l by unfold chkR; rw [if_neg (by omega)])
    have h16' : (n : Int) ≤ 16 := by omega
    clear h16
    by_cases h0 : n = 0
    · subst h0
      obtain rfl : l = [] := List.eq_nil_of_length_eq_zero hn.symm
      clear hV hn hf
      go_enter Try.func49, Try.ntmps49
      go_wp2
      go_loopw [11] (fun i wr => i = .int .i64 0 ∧ Below w.heap.size w wr) (fun _ _ => 0)
      case atStart => exact ⟨rfl, Below.refl _ _⟩
      case round =>
        obtain ⟨rfl, hb⟩ := hrel
        go_wp2
        go_ret
        exact ⟨rint64 HR.out.symm, hb⟩
    · obtain ⟨b, o, rfl, hbl, hc⟩ := vals_get hV (fun e => by rw [e] at hn; exact h0 hn)
      have HC := Lib.hid hc
      have HN := Lib.hid hn
      have HF := Lib.hid hf
      clear hc hV hn hf h0
      go_enter Try.func49, Try.ntmps49
      go_wp2
      go_loopw [11] (fun i wr => ∃ j : Nat, j ≤ n ∧ i = .int .i64 j ∧ chkL l = chkL (l.drop j) ∧ Below w.heap.size w wr) (fun i _ => n - (intOf i).toNat)
      case atStart => exact ⟨0, by omega, rfl, rfl, Below.refl _ _⟩
      case round =>
        obtain ⟨j, hj, rfl, heq, hb⟩ := hrel
        by_cases hjn : j < n
        · have hjl : j < l.length := by have := HN.out; omega
          obtain ⟨a1, a2, a3⟩ := HC.out j l[j] (List.getElem?_eq_getElem hjl)
          have c1 := (hb.cell (p := ⟨b, o + j * 3, none⟩) hbl).trans a1
          have c2 := (hb.cell (p := ⟨b, o + j * 3 + 1, none⟩) hbl).trans a2
          have c3 := (hb.cell (p := ⟨b, o + j * 3 + 2, none⟩) hbl).trans a3
          have hfx := HF.out l[j] (List.getElem_mem hjl)
          have hd : l.drop j = l[j] :: l.drop (j + 1) := List.drop_eq_getElem_cons hjl
          rw [hd] at heq
          generalize l[j] = x at *
          have hck := fun W => check_any x W hfx
          have hk0 := vk_new x hb
          simp only [chkL] at heq
          obtain ⟨p, q, s⟩ := x
          simp only at c1 c2 c3
          have HK0 := Lib.hid hk0
          have HE := Lib.hid heq
          clear a1 a2 a3 hfx hd heq hk0
          by_cases hz : chk (p, q, s) = 0
          · rw [hz] at hck
            have HZ := Lib.hid hz
            have HCK := Lib.hid hck
            clear hz hck
            go_wp2_with fail
            refine (HCK.out _).mono ?_
            rintro e w1 ⟨rfl, hb1⟩
            have hk1 := vk_step HK0.out hb1
            go_wp2
            go_roundw
            case rel => exact ⟨j + 1, by omega, by go_num, by rw [HE.out, if_pos HZ.out], hk1.2⟩
            case measure => simp [intOf]; omega
          · have hz' := chk_ne hz
            have HE2 := Lib.hid (show chkR l = chk (p, q, s) by rw [HR.out, HE.out, if_neg hz])
            generalize chk (p, q, s) = E at *
            have HCK := Lib.hid hck
            clear hz hck
            go_wp2_with fail
            refine (HCK.out _).mono ?_
            rintro e w1 ⟨rfl, hb1⟩
            have hk1 := vk_step HK0.out hb1
            go_wp2
            go_ret
            exact ⟨rint64 HE2.out.symm, hk1.2⟩
        · obtain rfl : j = n := by omega
          have hE : chkR l = 0 := by rw [HR.out, heq, List.drop_of_length_le (by have := HN.out; omega)]; rfl
          have HE := Lib.hid hE
          clear heq hE
          go_wp2
          go_ret
          exact ⟨rint64 HE.out.symm, hb⟩
theorem i2 (s : ByteArray) (h : s.size ≤ 140737488351232) : IntKind.u64.wrap (2 * IntKind.u64.wrap (s.size : Int)) = 2 * (s.size : Int) := by rw [IntKind.wrap_u64, IntKind.wrap_u64]; omega
set_option maxRecDepth 100000 in
set_option maxHeartbeats 2000000 in
theorem tag_any (x : Val) (w : World) (hz : x.2.2.size ≤ 140737488351232) :
    Calls Try.prog 51 #[valV x] w fun e w' => e = .returned (.int .u64 (tagN x : Nat)) ∧ Below w.heap.size w w' := by
  obtain ⟨k, n, s⟩ := x
  simp only at hz
  have hb1 : ∀ {o : Obj}, Below w.heap.size w (w.alloc o) := (Below.refl _ _).alloc (Nat.le_refl _) _
  have hz' : (s.size : Int) ≤ 140737488351232 := by omega
  by_cases k0 : k = 0
  · subst k0
    have HT := Lib.hid (show tagN (0, n, s) = 0 by simp [tagN])
    go_enter Try.func51, Try.ntmps51
    go_wp2
    go_ret
    exact ⟨rint (by rw [HT.out]; rfl), hb1⟩
  · by_cases k1 : k = 1
    · subst k1
      have HT := Lib.hid (show tagN (1, n, s) = 1 by simp [tagN])
      go_enter Try.func51, Try.ntmps51
      go_wp2
      go_ret
      exact ⟨rint (by rw [HT.out]; rfl), hb1⟩
    · by_cases k2 : k = 2
      · subst k2
        have HT := Lib.hid (show tagN (2, n, s) = 2 * s.size + 2 by simp [tagN])
        clear k0 k1
        go_enter Try.func51, Try.ntmps51
        go_wp2
        go_ret
        exact ⟨rint (by rw [HT.out]; push_cast; omega), hb1⟩
      · have HT := Lib.hid (show tagN (k, n, s) = 2 * s.size + 3 by simp [tagN, k0, k1, k2])
        have e0 := beq_no k0
        have e1 := beq_no k1
        have e2 := beq_no k2
        clear k0 k1 k2
        go_enter Try.func51, Try.ntmps51
        go_wp2
        go_ret
        exact ⟨rint (by rw [HT.out]; push_cast; omega), hb1⟩
set_option maxRecDepth 100000 in
set_option maxHeartbeats 2000000 in
theorem body_any (x : Val) (w : World) (hf : Fits x) :
    Calls Try.prog 52 #[valV x] w fun e w' => e = .returned (.string (bstr (bodyL x))) ∧ Below w.heap.size w w' := by
  obtain ⟨k, n, s⟩ := x
  obtain ⟨f1, f2, f3, f4⟩ := hf
  simp only at f1 f2 f3 f4
  by_cases k1 : k = 1
  · subst k1
    have HB := Lib.hid (show bodyL (1, n, s) = putL (foldN n) by simp [bodyL])
    have hfo := fun W => fold_any n W f3 f4
    have hp := fun W => put_any (foldN n) W (foldN_lt f3 f4)
    have e : foldZ n = (foldN n : Nat) := by unfold foldN; rw [Int.toNat_of_nonneg (foldZ_pos n)]
    rw [e] at hfo
    generalize foldN n = N at *
    have HF := Lib.hid hfo
    have HP := Lib.hid hp
    clear hfo hp e f3 f4
    go_enter Try.func52, Try.ntmps52
    go_wp2_with fail
    refine (HF.out _).mono ?_
    rintro e w1 ⟨rfl, rfl⟩
    go_wp2_with fail
    refine (HP.out _).mono ?_
    rintro e w2 ⟨rfl, hb2⟩
    go_wp2
    go_ret
    exact ⟨by rw [HB.out]; rfl, bja _ (Below.refl _ _) hb2⟩
  · have HB := Lib.hid (show bodyL (k, n, s) = bts s by simp [bodyL, k1])
    have e1 := beq_no k1
    clear k1
    go_enter Try.func52, Try.ntmps52
    go_wp2
    go_ret
    exact ⟨by rw [HB.out, bstr_bts]; rfl, (Below.refl _ _).alloc (Nat.le_refl _) _⟩
end Go.Proofs.Ytocbdehcjcggeaa
