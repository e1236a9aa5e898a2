/- key.one. Condition: the text is no longer than a machine has addresses. -/
import Derived.Test.YtibaacklcdknnaaDoorProg
import Derived.Test.YtibaacklcdknnaaDoorKey3
import Derived.Deep.RegionWith
namespace Go.Proofs.YtibaacklcdknnaaDoor
open Go.RowKit
set_option linter.unusedVariables false
def OneP (L : List Nat) (w : World) (e : Ending) (w' : World) : Prop := Below w.heap.size w w' ∧
  ((∃ v k, oneT L = some (v, k) ∧ e = .returned (.tuple #[valV v, .int .i64 (k : Nat), .bool true])) ∨ (oneT L = none ∧ ∃ (v : Val) (k : Int), e = .returned (.tuple #[valV v, .int .i64 k, .bool false])))
theorem oneP_no {L : List Nat} {w w' : World} (v : Val) (k : Int) (h : oneT L = none) (hb : Below w.heap.size w w') : OneP L w (.returned (.tuple #[.agg #[.int .u8 v.1, .int .i64 v.2.1, .string v.2.2], .int .i64 k, .bool false])) w' := ⟨hb, .inr ⟨h, v, k, rfl⟩⟩
theorem oneP_yes {L : List Nat} {w w' : World} (v : Val) (k : Nat) (h : oneT L = some (v, k)) (hb : Below w.heap.size w w') : OneP L w (.returned (.tuple #[.agg #[.int .u8 v.1, .int .i64 v.2.1, .string v.2.2], .int .i64 k, .bool true])) w' := ⟨hb, .inl ⟨v, k, h, rfl⟩⟩
theorem cell3 {W : World} {g : Nat} {t : TypeId} {a b c : Value} (h : Blk W g t #[a, b, c]) : W.cell? ⟨g, 0, none⟩ = some a ∧ W.cell? ⟨g, 1, none⟩ = some b ∧ W.cell? ⟨g, 2, none⟩ = some c ∧ W.frozen? ⟨g, 0, none⟩ = false ∧ W.frozen? ⟨g, 1, none⟩ = false ∧ W.frozen? ⟨g, 2, none⟩ = false :=
  ⟨h.cell 0, h.cell 1, h.cell 2, h.frozen 0, h.frozen 1, h.frozen 2⟩
theorem blk3_set {W : World} {g : Nat} {t : TypeId} {a b c : Value} (h : Blk W g t #[a, b, c]) (x y z : Value) : Blk (((W.setCell ⟨g, 0, none⟩ x).setCell ⟨g, 1, none⟩ y).setCell ⟨g, 2, none⟩ z) g t #[x, y, z] := ((h.set_ 0 x).set_ 1 y).set_ 2 z
theorem below3_set {w W : World} (h : Below w.heap.size w W) (x y z : Value) : Below w.heap.size w (((W.setCell ⟨w.heap.size, 0, none⟩ x).setCell ⟨w.heap.size, 1, none⟩ y).setCell ⟨w.heap.size, 2, none⟩ z) :=
  ((h.setCell (Nat.le_refl _) _).setCell (Nat.le_refl _) _).setCell (Nat.le_refl _) _
theorem one_alloc {w : World} {o : Obj} : Below w.heap.size w (w.alloc o) := (Below.refl _ _).alloc (Nat.le_refl _) _
set_option maxRecDepth 100000 in
set_option maxHeartbeats 2000000 in
theorem one_empty (w : World) : Calls Tryd.prog 13 #[.string ⟨#[]⟩] w (OneP [] w) := by
  go_enter Tryd.func13, Tryd.ntmps13
  go_wp2
  obtain ⟨d0, d1, d2, _, _, _⟩ := cell3 (Blk.new w 31 #[.int .u8 0, .int .i64 0, .string ⟨#[]⟩])
  exact bodyPost_ret (v := .tuple #[.agg #[.int .u8 0, .int .i64 0, .string ⟨#[]⟩], .int .i64 0, .bool false]) (by simp [results, Tryd.results13, go_sem, d0, d1, d2]) rfl (oneP_no (0, 0, ⟨#[]⟩) 0 rfl one_alloc)
set_option maxRecDepth 100000 in
set_option maxHeartbeats 2000000 in
theorem one_c1 (s : ByteArray) (r : List Nat) (w : World) (h : bts s = 1 :: r) : Calls Tryd.prog 13 #[.string s] w (OneP (bts s) w) := by
  have hl := bts_length s
  have h0 : 0 < s.size := by rw [h] at hl; simp at hl; omega
  have hb0 := byte_at s 0 h0
  rw [h] at hb0
  simp only [List.getD_cons_zero] at hb0
  have hs1 := str_no (s := s) (by omega)
  have hs2 : s.toList.isEmpty = false := by
    cases hh : s.toList with
    | nil => exact absurd hh hs1
    | cons a l => rfl
  have HO := Lib.hid (show oneT (bts s) = some ((0, 0, ⟨#[]⟩), 1) by rw [h]; rfl)
  clear h hl
  go_enter Tryd.func13, Tryd.ntmps13
  go_wp2
  obtain ⟨d0, d1, d2, _, _, _⟩ := cell3 (Blk.new w 31 #[.int .u8 0, .int .i64 0, .string ⟨#[]⟩])
  exact bodyPost_ret (v := .tuple #[.agg #[.int .u8 0, .int .i64 0, .string ⟨#[]⟩], .int .i64 1, .bool true]) (by simp [results, Tryd.results13, go_sem, d0, d1, d2]) rfl (oneP_yes (0, 0, ⟨#[]⟩) 1 HO.out one_alloc)
set_option maxRecDepth 100000 in
set_option maxHeartbeats 2000000 in
theorem one_bad (s : ByteArray) (c : Nat) (r : List Nat) (w : World) (h : bts s = c :: r) (hc : c = 0 ∨ 5 ≤ c) : Calls Tryd.prog 13 #[.string s] w (OneP (bts s) w) := by
  have hl := bts_length s
  have h0 : 0 < s.size := by rw [h] at hl; simp at hl; omega
  have hb0 := byte_at s 0 h0
  have hc256 := bts_getD_lt s 0
  rw [h] at hb0 hc256
  simp only [List.getD_cons_zero] at hb0 hc256
  have hs1 := str_no (s := s) (by omega)
  have hs2 : s.toList.isEmpty = false := by
    cases hh : s.toList with
    | nil => exact absurd hh hs1
    | cons a l => rfl
  have HO := Lib.hid (show oneT (bts s) = none by rw [h]; unfold oneT; simp only; rw [if_neg (by omega), if_neg (by omega), if_neg (by omega)])
  clear h hl
  rcases hc with rfl | hc
  · go_enter Tryd.func13, Tryd.ntmps13
    go_wp2
    obtain ⟨d0, d1, d2, _, _, _⟩ := cell3 (Blk.new w 31 #[.int .u8 255, .int .i64 0, .string ⟨#[]⟩])
    exact bodyPost_ret (v := .tuple #[.agg #[.int .u8 255, .int .i64 0, .string ⟨#[]⟩], .int .i64 0, .bool false]) (by simp [results, Tryd.results13, go_sem, d0, d1, d2]) rfl (oneP_no (255, 0, ⟨#[]⟩) 0 HO.out one_alloc)
  · have hcI : (5 : Int) ≤ c := by omega
    have hcI2 : (c : Int) ≤ 255 := by omega
    have e0 : ((c : Int) - 1 == 0) = false := by rw [beq_eq_false_iff_ne]; omega
    have e1 : ((c : Int) - 1 == 1) = false := by rw [beq_eq_false_iff_ne]; omega
    have e2 : ((c : Int) - 1 == 2) = false := by rw [beq_eq_false_iff_ne]; omega
    have e3 : ((c : Int) - 1 == 3) = false := by rw [beq_eq_false_iff_ne]; omega
    clear hc hc256
    go_enter Tryd.func13, Tryd.ntmps13
    go_wp2
    obtain ⟨d0, d1, d2, _, _, _⟩ := cell3 (Blk.new w 31 #[.int .u8 ((c : Int) - 1), .int .i64 0, .string ⟨#[]⟩])
    exact bodyPost_ret (v := .tuple #[.agg #[.int .u8 ((c : Int) - 1), .int .i64 0, .string ⟨#[]⟩], .int .i64 0, .bool false]) (by simp [results, Tryd.results13, go_sem, d0, d1, d2]) rfl (oneP_no ((c : Int) - 1, 0, ⟨#[]⟩) 0 HO.out one_alloc)
theorem xor_back {n : Nat} (h : n < 18446744073709551616) : wrap64 (bits .xor .u64 (n : Int) 9223372036854775808) = (n : Int) - 9223372036854775808 := by
  have hb := bits_xor_u64_nat n 9223372036854775808 h (by omega)
  rw [show ((9223372036854775808 : Nat) : Int) = 9223372036854775808 from rfl] at hb
  rw [hb]
  by_cases hn : n < 9223372036854775808
  · rw [xor_turn hn]
    simp [wrap64]
    omega
  · have e : n = 9223372036854775808 + (n - 9223372036854775808) := by omega
    have h2 : n - 9223372036854775808 < 9223372036854775808 := by omega
    generalize n - 9223372036854775808 = r at *
    subst e
    have e5 : (9223372036854775808 + r) ^^^ 9223372036854775808 = r := by rw [← xor_turn h2, Nat.xor_assoc, Nat.xor_self, Nat.xor_zero]
    rw [e5]
    simp [wrap64]
    omega
set_option maxRecDepth 100000 in
set_option maxHeartbeats 2000000 in
theorem one_c2 (s : ByteArray) (r : List Nat) (w : World) (hsz : s.size ≤ 140737488351232) (h : bts s = 2 :: r) : Calls Tryd.prog 13 #[.string s] w (OneP (bts s) w) := by
  have hl := bts_length s
  have h0 : 0 < s.size := by rw [h] at hl; simp at hl; omega
  have hb0 := byte_at s 0 h0
  rw [h] at hb0
  simp only [List.getD_cons_zero] at hb0
  have hs1 := str_no (s := s) (by omega)
  have hs2 : s.toList.isEmpty = false := by
    cases hh : s.toList with
    | nil => exact absurd hh hs1
    | cons a l => rfl
  have hr : bts (s.extract 1 s.size) = r := by rw [bts_cutr, h]; rfl
  have ht := fun W => takeEight_any (s.extract 1 s.size) W (by rw [ByteArray.size_extract]; unfold maxLen; omega)
  have h1I : (1 : Int) ≤ s.size := by omega
  have hlt := fixedS_lt (s.extract 1 s.size) 8
  unfold Fixd at ht
  rw [hr] at ht hlt
  have e256 : (256 : Nat) ^ 8 = 18446744073709551616 := by decide
  rw [e256] at hlt
  by_cases h8 : r.length < 8
  · have HO := Lib.hid (show oneT (bts s) = none by rw [h]; simp [oneT, h8])
    have e2 : fixedS r 8 = (0, 10) := by unfold fixedS; rw [if_pos h8]
    rw [e2] at ht
    simp only at ht
    have HT := Lib.hid ht
    clear h hl ht e2 h8 hlt e256 hr
    go_enter Tryd.func13, Tryd.ntmps13
    go_wp2_with fail
    refine (HT.out _).mono ?_
    rintro e w2 ⟨rfl, rfl⟩
    go_wp2
    generalize wrap64 (bits .xor .u64 0 9223372036854775808) = z
    obtain ⟨d0, d1, d2, _, _, _⟩ := cell3 (Blk.new w 31 #[.int .u8 1, .int .i64 z, .string ⟨#[]⟩])
    exact bodyPost_ret (v := .tuple #[.agg #[.int .u8 1, .int .i64 z, .string ⟨#[]⟩], .int .i64 9, .bool false]) (by simp [results, Tryd.results13, go_sem, d0, d1, d2]) rfl (oneP_no (1, z, ⟨#[]⟩) 9 HO.out one_alloc)
  · have HO := Lib.hid (show oneT (bts s) = some ((1, (val 0 (r.take 8) : Int) - 9223372036854775808, ⟨#[]⟩), 9) by rw [h]; simp [oneT, h8]; rfl)
    have e2 : fixedS r 8 = (val 0 (r.take 8), 0) := by unfold fixedS; rw [if_neg h8]
    rw [e2] at ht hlt
    simp only at ht hlt
    have hx := xor_back hlt
    generalize val 0 (r.take 8) = N at *
    have HT := Lib.hid ht
    clear h hl ht e2 h8 hlt e256 hr
    go_enter Tryd.func13, Tryd.ntmps13
    go_wp2_with fail
    refine (HT.out _).mono ?_
    rintro e w2 ⟨rfl, rfl⟩
    go_wp2
    obtain ⟨d0, d1, d2, _, _, _⟩ := cell3 (Blk.new w 31 #[.int .u8 1, .int .i64 ((N : Int) - 9223372036854775808), .string ⟨#[]⟩])
    exact bodyPost_ret (v := .tuple #[.agg #[.int .u8 1, .int .i64 ((N : Int) - 9223372036854775808), .string ⟨#[]⟩], .int .i64 9, .bool true]) (by simp [results, Tryd.results13, go_sem, d0, d1, d2]) rfl (oneP_yes (1, (N : Int) - 9223372036854775808, ⟨#[]⟩) 9 HO.out one_alloc)
theorem chk_text (c : Nat) (S : ByteArray) (hc : c = 3 ∨ c = 4) : chk ((c : Int) - 1, 0, S) = if 1000 < S.size then 3 else 0 := by
  unfold chk
  simp only
  rw [if_neg (by omega)]
set_option maxRecDepth 100000 in
set_option maxHeartbeats 4000000 in
theorem one_c34 (s : ByteArray) (c : Nat) (r : List Nat) (w : World) (hsz : s.size ≤ 140737488351232) (h : bts s = c :: r) (hc : c = 3 ∨ c = 4) : Calls Tryd.prog 13 #[.string s] w (OneP (bts s) w) := by
  have hl := bts_length s
  have h0 : 0 < s.size := by rw [h] at hl; simp at hl; omega
  have hb0 := byte_at s 0 h0
  have hlt256 := bts_lt s
  rw [h] at hb0
  simp only [List.getD_cons_zero] at hb0
  have hs1 := str_no (s := s) (by omega)
  have hs2 : s.toList.isEmpty = false := by
    cases hh : s.toList with
    | nil => exact absurd hh hs1
    | cons a l => rfl
  have hr : bts (s.extract 1 s.size) = r := by rw [bts_cutr, h]; rfl
  have ht := fun W => text_any (s.extract 1 s.size) W (by rw [ByteArray.size_extract]; omega)
  have h1I : (1 : Int) ≤ s.size := by omega
  rw [hr] at ht
  have hone : oneT (bts s) = match textF r with
      | some (t, k) => if t.length ≤ 1000 then some (((c : Int) - 1, 0, bstr t), 1 + k) else none
      | none => none := by
    rw [h]
    unfold oneT
    simp only
    rw [if_neg (by omega), if_neg (by omega), if_pos hc]
    rfl
  cases htf : textF r with
  | none =>
    rw [htf] at hone ht
    simp only [txtR] at ht
    have HO := Lib.hid hone
    have HT := Lib.hid ht
    clear hone ht h hl hr htf hlt256
    rcases hc with rfl | rfl
    case inl =>
      go_enter Tryd.func13, Tryd.ntmps13
      go_wp2_with fail
      refine (HT.out _).mono ?_
      rintro e w2 ⟨rfl, hb2⟩
      have hblk : Blk w2 w.heap.size 31 #[.int .u8 2, .int .i64 0, .string ⟨#[]⟩] := blk_at hb2
      obtain ⟨c0, c1, c2, f0, f1, f2⟩ := cell3 hblk
      have hbs : Blk (w2.setCell ⟨w.heap.size, 2, none⟩ (.string ⟨#[]⟩)) w.heap.size 31 #[.int .u8 2, .int .i64 0, .string ⟨#[]⟩] := hblk.set_ 2 _
      obtain ⟨x0, x1, x2, g0, g1, g2⟩ := cell3 hbs
      have HBS := Lib.hid hbs
      have HB := Lib.hid ((bja _ (Below.refl _ _) hb2).setCell (p := ⟨w.heap.size, 2, none⟩) (Nat.le_refl _) (.string ⟨#[]⟩))
      clear hb2 hblk hbs
      go_wp2_with fail
      go_region_with (fail)
      all_goals
        go_wp2
        have y0 := (HBS.out.set_ 0 (.int .u8 2)).cell 0
        have y1 := ((HBS.out.set_ 0 (.int .u8 2)).set_ 1 (.int .i64 0)).cell 1
        have y2 := (((HBS.out.set_ 0 (.int .u8 2)).set_ 1 (.int .i64 0)).set_ 2 (.string ⟨#[]⟩)).cell 2
        refine bodyPost_ret (v := .tuple #[.agg #[.int .u8 2, .int .i64 0, .string ⟨#[]⟩], .int .i64 1, .bool false]) ?_ rfl (oneP_no (2, 0, ⟨#[]⟩) 1 HO.out (below3_set HB.out _ _ _).drew)
        simp [results, Tryd.results13, go_sem, y0, y1, y2]
        try decide
    case inr =>
      go_enter Tryd.func13, Tryd.ntmps13
      go_wp2_with fail
      refine (HT.out _).mono ?_
      rintro e w2 ⟨rfl, hb2⟩
      have hblk : Blk w2 w.heap.size 31 #[.int .u8 3, .int .i64 0, .string ⟨#[]⟩] := blk_at hb2
      obtain ⟨c0, c1, c2, f0, f1, f2⟩ := cell3 hblk
      have hbs : Blk (w2.setCell ⟨w.heap.size, 2, none⟩ (.string ⟨#[]⟩)) w.heap.size 31 #[.int .u8 3, .int .i64 0, .string ⟨#[]⟩] := hblk.set_ 2 _
      obtain ⟨x0, x1, x2, g0, g1, g2⟩ := cell3 hbs
      have HBS := Lib.hid hbs
      have HB := Lib.hid ((bja _ (Below.refl _ _) hb2).setCell (p := ⟨w.heap.size, 2, none⟩) (Nat.le_refl _) (.string ⟨#[]⟩))
      clear hb2 hblk hbs
      go_wp2_with fail
      go_region_with (fail)
      all_goals
        go_wp2
        have y0 := (HBS.out.set_ 0 (.int .u8 3)).cell 0
        have y1 := ((HBS.out.set_ 0 (.int .u8 3)).set_ 1 (.int .i64 0)).cell 1
        have y2 := (((HBS.out.set_ 0 (.int .u8 3)).set_ 1 (.int .i64 0)).set_ 2 (.string ⟨#[]⟩)).cell 2
        refine bodyPost_ret (v := .tuple #[.agg #[.int .u8 3, .int .i64 0, .string ⟨#[]⟩], .int .i64 1, .bool false]) ?_ rfl (oneP_no (3, 0, ⟨#[]⟩) 1 HO.out (below3_set HB.out _ _ _).drew)
        simp [results, Tryd.results13, go_sem, y0, y1, y2]
        try decide
  | some p =>
    obtain ⟨t, k⟩ := p
    rw [htf] at hone ht
    simp only [txtR] at ht hone
    have hkb : k ≤ s.size := by
      obtain ⟨_, e2, _, _⟩ := textF_some _ r (Nat.le_refl _) t k htf
      rw [← hl, h]; simp; omega
    have hkI : (k : Int) ≤ 140737488351232 := by omega
    have HW := Lib.hid (show IntKind.i64.wrap (1 + (k : Int)) = 1 + (k : Int) by simp [IntKind.wrap, IntKind.bits, IntKind.signed]; omega)
    have hS : (bstr t).size = t.length := bstr_size t
    have hck := fun W => check_any ((c : Int) - 1, 0, bstr t) W ⟨by simp only; omega, by simp only; omega, by simp, by simp⟩
    rw [chk_text c _ hc, hS] at hck
    by_cases h1000 : t.length ≤ 1000
    · rw [if_pos h1000] at hone
      rw [if_neg (by omega)] at hck
      generalize bstr t = S at *
      have HO := Lib.hid hone
      have HT := Lib.hid ht
      have HCK := Lib.hid hck
      clear hone ht hck h hl hr htf hlt256 hS h1000
      rcases hc with rfl | rfl
      case inl =>
        have HCK2 : Hid (∀ W, Calls Tryd.prog 17 #[.agg #[.int .u8 2, .int .i64 0, .string S]] W fun e w' => e = .returned (.int .i64 0) ∧ Below W.heap.size W w') := HCK
        go_enter Tryd.func13, Tryd.ntmps13
        go_wp2_with fail
        refine (HT.out _).mono ?_
        rintro e w2 ⟨rfl, hb2⟩
        have hblk : Blk w2 w.heap.size 31 #[.int .u8 2, .int .i64 0, .string ⟨#[]⟩] := blk_at hb2
        obtain ⟨c0, c1, c2, f0, f1, f2⟩ := cell3 hblk
        have hbs : Blk (w2.setCell ⟨w.heap.size, 2, none⟩ (.string S)) w.heap.size 31 #[.int .u8 2, .int .i64 0, .string S] := hblk.set_ 2 _
        obtain ⟨x0, x1, x2, g0, g1, g2⟩ := cell3 hbs
        have HBS := Lib.hid hbs
        have HB := Lib.hid ((bja _ (Below.refl _ _) hb2).setCell (p := ⟨w.heap.size, 2, none⟩) (Nat.le_refl _) (.string S))
        clear hb2 hblk hbs
        go_wp2_with fail
        go_region_with ((go_at_call 17; (with_reducible refine (HCK2.out _).mono ?_); rintro e w3 ⟨rfl, hb3⟩; (have hb3' := blk_step HBS.out.drew hb3); (obtain ⟨z0, z1, z2, h0, h1, h2⟩ := cell3 hb3')))
        all_goals
          go_wp2
          have y0 := (hb3'.set_ 0 (.int .u8 2)).cell 0
          have y1 := ((hb3'.set_ 0 (.int .u8 2)).set_ 1 (.int .i64 0)).cell 1
          have y2 := (((hb3'.set_ 0 (.int .u8 2)).set_ 1 (.int .i64 0)).set_ 2 (.string S)).cell 2
          refine bodyPost_ret (v := .tuple #[.agg #[.int .u8 2, .int .i64 0, .string S], .int .i64 ((1 + k : Nat) : Int), .bool true]) ?_ rfl ?_
          · simp [results, Tryd.results13, go_sem, y0, y1, y2]
            try exact HW.out
          · exact oneP_yes (2, 0, S) _ HO.out (below3_set (bj HB.out.drew hb3) _ _ _)
      case inr =>
        have HCK2 : Hid (∀ W, Calls Tryd.prog 17 #[.agg #[.int .u8 3, .int .i64 0, .string S]] W fun e w' => e = .returned (.int .i64 0) ∧ Below W.heap.size W w') := HCK
        go_enter Tryd.func13, Tryd.ntmps13
        go_wp2_with fail
        refine (HT.out _).mono ?_
        rintro e w2 ⟨rfl, hb2⟩
        have hblk : Blk w2 w.heap.size 31 #[.int .u8 3, .int .i64 0, .string ⟨#[]⟩] := blk_at hb2
        obtain ⟨c0, c1, c2, f0, f1, f2⟩ := cell3 hblk
        have hbs : Blk (w2.setCell ⟨w.heap.size, 2, none⟩ (.string S)) w.heap.size 31 #[.int .u8 3, .int .i64 0, .string S] := hblk.set_ 2 _
        obtain ⟨x0, x1, x2, g0, g1, g2⟩ := cell3 hbs
        have HBS := Lib.hid hbs
        have HB := Lib.hid ((bja _ (Below.refl _ _) hb2).setCell (p := ⟨w.heap.size, 2, none⟩) (Nat.le_refl _) (.string S))
        clear hb2 hblk hbs
        go_wp2_with fail
        go_region_with ((go_at_call 17; (with_reducible refine (HCK2.out _).mono ?_); rintro e w3 ⟨rfl, hb3⟩; (have hb3' := blk_step HBS.out.drew hb3); (obtain ⟨z0, z1, z2, h0, h1, h2⟩ := cell3 hb3')))
        all_goals
          go_wp2
          have y0 := (hb3'.set_ 0 (.int .u8 3)).cell 0
          have y1 := ((hb3'.set_ 0 (.int .u8 3)).set_ 1 (.int .i64 0)).cell 1
          have y2 := (((hb3'.set_ 0 (.int .u8 3)).set_ 1 (.int .i64 0)).set_ 2 (.string S)).cell 2
          refine bodyPost_ret (v := .tuple #[.agg #[.int .u8 3, .int .i64 0, .string S], .int .i64 ((1 + k : Nat) : Int), .bool true]) ?_ rfl ?_
          · simp [results, Tryd.results13, go_sem, y0, y1, y2]
            try exact HW.out
          · exact oneP_yes (3, 0, S) _ HO.out (below3_set (bj HB.out.drew hb3) _ _ _)
    · rw [if_neg h1000] at hone
      rw [if_pos (by omega)] at hck
      generalize bstr t = S at *
      have HO := Lib.hid hone
      have HT := Lib.hid ht
      have HCK := Lib.hid hck
      clear hone ht hck h hl hr htf hlt256 hS h1000
      rcases hc with rfl | rfl
      case inl =>
        have HCK2 : Hid (∀ W, Calls Tryd.prog 17 #[.agg #[.int .u8 2, .int .i64 0, .string S]] W fun e w' => e = .returned (.int .i64 3) ∧ Below W.heap.size W w') := HCK
        go_enter Tryd.func13, Tryd.ntmps13
        go_wp2_with fail
        refine (HT.out _).mono ?_
        rintro e w2 ⟨rfl, hb2⟩
        have hblk : Blk w2 w.heap.size 31 #[.int .u8 2, .int .i64 0, .string ⟨#[]⟩] := blk_at hb2
        obtain ⟨c0, c1, c2, f0, f1, f2⟩ := cell3 hblk
        have hbs : Blk (w2.setCell ⟨w.heap.size, 2, none⟩ (.string S)) w.heap.size 31 #[.int .u8 2, .int .i64 0, .string S] := hblk.set_ 2 _
        obtain ⟨x0, x1, x2, g0, g1, g2⟩ := cell3 hbs
        have HBS := Lib.hid hbs
        have HB := Lib.hid ((bja _ (Below.refl _ _) hb2).setCell (p := ⟨w.heap.size, 2, none⟩) (Nat.le_refl _) (.string S))
        clear hb2 hblk hbs
        go_wp2_with fail
        go_region_with ((go_at_call 17; (with_reducible refine (HCK2.out _).mono ?_); rintro e w3 ⟨rfl, hb3⟩; (have hb3' := blk_step HBS.out.drew hb3); (obtain ⟨z0, z1, z2, h0, h1, h2⟩ := cell3 hb3')))
        all_goals
          go_wp2
          have y0 := (hb3'.set_ 0 (.int .u8 2)).cell 0
          have y1 := ((hb3'.set_ 0 (.int .u8 2)).set_ 1 (.int .i64 0)).cell 1
          have y2 := (((hb3'.set_ 0 (.int .u8 2)).set_ 1 (.int .i64 0)).set_ 2 (.string S)).cell 2
          refine bodyPost_ret (v := .tuple #[.agg #[.int .u8 2, .int .i64 0, .string S], .int .i64 ((1 + k : Nat) : Int), .bool false]) ?_ rfl ?_
          · simp [results, Tryd.results13, go_sem, y0, y1, y2]
            try exact HW.out
          · exact oneP_no (2, 0, S) _ HO.out (below3_set (bj HB.out.drew hb3) _ _ _)
      case inr =>
        have HCK2 : Hid (∀ W, Calls Tryd.prog 17 #[.agg #[.int .u8 3, .int .i64 0, .string S]] W fun e w' => e = .returned (.int .i64 3) ∧ Below W.heap.size W w') := HCK
        go_enter Tryd.func13, Tryd.ntmps13
        go_wp2_with fail
        refine (HT.out _).mono ?_
        rintro e w2 ⟨rfl, hb2⟩
        have hblk : Blk w2 w.heap.size 31 #[.int .u8 3, .int .i64 0, .string ⟨#[]⟩] := blk_at hb2
        obtain ⟨c0, c1, c2, f0, f1, f2⟩ := cell3 hblk
        have hbs : Blk (w2.setCell ⟨w.heap.size, 2, none⟩ (.string S)) w.heap.size 31 #[.int .u8 3, .int .i64 0, .string S] := hblk.set_ 2 _
        obtain ⟨x0, x1, x2, g0, g1, g2⟩ := cell3 hbs
        have HBS := Lib.hid hbs
        have HB := Lib.hid ((bja _ (Below.refl _ _) hb2).setCell (p := ⟨w.heap.size, 2, none⟩) (Nat.le_refl _) (.string S))
        clear hb2 hblk hbs
        go_wp2_with fail
        go_region_with ((go_at_call 17; (with_reducible refine (HCK2.out _).mono ?_); rintro e w3 ⟨rfl, hb3⟩; (have hb3' := blk_step HBS.out.drew hb3); (obtain ⟨z0, z1, z2, h0, h1, h2⟩ := cell3 hb3')))
        all_goals
          go_wp2
          have y0 := (hb3'.set_ 0 (.int .u8 3)).cell 0
          have y1 := ((hb3'.set_ 0 (.int .u8 3)).set_ 1 (.int .i64 0)).cell 1
          have y2 := (((hb3'.set_ 0 (.int .u8 3)).set_ 1 (.int .i64 0)).set_ 2 (.string S)).cell 2
          refine bodyPost_ret (v := .tuple #[.agg #[.int .u8 3, .int .i64 0, .string S], .int .i64 ((1 + k : Nat) : Int), .bool false]) ?_ rfl ?_
          · simp [results, Tryd.results13, go_sem, y0, y1, y2]
            try exact HW.out
          · exact oneP_no (3, 0, S) _ HO.out (below3_set (bj HB.out.drew hb3) _ _ _)
theorem one_any (s : ByteArray) (w : World) (hsz : s.size ≤ 140737488351232) : Calls Tryd.prog 13 #[.string s] w (OneP (bts s) w) := by
  cases h : bts s with
  | nil =>
    obtain rfl := empty_of (s := s) (by rw [← bts_length, h]; rfl)
    exact one_empty w
  | cons c r =>
    have hm : ∀ (L : List Nat), L = bts s → Calls Tryd.prog 13 #[.string s] w (OneP (bts s) w) := fun L hL => by
      by_cases h1 : c = 1
      · subst h1; exact one_c1 s r w h
      · by_cases h2 : c = 2
        · subst h2; exact one_c2 s r w hsz h
        · by_cases h3 : c = 3 ∨ c = 4
          · exact one_c34 s c r w hsz h h3
          · exact one_bad s c r w h (by omega)
    rw [← h]
    exact hm _ rfl
end Go.Proofs.YtibaacklcdknnaaDoor
