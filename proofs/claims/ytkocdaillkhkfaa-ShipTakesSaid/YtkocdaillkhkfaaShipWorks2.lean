/- The laws' own small check of package ship: its walk; what ship.Put answers is a ship. No condition. -/
import Derived.Test.YtkocdaillkhkfaaShipWorks
namespace Go.Proofs.Ytkocdaillkhkfaa
open Go.RowKit
set_option linter.unusedVariables false
theorem imgL_lt (x : Int × ByteArray) : ∀ y ∈ imgL x, y < 256 := by
  intro y hy
  unfold imgL at hy
  rcases List.mem_append.1 hy with h | h
  · exact eight_lt _ y h
  · exact bts_lt _ y h
theorem shipB_lt (kind ep K : Nat) (full : Bool) (pages : Nat) (l : List (Int × ByteArray)) : ∀ y ∈ shipB kind ep K full pages l, y < 256 := by
  intro y hy
  rw [shipB_cut] at hy
  simp only [List.mem_append] at hy
  rcases hy with h | h | h | h | h | h | h
  · exact eight_lt _ y h
  · exact eight_lt _ y h
  · exact eight_lt _ y h
  · exact eight_lt _ y h
  · exact eight_lt _ y h
  · exact eight_lt _ y h
  · unfold imgsL at h
    obtain ⟨x, _, hx⟩ := List.mem_flatMap.1 h
    exact imgL_lt x y hx
theorem shipL_lt (kind ep K : Nat) (full : Bool) (pages : Nat) (l : List (Int × ByteArray)) : ∀ y ∈ shipL kind ep K full pages l, y < 256 := by
  intro y hy
  unfold shipL at hy
  rcases List.mem_append.1 hy with h | h
  · exact text_lt _ _ y h
  · exact shipB_lt _ _ _ _ _ _ y h
theorem imgsOk_all {a pages : Int} {l : List (Int × ByteArray)} (h : imgsOk a l pages = true) (ha : 0 ≤ a) (hp : pages ≤ 256) : (∀ x ∈ l, x.2.size = 512 ∧ 0 ≤ x.1 ∧ x.1 ≤ 256) ∧ (a ≤ pages → (l.length : Int) ≤ pages - a) ∧ (pages < a → l = []) := by
  induction l generalizing a with
  | nil => exact ⟨fun x hx => by simp at hx, fun h => by simp; omega, fun _ => rfl⟩
  | cons x r ih =>
    simp only [imgsOk, Bool.and_eq_true, decide_eq_true_eq] at h
    obtain ⟨⟨⟨h1, h2⟩, h3⟩, h4⟩ := h
    obtain ⟨i1, i2, i3⟩ := ih h4 (by omega)
    refine ⟨fun y hy => ?_, fun _ => ?_, fun h => by omega⟩
    · rcases List.mem_cons.1 hy with rfl | hy
      · exact ⟨h3, by omega, by omega⟩
      · exact i1 y hy
    · have := i2 h2
      rw [List.length_cons]; omega
structure PutB (kind pages : Int) (l : List (Int × ByteArray)) : Prop where
  hk0 : 0 ≤ kind
  hk : kind ≤ 2
  hp0 : 0 ≤ pages
  hp : pages ≤ 256
  hl : l.length ≤ 256
  hx : ∀ x ∈ l, x.2.size = 512 ∧ 0 ≤ x.1 ∧ x.1 ≤ 256
theorem ok_bounds {kind K pages : Int} {full : Bool} {l : List (Int × ByteArray)} (h : shipOk kind K full pages l = true) : PutB kind pages l := by
  unfold shipOk at h
  by_cases k1 : kind = 1
  · rw [if_pos k1] at h
    simp only [Bool.and_eq_true, decide_eq_true_eq] at h
    obtain ⟨⟨⟨⟨h1, h2⟩, h3⟩, h4⟩, h5⟩ := h
    obtain ⟨i1, i2, _⟩ := imgsOk_all h4 (by omega) h2
    have := i2 (by omega)
    exact ⟨by omega, by omega, by omega, h2, by omega, i1⟩
  · rw [if_neg k1] at h
    by_cases k2 : kind = 2
    · rw [if_pos k2] at h
      simp only [Bool.and_eq_true, decide_eq_true_eq] at h
      obtain ⟨⟨h1, h2⟩, h3⟩ := h
      have : l = [] := List.eq_nil_of_length_eq_zero h3
      subst this
      exact ⟨by omega, by omega, by omega, by omega, by simp, fun x hx => by simp at hx⟩
    · rw [if_neg k2] at h; cases h
theorem put_is {kind ep K pages : Nat} {full : Bool} {l : List (Int × ByteArray)} (h : shipOk kind K full pages l = true) (hep : ep < 18446744073709551616) (hK : K < 18446744073709551616) : IsShip (bstr (shipL kind ep K full pages l)) kind ep K full pages l := by
  obtain ⟨b1, b2, b3, b4, b5, b6⟩ := ok_bounds h
  exact ⟨bts_bstr _ (shipL_lt _ _ _ _ _ _), h, by omega, hep, hK, by omega, b5, b6⟩
theorem put_yes (kind ep K pages : Nat) (full : Bool) (A : Option Addr) (l : List (Int × ByteArray)) (n c : Nat) (w : World) (hI : Imgs w w.heap.size A l) (hn : n = l.length) (hep : ep < 18446744073709551616) (hK : K < 18446744073709551616) (hok : shipOk kind K full pages l = true) :
    Calls Try.prog 10 #[.agg #[.int .u8 kind, .int .u64 ep, .int .u64 K, .bool full, .int .i64 pages, .slice A n c]] w fun e w' => e = .returned (.tuple #[.string (bstr (shipL kind ep K full pages l)), .int .i64 0]) ∧ Below w.heap.size w w' := by
  obtain ⟨b1, b2, b3, b4, b5, b6⟩ := ok_bounds hok
  exact shipPut_head kind ep K pages full A l n c w hI hn (by omega) (by omega) hep hK (by omega) b6 hok
theorem twoL_ok : shipOk 1 5 false 3 twoL = true := by
  have h1 := pgD_size 97
  have h2 := pgD_size 98
  unfold shipOk twoL
  simp [imgsOk, h1, h2]
def Ws (w : World) (g : Nat) (A : Option Addr) (c : Nat) (W : World) : Prop := Blk W g 28 #[.int .u8 1, .int .u64 1, .int .u64 5, .bool false, .int .i64 3, .slice A 2 c] ∧ Imgs W W.heap.size A twoL ∧ Below w.heap.size w W
theorem ws_step {w W W' : World} {g : Nat} {A : Option Addr} {c : Nat} (hb : Below W.heap.size W W') (h : Ws w g A c W) : Ws w g A c W' := ⟨blk_step h.1 hb, imgs_mono (imgs_below h.2.1 hb) hb.size, bj h.2.2 hb⟩
theorem wsS {w W : World} {g : Nat} {A : Option Addr} {c : Nat} (h : Ws w g A c W) : W.cell? ⟨g, 0, none⟩ = some (.int .u8 1) ∧ W.cell? ⟨g, 1, none⟩ = some (.int .u64 1) ∧ W.cell? ⟨g, 2, none⟩ = some (.int .u64 5) ∧ W.cell? ⟨g, 3, none⟩ = some (.bool false) ∧ W.cell? ⟨g, 4, none⟩ = some (.int .i64 3) ∧ W.cell? ⟨g, 5, none⟩ = some (.slice A 2 c) :=
  ⟨h.1.cell 0, h.1.cell 1, h.1.cell 2, h.1.cell 3, h.1.cell 4, h.1.cell 5⟩
theorem wsI {w W : World} {g : Nat} {A : Option Addr} {c : Nat} (h : Ws w g A c W) : Imgs W W.heap.size A twoL := h.2.1
theorem wsB {w W : World} {g : Nat} {A : Option Addr} {c : Nat} (h : Ws w g A c W) : Below w.heap.size w W := h.2.2
theorem ws_new {w W : World} {A : Option Addr} {c : Nat} (hI : Imgs W W.heap.size A twoL) (hb : Below w.heap.size w W) : Ws w W.heap.size A c (W.alloc (.cells #[.int .u8 1, .int .u64 1, .int .u64 5, .bool false, .int .i64 3, .slice A 2 c] 28)) :=
  ⟨Blk.new _ _ _, imgs_mono (imgs_below hI ((Below.refl _ _).alloc (Nat.le_refl _) _)) (by simp), hb.alloc hb.size _⟩
theorem same_yes (A C : Option Addr) (c c' : Nat) (W : World) (hI : Imgs W W.heap.size A twoL) (hJ : Imgs W W.heap.size C twoL) : Calls Try.prog 16 #[.agg #[.int .u8 1, .int .u64 1, .int .u64 5, .bool false, .int .i64 3, .slice A 2 c], .agg #[.int .u8 1, .int .u64 1, .int .u64 5, .bool false, .int .i64 3, .slice C 2 c']] W fun e w' => e = .returned (.bool true) ∧ Below W.heap.size W w' := by
  have h := same_any 1 1 5 3 false A twoL 2 c 1 1 5 3 false C twoL 2 c' W hI hJ rfl rfl (by unfold maxLen; omega)
  have e : sameB 1 1 5 3 false twoL 1 1 5 3 false twoL = true := by unfold sameB; exact decide_eq_true ⟨rfl, rfl, rfl, rfl, rfl, rfl⟩
  rwa [e] at h
theorem same_no (A : Option Addr) (c : Nat) (W : World) (hI : Imgs W W.heap.size A twoL) : Calls Try.prog 16 #[.agg #[.int .u8 1, .int .u64 1, .int .u64 5, .bool false, .int .i64 3, .slice A 2 c], .agg #[.int .u8 0, .int .u64 0, .int .u64 0, .bool false, .int .i64 0, .slice none 0 0]] W fun e w' => e = .returned (.bool false) ∧ Below W.heap.size W w' := by
  have h := same_any 1 1 5 3 false A twoL 2 c 0 0 0 0 false none [] 0 0 W hI (.inl rfl) rfl rfl (by unfold maxLen; omega)
  have e : sameB 1 1 5 3 false twoL 0 0 0 0 false [] = false := by unfold sameB; exact decide_eq_false fun h => by simp at h
  rwa [e] at h
set_option maxRecDepth 100000 in
set_option maxHeartbeats 8000000 in
theorem works_core (S : ByteArray) (w : World) (hS : (S.size : Int) = 1096)
    (HT : Hid (∀ w, Calls Try.prog 25 #[] w (TwoPost w)))
    (HP : Hid (∀ w A, Imgs w w.heap.size A twoL → Calls Try.prog 10 #[.agg #[.int .u8 1, .int .u64 1, .int .u64 5, .bool false, .int .i64 3, .slice A 2 2]] w fun e w' => e = .returned (.tuple #[.string S, .int .i64 0]) ∧ Below w.heap.size w w'))
    (HK : Hid (∀ w, Calls Try.prog 12 #[.string S] w fun e w' => ∃ A c, e = .returned (.tuple #[.agg #[.int .u8 1, .int .u64 1, .int .u64 5, .bool false, .int .i64 3, .slice A 2 c], .int .i64 0]) ∧ Imgs w' w'.heap.size A twoL ∧ Below w.heap.size w w')) :
    Calls Try.prog 11 #[] w fun e w' => e = .returned (.bool true) ∧ Below w.heap.size w w' := by
  have HSZ := Lib.hid hS
  clear hS
  go_enter Try.func11, Try.ntmps11
  go_wp2_with fail
  refine (HT.out _).mono ?_
  rintro e w1 ⟨A1, rfl, hI1, hb1⟩
  go_wp2_with fail
  refine (HP.out _ _ hI1).mono ?_
  rintro e w2 ⟨rfl, hb2⟩
  have hb12 := bj hb1 hb2
  clear hb1 hb2 hI1
  go_wp2_with fail
  refine (HK.out _).mono ?_
  rintro e w3 ⟨A3, c3, rfl, hI3, hb3⟩
  have hs0 := ws_new (c := c3) hI3 (bj hb12 hb3)
  clear hb12 hb3 hI3
  have hsd := ws_step (Below.refl _ _).drew hs0
  have hS := HSZ.out
  have HS0 := Lib.hid hs0
  clear hs0
  go_wp2_with fail
  go_region_held3 (fun W => W.cell? ⟨w3.heap.size, 0, none⟩ = some (.int .u8 1) ∧ W.cell? ⟨w3.heap.size, 1, none⟩ = some (.int .u64 1) ∧ W.cell? ⟨w3.heap.size, 2, none⟩ = some (.int .u64 5) ∧ W.cell? ⟨w3.heap.size, 3, none⟩ = some (.bool false) ∧ W.cell? ⟨w3.heap.size, 4, none⟩ = some (.int .i64 3) ∧ W.cell? ⟨w3.heap.size, 5, none⟩ = some (.slice A3 2 c3))
    (with_reducible first | exact wsS hsd | exact wsS h5 | exact wsS h6 | exact wsS h7)
    (first
      | (go_at_call 25; (with_reducible refine (HT.out _).mono ?_); rintro e w5 ⟨A5, rfl, hI5, hb5⟩; (have h5 := ws_step hb5 hsd))
      | (go_at_call 16; (with_reducible refine (same_yes _ _ _ _ _ (wsI h5) hI5).mono ?_); rintro e w6 ⟨rfl, hb6⟩; (have h6 := ws_step hb6 h5))
      | (go_at_call 16; (with_reducible refine (same_no _ _ _ (wsI h6)).mono ?_); rintro e w7 ⟨rfl, hb7⟩; (have h7 := ws_step hb7 h6)))
  all_goals
    go_wp2
    go_ret
    exact ⟨rfl, wsB h7⟩
theorem works_any (w : World) : Calls Try.prog 11 #[] w fun e w' => e = .returned (.bool true) ∧ Below w.heap.size w w' := by
  have hi := put_is (kind := 1) (ep := 1) (K := 5) (pages := 3) (full := false) (l := twoL) twoL_ok (by omega) (by omega)
  have hsz := ship_size hi
  refine works_core (bstr (shipL 1 1 5 false 3 twoL)) w (by rw [hsz]; rfl) (Lib.hid two_any) (Lib.hid fun w A hI => ?_) (Lib.hid fun w => ?_)
  · exact put_yes 1 1 5 3 false A twoL 2 2 w hI rfl (by omega) (by omega) twoL_ok
  · exact take_yes _ 1 1 5 false 3 twoL w (by rw [hsz]; show 56 + 520 * 2 ≤ _; omega) hi
end Go.Proofs.Ytkocdaillkhkfaa
