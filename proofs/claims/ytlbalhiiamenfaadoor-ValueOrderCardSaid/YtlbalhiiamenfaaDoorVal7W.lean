/- The laws' own small functions of layer 7. Conditions: the laid variables hold what they should. -/
import Derived.Test.YtlbalhiiamenfaaDoorRead3
import Derived.Test.YtlbalhiiamenfaaDoorValCmp
namespace Go.Proofs.YtlbalhiiamenfaaDoor
open Go.RowKit
set_option linter.unusedVariables false
set_option maxRecDepth 100000 in
theorem mkNumber (n : Int) (w : World) : Calls Tryd.prog 14 #[.int .i64 n] w fun e w' => e = .returned (.agg #[.int .u8 1, .int .i64 n, .string ⟨#[]⟩]) ∧ Below w.heap.size w w' := by
  go_enter Tryd.func14, Tryd.ntmps14
  go_wp2
  first
    | exact bodyPost_ret (v := .agg #[.int .u8 1, .int .i64 n, .string ⟨#[]⟩]) (by simp [results, Tryd.results14, go_sem]) rfl ⟨rfl, one_alloc⟩
    | (obtain ⟨e0, e1, e2, _, _, _⟩ := cell3 (blk3_set (Blk.new w 24 #[.int .u8 0, .int .i64 0, .string ⟨#[]⟩]) (.int .u8 1) (.int .i64 n) (.string ⟨#[]⟩))
       exact bodyPost_ret (v := .agg #[.int .u8 1, .int .i64 n, .string ⟨#[]⟩]) (by simp [results, Tryd.results14, go_sem, e0, e1, e2]) rfl ⟨rfl, below3_set one_alloc _ _ _⟩)
set_option maxRecDepth 100000 in
theorem mkText (s : ByteArray) (w : World) : Calls Tryd.prog 12 #[.string s] w fun e w' => e = .returned (.agg #[.int .u8 2, .int .i64 0, .string s]) ∧ Below w.heap.size w w' := by
  go_enter Tryd.func12, Tryd.ntmps12
  go_wp2
  first
    | exact bodyPost_ret (v := .agg #[.int .u8 2, .int .i64 0, .string s]) (by simp [results, Tryd.results12, go_sem]) rfl ⟨rfl, one_alloc⟩
    | (obtain ⟨e0, e1, e2, _, _, _⟩ := cell3 (blk3_set (Blk.new w 24 #[.int .u8 0, .int .i64 0, .string ⟨#[]⟩]) (.int .u8 2) (.int .i64 0) (.string s))
       exact bodyPost_ret (v := .agg #[.int .u8 2, .int .i64 0, .string s]) (by simp [results, Tryd.results12, go_sem, e0, e1, e2]) rfl ⟨rfl, below3_set one_alloc _ _ _⟩)
set_option maxRecDepth 100000 in
theorem mkBlob (s : ByteArray) (w : World) : Calls Tryd.prog 17 #[.string s] w fun e w' => e = .returned (.agg #[.int .u8 3, .int .i64 0, .string s]) ∧ Below w.heap.size w w' := by
  go_enter Tryd.func17, Tryd.ntmps17
  go_wp2
  first
    | exact bodyPost_ret (v := .agg #[.int .u8 3, .int .i64 0, .string s]) (by simp [results, Tryd.results17, go_sem]) rfl ⟨rfl, one_alloc⟩
    | (obtain ⟨e0, e1, e2, _, _, _⟩ := cell3 (blk3_set (Blk.new w 24 #[.int .u8 0, .int .i64 0, .string ⟨#[]⟩]) (.int .u8 3) (.int .i64 0) (.string s))
       exact bodyPost_ret (v := .agg #[.int .u8 3, .int .i64 0, .string s]) (by simp [results, Tryd.results17, go_sem, e0, e1, e2]) rfl ⟨rfl, below3_set one_alloc _ _ _⟩)
set_option maxRecDepth 100000 in
theorem long7 (s : ByteArray) (w : World) : Calls Tryd.prog 19 #[.string s] w fun e w' => e = .returned (.bool (decide (16384 < s.size))) ∧ w = w' := by
  go_enter Tryd.func19, Tryd.ntmps19
  go_wp2
  go_ret
  exact ⟨(rbool (decide_eq_decide.2 (by omega)) : Ending.returned (.bool (decide ((16384 : Int) < (s.size : Int)))) = .returned (.bool (decide (16384 < s.size)))), rfl⟩
def great7B (l : List Val) : Bool := decide (100 < l.length) || l.any (fun x => decide (4096 < x.2.2.size))
set_option maxRecDepth 100000 in
set_option maxHeartbeats 4000000 in
theorem great7 (A : Option Addr) (l : List Val) (n c : Nat) (w : World) (hV : Vals w w.heap.size A l) (hn : n = l.length) (hm : n ≤ maxLen) :
    Calls Tryd.prog 24 #[.slice A n c] w fun e w' => e = .returned (.bool (great7B l)) ∧ Below w.heap.size w w' := by
  unfold maxLen at hm
  by_cases h60 : 100 < n
  · have HR := Lib.hid (show great7B l = true by unfold great7B; rw [decide_eq_true (by omega)]; rfl)
    have h60' : (100 : Int) < n := by omega
    clear hn h60
    go_enter Tryd.func24, Tryd.ntmps24
    go_wp2
    go_ret
    exact ⟨rbool HR.out.symm, Below.refl _ _⟩
  · have HR := Lib.hid (show great7B l = l.any (fun x => decide (4096 < x.2.2.size)) by unfold great7B; rw [decide_eq_false (by omega)]; rfl)
    have h60' : (n : Int) ≤ 100 := by omega
    clear h60
    by_cases h0 : n = 0
    · subst h0
      obtain rfl : l = [] := List.eq_nil_of_length_eq_zero hn.symm
      have HE := Lib.hid (show great7B [] = false by decide)
      clear hV hn
      go_enter Tryd.func24, Tryd.ntmps24
      go_wp2
      go_loopw [10] (fun i wr => i = .int .i64 0 ∧ Below w.heap.size w wr) (fun _ _ => 0)
      case atStart => exact ⟨rfl, Below.refl _ _⟩
      case round =>
        obtain ⟨rfl, hb⟩ := hrel
        go_wp2
        go_ret
        exact ⟨rbool HE.out.symm, hb⟩
    · obtain ⟨b, o, rfl, hbl, hc⟩ := vals_get hV (fun e => by rw [e] at hn; exact h0 hn)
      have HC := Lib.hid hc
      have HN := Lib.hid hn
      clear hc hV hn h0
      go_enter Tryd.func24, Tryd.ntmps24
      go_wp2
      go_loopw [10] (fun i wr => ∃ j : Nat, j ≤ n ∧ i = .int .i64 j ∧ l.any (fun x => decide (4096 < x.2.2.size)) = (l.drop j).any (fun x => decide (4096 < x.2.2.size)) ∧ Below w.heap.size w wr) (fun i _ => n - (intOf i).toNat)
      case atStart => exact ⟨0, by omega, rfl, rfl, Below.refl _ _⟩
      case round =>
        obtain ⟨j, hj, rfl, heq, hb⟩ := hrel
        by_cases hjn : j < n
        · have hjl : j < l.length := by have := HN.out; omega
          obtain ⟨a1, a2, a3⟩ := HC.out j l[j] (List.getElem?_eq_getElem hjl)
          have c1 := (hb.cell (p := ⟨b, o + j * 3, none⟩) hbl).trans a1
          have c2 := (hb.cell (p := ⟨b, o + j * 3 + 1, none⟩) hbl).trans a2
          have c3 := (hb.cell (p := ⟨b, o + j * 3 + 2, none⟩) hbl).trans a3
          have hd : l.drop j = l[j] :: l.drop (j + 1) := List.drop_eq_getElem_cons hjl
          rw [hd, List.any_cons] at heq
          generalize l[j] = x at *
          obtain ⟨p, q, s⟩ := x
          simp only at c1 c2 c3 heq
          clear a1 a2 a3 hd
          by_cases hs : 4096 < s.size
          · have HE := Lib.hid (show great7B l = true by rw [HR.out, heq, decide_eq_true hs]; rfl)
            have hsI : (4096 : Int) < s.size := by omega
            clear heq hs
            go_wp2
            go_ret
            exact ⟨rbool HE.out.symm, hb.alloc hb.size _⟩
          · rw [decide_eq_false hs, Bool.false_or] at heq
            have HE := Lib.hid heq
            have hsI : (s.size : Int) ≤ 4096 := by omega
            clear heq hs
            go_wp2
            go_roundw
            case rel => exact ⟨j + 1, by omega, by go_num, HE.out, hb.alloc hb.size _⟩
            case measure => simp [intOf]; omega
        · obtain rfl : j = n := by omega
          have hE : great7B l = false := by rw [HR.out, heq, List.drop_of_length_le (by have := HN.out; omega)]; rfl
          have HE := Lib.hid hE
          clear heq hE
          go_wp2
          go_ret
          exact ⟨rbool HE.out.symm, hb⟩
theorem great7_len {l : List Val} (h : great7B l = false) : l.length ≤ 100 ∧ ∀ x ∈ l, x.2.2.size ≤ 4096 := by
  unfold great7B at h
  simp only [Bool.or_eq_false_iff, decide_eq_false_iff_not, List.any_eq_false, decide_eq_true_eq] at h
  exact ⟨by omega, fun x hx => by have := h.2 x hx; omega⟩
/-- what was read stands -/
def Ws (w : World) (g : Nat) (W : World) : Prop := Blk W g 24 #[.int .u8 2, .int .i64 0, .string ⟨#[97, 39]⟩] ∧ Below w.heap.size w W
theorem ws_below {w W W' : World} {g : Nat} (h : Ws w g W) (hb : Below W.heap.size W W') : Ws w g W' := ⟨blk_step h.1 hb, bj h.2 hb⟩
theorem ws_S {w W : World} {g : Nat} (h : Ws w g W) : W.cell? ⟨g, 0, none⟩ = some (.int .u8 2) ∧ W.cell? ⟨g, 1, none⟩ = some (.int .i64 0) ∧ W.cell? ⟨g, 2, none⟩ = some (.string ⟨#[97, 39]⟩) ∧ Ws w g W := ⟨h.1.cell 0, h.1.cell 1, h.1.cell 2, h⟩
theorem ws_alloc {w W : World} {g : Nat} (h : Ws w g W) (o : Obj) : Ws w g (W.alloc o) := ws_below h ((Below.refl _ _).alloc (Nat.le_refl _) _)
theorem ws_drew {w W : World} {g : Nat} (h : Ws w g W) : Ws w g W.drew := ⟨h.1.drew, h.2.drew⟩
/-- a row that is written out -/
theorem vals_blk {W : World} {g : Nat} {t : TypeId} {l : List Val} {cs : Array Value} (h : Blk W g t cs) (hc : ∀ (j : Nat) x, l[j]? = some x → cs[j * 3]? = some (.int .u8 x.1) ∧ cs[j * 3 + 1]? = some (.int .i64 x.2.1) ∧ cs[j * 3 + 2]? = some (.string x.2.2)) : Vals W W.heap.size (some ⟨g, 0, none⟩) l := by
  refine .inr ⟨g, 0, rfl, h.lt, fun j x hx => ?_⟩
  obtain ⟨a, b, c⟩ := hc j x hx
  rw [Nat.zero_add]
  exact ⟨(h.cell _).trans a, (h.cell _).trans b, (h.cell _).trans c⟩
theorem lit_m3 : bstr (litL (1, -3, ⟨#[]⟩)) = ⟨#[45, 51]⟩ := by
  have h : litL (1, -3, ⟨#[]⟩) = itoL (-3) := by
    unfold litL
    rw [if_neg (by decide)]; rfl
  rw [h, show (-3 : Int) = -((3 : Nat) : Int) from rfl, itoL_neg 3 (by omega), digL_small (by omega)]
  decide
theorem ws_call {w W : World} {g : Nat} {f : FuncId} {args : Array Value} {v : Value} (h : Ws w g W) (hc : Calls Tryd.prog f args W fun e w' => e = .returned v ∧ Below W.heap.size W w') : Calls Tryd.prog f args W fun e w' => e = .returned v ∧ Ws w g w' :=
  hc.mono fun e w' he => ⟨he.1, ws_below h he.2⟩
set_option maxRecDepth 100000 in
set_option maxHeartbeats 8000000 in
theorem works7 (w : World) (hG : Gl w) : Calls Tryd.prog 18 #[] w fun e w' => e = .returned (.bool true) ∧ Below w.heap.size w w' := by
  have HRD : Hid (∀ W, Below w.heap.size w W → Calls Tryd.prog 10 #[.string ⟨#[39, 97, 39, 39, 39]⟩] W fun e w' => e = .returned (.tuple #[.agg #[.int .u8 2, .int .i64 0, .string ⟨#[97, 39]⟩], .int .i64 0]) ∧ Below W.heap.size W w') := Lib.hid fun W hb => by
    have h := read_any ⟨#[39, 97, 39, 39, 39]⟩ W (gl_below hG hb) (by decide)
    have e : readZ (bts ⟨#[39, 97, 39, 39, 39]⟩) = ((2, 0, ⟨#[97, 39]⟩), 0) := by decide
    rw [e] at h
    exact h
  have H12 := Lib.hid (fun g W (h : Ws w g W) => ws_call h (mkText ⟨#[97, 39]⟩ W))
  have H14 := Lib.hid (fun n g W (h : Ws w g W) => ws_call h (mkNumber n W))
  have H13 : Hid (∀ g W, Ws w g W → Calls Tryd.prog 13 #[.agg #[.int .u8 1, .int .i64 2, .string ⟨#[]⟩], .agg #[.int .u8 1, .int .i64 10, .string ⟨#[]⟩]] W fun e w' => e = .returned (.int .i64 (-1)) ∧ Ws w g w') := Lib.hid fun g W h => by
    have hc := vcompare_any (1, 2, ⟨#[]⟩) (1, 10, ⟨#[]⟩) W
    rw [show valCmp (1, 2, ⟨#[]⟩) (1, 10, ⟨#[]⟩) = -1 by decide] at hc
    exact ws_call h hc
  have H16 : Hid (∀ g W, Ws w g W → Calls Tryd.prog 16 #[.agg #[.int .u8 1, .int .i64 (-3), .string ⟨#[]⟩]] W fun e w' => e = .returned (.string ⟨#[45, 51]⟩) ∧ Ws w g w') := Lib.hid fun g W h => by
    have hc := lit_any (1, -3, ⟨#[]⟩) W (gl_below hG h.2) ⟨by decide, by decide, by decide, by decide⟩
    rw [lit_m3] at hc
    exact ws_call h hc
  have H20 : Hid (∀ g W, Ws w g W → Calls Tryd.prog 20 #[.agg #[.int .u8 0, .int .i64 1, .string ⟨#[]⟩]] W fun e w' => e = .returned (.int .i64 2) ∧ Ws w g w') := Lib.hid fun g W h => by
    have hc := check_any (0, 1, ⟨#[]⟩) W ⟨by decide, by decide, by decide, by decide⟩
    rw [show chk (0, 1, ⟨#[]⟩) = 2 by decide] at hc
    exact ws_call h hc
  have H15 : Hid (∀ g k W, Ws w g W → Blk W k 24 #[.int .u8 0, .int .i64 0, .string ⟨#[]⟩] → Calls Tryd.prog 15 #[.slice (some ⟨k, 0, none⟩) 1 1, .slice none 0 0] W fun e w' => e = .returned (.int .i64 1) ∧ Ws w g w') := Lib.hid fun g k W h hk => by
    have hc := cmpRows_any (some ⟨k, 0, none⟩) [(0, 0, ⟨#[]⟩)] 1 1 none [] 0 0 W (vals_blk hk (fun j x hx => by
      match j, hx with
      | 0, hx => simp at hx; subst hx; exact ⟨rfl, rfl, rfl⟩
      | j + 1, hx => simp at hx)) (.inl rfl) rfl rfl (by omega) (by omega)
    exact ws_call h hc
  clear hG
  go_enter Tryd.func18, Tryd.ntmps18
  go_wp2_with fail
  refine (HRD.out _ (Below.refl _ _)).mono ?_
  rintro e w1 ⟨rfl, hb1⟩
  have hs := ws_drew (show Ws w w1.heap.size (w1.alloc (.cells #[.int .u8 2, .int .i64 0, .string ⟨#[97, 39]⟩] 24)) from ⟨Blk.new _ _ _, hb1.alloc hb1.size _⟩)
  clear hb1
  go_wp2_with fail
  generalize w1.heap.size = g at *
  go_region_held3 (fun W => W.cell? ⟨g, 0, none⟩ = some (.int .u8 2) ∧ W.cell? ⟨g, 1, none⟩ = some (.int .i64 0) ∧ W.cell? ⟨g, 2, none⟩ = some (.string ⟨#[97, 39]⟩) ∧ Ws w g W)
    (first | exact ws_S (by assumption) | exact ws_S (ws_alloc (by assumption) _))
    (first
      | (go_at_call 12; (with_reducible refine (H12.out g _ (by assumption)).mono ?_); rintro e w2 ⟨rfl, hs⟩)
      | (go_at_call 14; (with_reducible refine (H14.out _ g _ (by assumption)).mono ?_); rintro e w2 ⟨rfl, hs⟩)
      | (go_at_call 13; (with_reducible refine (H13.out g _ (by assumption)).mono ?_); rintro e w2 ⟨rfl, hs⟩)
      | (go_at_call 16; (with_reducible refine (H16.out g _ (by assumption)).mono ?_); rintro e w2 ⟨rfl, hs⟩)
      | (go_at_call 20; (with_reducible refine (H20.out g _ (by assumption)).mono ?_); rintro e w2 ⟨rfl, hs⟩)
      | (go_at_call 15; (with_reducible refine (H15.out g _ _ (ws_alloc (by assumption) _) (Blk.new _ _ _)).mono ?_); rintro e w2 ⟨rfl, hs⟩))
  all_goals
    go_wp2
    go_ret
    exact ⟨rfl, hs.2⟩
end Go.Proofs.YtlbalhiiamenfaaDoor
