/- Layer 13: lex.Write, law13.long, ref13.Same. Conditions: those of each lemma. -/
import Derived.Test.YtibnmkjabpoppaaGreatDoorLx30
namespace Go.Proofs.YtibnmkjabpoppaaGreatDoor
open Go Go.RowKit
set_option linter.unusedVariables false
set_option linter.unusedSimpArgs false
/-- a token with any place: kind, text, number, place -/
abbrev TI := Nat × ByteArray × Nat × Int
def toI (t : TK) : TI := (t.1, t.2.1, t.2.2.1, (t.2.2.2 : Int))
/-- tokens lie where a slice points to -/
def TksI (W : World) (A : Option Addr) (l : List TI) : Prop := l = [] ∨ ∃ g o, A = some ⟨g, o, none⟩ ∧ g < W.heap.size ∧ ∀ (j k : Nat) (x : ByteArray) (n : Nat) (p : Int), l[j]? = some (k, x, n, p) → W.cell? ⟨g, o + j * 4, none⟩ = some (.int .u8 k) ∧ W.cell? ⟨g, o + j * 4 + 1, none⟩ = some (.string x) ∧ W.cell? ⟨g, o + j * 4 + 2, none⟩ = some (.int .u64 n) ∧ W.cell? ⟨g, o + j * 4 + 3, none⟩ = some (.int .i64 p)
theorem tki_step {W W' : World} {A : Option Addr} {l : List TI} (h : TksI W A l) (hb : Below W.heap.size W W') : TksI W' A l := by
  rcases h with h | ⟨g, o, h1, h2, h3⟩
  · exact .inl h
  · refine .inr ⟨g, o, h1, Nat.lt_of_lt_of_le h2 hb.size, fun j k x n p hj => ?_⟩
    obtain ⟨a, b, c, d⟩ := h3 j k x n p hj
    exact ⟨(hb.cell (p := ⟨g, _, none⟩) h2).trans a, (hb.cell (p := ⟨g, _, none⟩) h2).trans b, (hb.cell (p := ⟨g, _, none⟩) h2).trans c, (hb.cell (p := ⟨g, _, none⟩) h2).trans d⟩
theorem tki_of {W : World} {A : Option Addr} {l : List TK} (h : TksAt W A l) : TksI W A (l.map toI) := by
  rcases h with h | ⟨g, o, h1, h2, h3⟩
  · exact .inl (by rw [h]; rfl)
  · refine .inr ⟨g, o, h1, h2, fun j k x n p hj => ?_⟩
    rw [List.getElem?_map] at hj
    obtain ⟨⟨k', x', n', p'⟩, ht, he⟩ := Option.map_eq_some_iff.1 hj
    unfold toI at he
    simp only [Prod.mk.injEq] at he
    obtain ⟨rfl, rfl, rfl, rfl⟩ := he
    exact h3 j k' x' n' p' ht
/-- tokens that fit their fields -/
def FitI (t : TI) : Prop := t.2.2.1 < 18446744073709551616 ∧ t.2.1.size ≤ 100000
/-- tokens as they are written, if they are all tokens -/
def wrJ : Bool → List TI → Option (List Nat)
  | _, [] => some []
  | f, t :: r => if (wrT t.1 t.2.1 t.2.2.1).2 = true then (wrJ false r).map (fun u => (if f then [] else [32]) ++ bts (wrT t.1 t.2.1 t.2.2.1).1 ++ u) else none
def wrO (L : List Nat) (o : Option (List Nat)) : Option (List Nat) := o.map (L ++ ·)
theorem wrJ_no {f : Bool} {t : TI} {r : List TI} (h : (wrT t.1 t.2.1 t.2.2.1).2 = false) (L : List Nat) : wrO L (wrJ f (t :: r)) = none := by
  rw [wrJ, if_neg (by rw [h]; decide)]; rfl
theorem wrJ_yes {f : Bool} {t : TI} {r : List TI} (h : (wrT t.1 t.2.1 t.2.2.1).2 = true) (L : List Nat) : wrO L (wrJ f (t :: r)) = wrO (L ++ ((if f then [] else [32]) ++ bts (wrT t.1 t.2.1 t.2.2.1).1)) (wrJ false r) := by
  rw [wrJ, if_pos h]
  cases wrJ false r with
  | none => rfl
  | some u => simp [wrO]
def wrR (o : Option (List Nat)) : Value := match o with | some L => .tuple #[.string (bstr L), .int .i64 0] | none => .tuple #[.string ⟨#[]⟩, .int .i64 2]
theorem bb_ws {w W : World} {b : Nat} {L : List Nat} (s : ByteArray) (h : Bb w b L W) (hlen : L.length + s.size ≤ 140737488355328) :
    Calls Tryz.prog 11 #[.pointer (some ⟨b, 0, none⟩), .string s] W fun e w' => e = .returned (.tuple #[.int .i64 s.size, .nilIface]) ∧ Bb w b (L ++ bts s) w' := by
  obtain ⟨⟨v, h1⟩, hw⟩ := h
  refine (bu_writeString _ b v _ s W h1 (by rw [Lib.strCells_length, bstr_size]; exact hlen) hw.size).mono ?_
  rintro e w' ⟨rfl, v', h1', hfr, hb, hat⟩
  have e1 : Lib.strCells (bstr L) ++ Lib.strCells s = Lib.strCells (bstr (L ++ bts s)) := by
    rw [← bstr_append, bstr_bts]
    simp [Lib.strCells]
  rw [e1] at h1'
  exact ⟨rfl, ⟨v', h1'⟩, hw.trans hb⟩
theorem bb_wb32 {w W : World} {b : Nat} {L : List Nat} (h : Bb w b L W) (hlen : L.length + 1 ≤ 140737488355328) :
    Calls Tryz.prog 10 #[.pointer (some ⟨b, 0, none⟩), .int .u8 32] W fun e w' => e = .returned .nilIface ∧ Bb w b (L ++ [32]) w' := bb_wb 32 h (by omega) hlen
theorem wrT_size (k n : Nat) (x : ByteArray) (hx : x.size ≤ 100000) (hn : n < 18446744073709551616) : (wrT k x n).1.size ≤ 300000 := by
  have h1 := dqL_le2 (bts x)
  have h2 := hexL_len (bts x)
  rw [bts_length] at h1 h2
  unfold wrT
  split
  · show (bstr (decL n)).size ≤ 300000
    rw [bstr_size]
    unfold decL
    rw [List.length_map, Lib.decDigits_length]
    rcases Nat.eq_zero_or_pos n with h0 | h0
    · subst h0; rw [Lib.nDigits_small (by omega)]; omega
    · have := Lib.numDigits_eq n h0 hn; split at this <;> omega
  · split
    · exact Nat.zero_le _
    · split
      · show x.size ≤ _; omega
      · split
        · show x.size ≤ _; omega
        · split
          · simp only [ByteArray.size_append, bstr_size]
            have e1 : (⟨#[39]⟩ : ByteArray).size = 1 := rfl
            omega
          · split
            · simp only [ByteArray.size_append, bstr_size]
              have e1 : (⟨#[39]⟩ : ByteArray).size = 1 := rfl
              have e2 : (⟨#[120, 39]⟩ : ByteArray).size = 2 := rfl
              omega
            · split
              · show x.size ≤ _; omega
              · exact Nat.zero_le _
set_option maxRecDepth 100000 in
set_option maxHeartbeats 8000000 in
theorem write_any (A : Option Addr) (l : List TI) (c : Nat) (w : World) (hI : TksI w A l) (hG : Gv w) (hf : ∀ t ∈ l, FitI t) (hl : l.length ≤ 100000) : Calls Tryz.prog 6 #[.slice A l.length c] w fun e w' => e = .returned (wrR (wrJ true l)) ∧ Below w.heap.size w w' := by
  obtain ⟨R, hR⟩ : ∃ R, wrO [] (wrJ true l) = R := ⟨_, rfl⟩
  have hR2 : wrJ true l = R := by rw [← hR]; cases wrJ true l <;> rfl
  rw [hR2]
  have HR := Lib.hid hR
  have HB0 := Lib.hid (bb_new w)
  have HI := Lib.hid hI
  have HG := Lib.hid hG
  have HFT := Lib.hid hf
  obtain ⟨n, hn⟩ : ∃ n, l.length = n := ⟨_, rfl⟩
  have HN := Lib.hid hn
  rw [hn] at hl ⊢
  clear hR hR2 hI hG hf hn
  go_enter Tryz.func6, Tryz.ntmps6
  go_wp2
  go_loopw [5, 11] (fun a i wr => ∃ (j : Nat) (L : List Nat), j ≤ n ∧ i = .int .i64 j ∧ L.length ≤ 300001 * j ∧ wrO L (wrJ (decide (j = 0)) (l.drop j)) = R ∧ Bb w w.heap.size L wr) (fun _ i _ => n - (intOf i).toNat)
  case atStart => exact ⟨0, [], Nat.zero_le _, rfl, Nat.zero_le _, HR.out, HB0.out⟩
  case round =>
    clear HR HB0
    obtain ⟨j, L, hj, rfl, hL, hE, hB⟩ := hrel
    have HE := Lib.hid hE
    have HB := Lib.hid hB
    have HLL := Lib.hid hL
    clear hE hB hL
    by_cases hlt : j < n
    · obtain ⟨⟨k, x, v, p⟩, g1⟩ : ∃ t, l[j]? = some t := ⟨l[j]'(by rw [HN.out]; exact hlt), List.getElem?_eq_getElem _⟩
      have hdrop : l.drop j = (k, x, v, p) :: l.drop (j + 1) := by
        have hjl : j < l.length := by rw [HN.out]; exact hlt
        rw [List.drop_eq_getElem_cons hjl]
        rw [List.getElem?_eq_getElem hjl] at g1
        rw [Option.some.inj g1]
      have hfit := HFT.out _ (List.mem_of_getElem? g1)
      obtain ⟨hv64, hxs⟩ := hfit
      simp only at hv64 hxs
      obtain ⟨b1, o1, rfl, l1, hc⟩ := HI.out.resolve_left (by rintro rfl; simp at g1)
      obtain ⟨a1, a2, a3, a4⟩ := hc j k x v p g1
      have d1 := (HB.out.2.cell (p := ⟨b1, _, none⟩) l1).trans a1
      have d2 := (HB.out.2.cell (p := ⟨b1, _, none⟩) l1).trans a2
      have d3 := (HB.out.2.cell (p := ⟨b1, _, none⟩) l1).trans a3
      have d4 := (HB.out.2.cell (p := ⟨b1, _, none⟩) l1).trans a4
      obtain ⟨t0, t1, t2, t3⟩ := cell4b (Blk.new wr 34 #[.int .u8 k, .string x, .int .u64 v, .int .i64 p])
      have HB2 := Lib.hid (bb_below HB.out (one_alloc (o := .cells #[.int .u8 k, .string x, .int .u64 v, .int .i64 p] 34)))
      have HWR := Lib.hid (written_any k x v p _ (gv_step HG.out HB2.out.2) hv64 hxs)
      have HSZ := Lib.hid (wrT_size k v x hxs hv64)
      have jI : (j : Int) < n := by omega
      obtain ⟨⟨y, ok⟩, hw⟩ : ∃ z, wrT k x v = z := ⟨_, rfl⟩
      have hno := fun h => wrJ_no (f := decide (j = 0)) (t := (k, x, v, p)) (r := l.drop (j + 1)) h L
      have hyes := fun h => wrJ_yes (f := decide (j = 0)) (t := (k, x, v, p)) (r := l.drop (j + 1)) h L
      simp only [hw] at hno hyes
      unfold WrP at HWR
      rw [hw] at HWR HSZ
      rw [hdrop] at HE
      clear a1 a2 a3 a4 g1 hdrop hc hw hv64 hxs
      cases ok with
      | false =>
        have HRR := Lib.hid (show none = R by rw [← HE.out, hno rfl])
        clear hno hyes HE
        go_wp2_with fail
        refine (HWR.out).mono ?_
        rintro e w3 ⟨rfl, hb3⟩
        have HBE := Lib.hid (below_low HB2.out.2 HB2.out.2.size hb3)
        clear hb3
        go_wp2
        go_ret2
        exact ⟨by rw [← HRR.out]; rfl, HBE.out⟩
      | true =>
        have HEY := Lib.hid (hyes rfl)
        clear hno hyes
        go_wp2_with fail
        refine (HWR.out).mono ?_
        rintro e w3 ⟨rfl, hb3⟩
        have HB3 := Lib.hid (bb_below HB2.out hb3)
        clear hb3 d1 d2 d3 d4 t0 t1 t2 t3
        by_cases hj0 : j = 0
        · subst hj0
          have HE2 := Lib.hid (show wrO (L ++ bts y) (wrJ (decide (1 = 0)) (l.drop 1)) = R by
            rw [← HE.out, HEY.out]
            simp)
          go_wp2_with fail
          refine (bb_ws y HB3.out (by have := HLL.out; have := HSZ.out; omega)).mono ?_
          rintro e w4 ⟨rfl, hb4⟩
          have HB4 := Lib.hid hb4
          clear hb4
          go_wp2
          go_roundw
          case rel => exact ⟨1, L ++ bts y, by omega, rfl, by have := HLL.out; have := HSZ.out; rw [List.length_append, bts_length]; omega, HE2.out, HB4.out⟩
          case measure => simp [intOf]; omega
        · have hj0I : (0 : Int) < j := by omega
          have HE2 := Lib.hid (show wrO (L ++ [32] ++ bts y) (wrJ (decide (j + 1 = 0)) (l.drop (j + 1))) = R by
            rw [← HE.out, HEY.out]
            simp [hj0])
          go_wp2_with fail
          refine (bb_wb32 HB3.out (by have := HLL.out; omega)).mono ?_
          rintro e w4 ⟨rfl, hb4⟩
          have HB4 := Lib.hid hb4
          clear hb4
          go_wp2_with fail
          refine (bb_ws y HB4.out (by have := HLL.out; have := HSZ.out; rw [List.length_append]; simp; omega)).mono ?_
          rintro e w5 ⟨rfl, hb5⟩
          have HB5 := Lib.hid hb5
          clear hb5
          go_wp2
          go_roundw
          case rel => exact ⟨j + 1, L ++ [32] ++ bts y, by omega, by go_num, by have := HLL.out; have := HSZ.out; rw [List.length_append, List.length_append, bts_length]; simp; omega, HE2.out, HB5.out⟩
          case measure => simp [intOf]; omega
    · obtain rfl : j = n := by omega
      have HRR := Lib.hid (show some L = R by
        rw [← HE.out, List.drop_of_length_le (by rw [HN.out]; exact Nat.le_refl _)]
        simp [wrJ, wrO])
      go_wp2_with fail
      refine (bb_str HB.out).mono ?_
      rintro e w4 ⟨rfl, hb4⟩
      go_wp2
      go_ret2
      exact ⟨by rw [← HRR.out]; rfl, hb4⟩
/-- are tokens more than are gone through? -/
def lgB (l : List TI) : Bool := decide (400 < l.length) || l.any (fun t => decide (2048 < t.2.1.size))
theorem lg_no {l : List TI} (h : lgB l = false) : l.length ≤ 400 ∧ ∀ t ∈ l, t.2.1.size ≤ 2048 := by
  unfold lgB at h
  rw [Bool.or_eq_false_iff, decide_eq_false_iff_not, List.any_eq_false] at h
  exact ⟨by omega, fun t ht => by have := h.2 t ht; simp at this; omega⟩
set_option maxRecDepth 100000 in
set_option maxHeartbeats 8000000 in
theorem long_any (A : Option Addr) (l : List TI) (c : Nat) (w : World) (hI : TksI w A l) : Calls Tryz.prog 5 #[.slice A l.length c] w fun e w' => e = .returned (.bool (lgB l)) ∧ Below w.heap.size w w' := by
  obtain ⟨n, hn⟩ : ∃ n, l.length = n := ⟨_, rfl⟩
  have HN := Lib.hid hn
  by_cases h400 : 400 < n
  · have hI4 : (400 : Int) < n := by omega
    have HR := Lib.hid (show lgB l = true by unfold lgB; rw [hn, decide_eq_true h400]; rfl)
    rw [hn]
    clear hn h400 hI
    go_enter Tryz.func5, Tryz.ntmps5
    go_wp2
    go_ret
    exact ⟨by rw [HR.out]; rfl, Below.refl _ _⟩
  · have hI4 : ¬ (400 : Int) < n := by omega
    have HR := Lib.hid (show lgB l = (l.drop 0).any (fun t => decide (2048 < t.2.1.size)) by unfold lgB; rw [hn, decide_eq_false h400, List.drop_zero]; rfl)
    obtain ⟨R, hR⟩ : ∃ R, lgB l = R := ⟨_, rfl⟩
    have HRR := Lib.hid (HR.out.symm.trans hR)
    rw [hn, hR]
    have HI := Lib.hid hI
    clear hn hI hR
    go_enter Tryz.func5, Tryz.ntmps5
    go_wp2
    go_loopw [10] (fun i wr => ∃ j : Nat, j ≤ n ∧ i = .int .i64 j ∧ (l.drop j).any (fun t => decide (2048 < t.2.1.size)) = R ∧ Below w.heap.size w wr) (fun i _ => n - (intOf i).toNat)
    case atStart => exact ⟨0, Nat.zero_le _, rfl, HRR.out, Below.refl _ _⟩
    case round =>
      clear HRR
      obtain ⟨j, hj, rfl, hE, hb⟩ := hrel
      have HE := Lib.hid hE
      have HB := Lib.hid hb
      clear hE
      by_cases hlt : j < n
      · obtain ⟨⟨k, x, v, p⟩, g1⟩ : ∃ t, l[j]? = some t := ⟨l[j]'(by rw [HN.out]; exact hlt), List.getElem?_eq_getElem _⟩
        have hdrop : l.drop j = (k, x, v, p) :: l.drop (j + 1) := by
          have hjl : j < l.length := by rw [HN.out]; exact hlt
          rw [List.drop_eq_getElem_cons hjl]
          rw [List.getElem?_eq_getElem hjl] at g1
          rw [Option.some.inj g1]
        obtain ⟨b1, o1, rfl, l1, hc⟩ := HI.out.resolve_left (by rintro rfl; simp at g1)
        obtain ⟨a1, a2, a3, a4⟩ := hc j k x v p g1
        have d1 := (hb.cell (p := ⟨b1, _, none⟩) l1).trans a1
        have d2 := (hb.cell (p := ⟨b1, _, none⟩) l1).trans a2
        have d3 := (hb.cell (p := ⟨b1, _, none⟩) l1).trans a3
        have d4 := (hb.cell (p := ⟨b1, _, none⟩) l1).trans a4
        obtain ⟨t0, t1, t2, t3⟩ := cell4b (Blk.new wr 34 #[.int .u8 k, .string x, .int .u64 v, .int .i64 p])
        have HB2 := Lib.hid (below_low hb hb.size (one_alloc (o := .cells #[.int .u8 k, .string x, .int .u64 v, .int .i64 p] 34)))
        have jI : (j : Int) < n := by omega
        rw [hdrop, List.any_cons] at HE
        clear a1 a2 a3 a4 g1 hdrop hc hb
        by_cases hbig : 2048 < x.size
        · have hbI : (2048 : Int) < x.size := by omega
          have HRT := Lib.hid (show true = R by rw [← HE.out, decide_eq_true hbig]; rfl)
          clear HE hbig
          go_wp2
          go_ret
          exact ⟨by rw [← HRT.out]; rfl, HB2.out⟩
        · have hbI : ¬ (2048 : Int) < x.size := by omega
          have HRT := Lib.hid (show (l.drop (j + 1)).any (fun t => decide (2048 < t.2.1.size)) = R by rw [← HE.out, decide_eq_false hbig]; rfl)
          clear HE hbig
          go_wp2
          go_roundw
          case rel => exact ⟨j + 1, by omega, by go_num, HRT.out, HB2.out⟩
          case measure => simp [intOf]; omega
      · obtain rfl : j = n := by omega
        have HRT := Lib.hid (show false = R by rw [← HE.out, List.drop_of_length_le (by rw [HN.out]; exact Nat.le_refl _)]; rfl)
        go_wp2
        go_ret
        exact ⟨by rw [← HRT.out]; rfl, HB.out⟩
end Go.Proofs.YtibnmkjabpoppaaGreatDoor
