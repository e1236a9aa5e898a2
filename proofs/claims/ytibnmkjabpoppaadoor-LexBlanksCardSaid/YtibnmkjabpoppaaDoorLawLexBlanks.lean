/- Layer 13: gaps between tokens; the walk of LexBlanks. Conditions: those of each lemma. -/
import Derived.Test.YtibnmkjabpoppaaDoorLawLexBack
import Derived.Test.YtibnmkjabpoppaaDoorOpenStrs
namespace Go.Proofs.YtibnmkjabpoppaaDoor
open Go Go.RowKit
set_option linter.unusedVariables false
set_option linter.unusedSimpArgs false
/-- what a byte of a gap writes -/
def gapc (c : Nat) : List Nat := if c % 5 = 4 then [32, 45, 45, 32, 105, 116, 39, 115, 10] else [([32, 9, 10, 13] : List Nat).getD (c % 5) 0]
def gapL : List Nat → List Nat
  | [] => []
  | c :: r => gapc c ++ gapL r
theorem gapL_app (l : List Nat) (c : Nat) : gapL (l ++ [c]) = gapL l ++ gapc c := by
  induction l with
  | nil => simp [gapL]
  | cons a l ih => simp [gapL, ih]
theorem gap_rem : Gap [45, 45, 32, 105, 116, 39, 115, 10] := fun u => by
  have h1 : rmk (45 :: 45 :: 32 :: 105 :: 116 :: 39 :: 115 :: 10 :: u) = 7 := by simp [rmk, List.takeWhile]
  rw [show ([45, 45, 32, 105, 116, 39, 115, 10] : List Nat) ++ u = 45 :: 45 :: 32 :: 105 :: 116 :: 39 :: 115 :: 10 :: u from rfl, sk_rem (by decide) ⟨rfl, rfl⟩, h1]
  rw [show (45 :: 45 :: 32 :: 105 :: 116 :: 39 :: 115 :: 10 :: u).drop 7 = 10 :: u from rfl, sk_bla (by decide)]
  simp only [List.length_cons, List.length_nil]
  omega
theorem gapc_gap1 (c : Nat) : Gap1 (gapc c) := by
  unfold gapc
  split
  · exact ⟨gap_bla (by decide) gap_rem, 32, _, rfl, by decide⟩
  · have h : c % 5 = 0 ∨ c % 5 = 1 ∨ c % 5 = 2 ∨ c % 5 = 3 := by omega
    rcases h with h | h | h | h
    all_goals
      rw [h]
      exact ⟨gap_bla (by decide) gap_nil, _, [], rfl, by decide⟩
theorem gapL_gap : ∀ l : List Nat, Gap (gapL l)
  | [] => gap_nil
  | c :: r => gap_app (gapc_gap1 c).1 (gapL_gap r)
theorem gapc_len (c : Nat) : (gapc c).length ≤ 9 := by unfold gapc; split <;> simp
theorem gapc_lt (c : Nat) : ∀ x ∈ gapc c, x < 256 := by
  unfold gapc
  split
  · intro x hx
    revert x
    decide
  · have h : c % 5 = 0 ∨ c % 5 = 1 ∨ c % 5 = 2 ∨ c % 5 = 3 := by omega
    rcases h with h | h | h | h
    all_goals
      rw [h]
      decide
theorem gapL_len : ∀ l : List Nat, (gapL l).length ≤ 9 * l.length
  | [] => Nat.zero_le _
  | c :: r => by
    have h1 := gapc_len c
    have h2 := gapL_len r
    rw [gapL, List.length_append, List.length_cons]
    omega
theorem gapL_lt : ∀ l : List Nat, ∀ x ∈ gapL l, x < 256
  | [], x, hx => by simp [gapL] at hx
  | c :: r, x, hx => by
    rw [gapL] at hx
    rcases List.mem_append.1 hx with hx | hx
    · exact gapc_lt c x hx
    · exact gapL_lt r x hx
/-- the gap ahead of token j -/
def gapI (gs : List ByteArray) (j : Nat) : List Nat := (match gs[j]? with | some s => gapL (bts s) | none => []) ++ [32]
theorem gapI_some {gs : List ByteArray} {j : Nat} {s : ByteArray} (h : gs[j]? = some s) : gapI gs j = gapL (bts s) ++ [32] := by unfold gapI; rw [h]
theorem gapI_none {gs : List ByteArray} {j : Nat} (h : gs[j]? = none) : gapI gs j = [32] := by unfold gapI; rw [h]; rfl
theorem gap1_app {a b : List Nat} (ha : Gap a) (hb : Gap1 b) (h : a = [] ∨ Gap1 a) : Gap1 (a ++ b) := by
  refine ⟨gap_app ha hb.1, ?_⟩
  rcases h with rfl | ⟨_, c, u, rfl, hc⟩
  · exact hb.2
  · exact ⟨c, u ++ b, rfl, hc⟩
theorem gapL_1 : ∀ l : List Nat, gapL l = [] ∨ Gap1 (gapL l)
  | [] => .inl rfl
  | c :: r => by
    obtain ⟨h, d, u, e, hd⟩ := gapc_gap1 c
    refine .inr ⟨gapL_gap (c :: r), d, u ++ gapL r, ?_, hd⟩
    rw [gapL, e]
    rfl
theorem gapI_gap1 (gs : List ByteArray) (j : Nat) : Gap1 (gapI gs j) := by
  unfold gapI
  cases gs[j]? with
  | none => exact gap1_32
  | some s => exact gap1_app (gapL_gap _) gap1_32 (gapL_1 _)
theorem gapI_lt (gs : List ByteArray) (j : Nat) : ∀ x ∈ gapI gs j, x < 256 := by
  intro x hx
  unfold gapI at hx
  rcases List.mem_append.1 hx with hx | hx
  · cases hg : gs[j]? with
    | none => rw [hg] at hx; simp at hx
    | some s => rw [hg] at hx; exact gapL_lt _ x hx
  · simp at hx; omega
def bit (gs : List ByteArray) : Nat → List TI → List (List Nat × TI)
  | _, [] => []
  | j, t :: r => (gapI gs j, t) :: bit gs (j + 1) r
theorem bit_strp (gs : List ByteArray) : ∀ (j : Nat) (l : List TI), (bit gs j l).map (fun a => strp a.2) = l.map strp
  | _, [] => rfl
  | j, t :: r => by rw [bit, List.map_cons, List.map_cons, bit_strp gs (j + 1) r]
theorem bit_mem (gs : List ByteArray) : ∀ (j : Nat) (l : List TI), ∀ a ∈ bit gs j l, a.2 ∈ l ∧ ∃ i, a.1 = gapI gs i
  | _, [], a, ha => by simp [bit] at ha
  | j, t :: r, a, ha => by
    rw [bit] at ha
    rcases List.mem_cons.1 ha with rfl | ha
    · exact ⟨by simp, j, rfl⟩
    · obtain ⟨h1, h2⟩ := bit_mem gs (j + 1) r a ha
      exact ⟨by simp [h1], h2⟩
theorem bit_gaps (gs : List ByteArray) (l : List TI) : Gaps (bit gs 0 l) := by
  cases l with
  | nil => trivial
  | cons t r =>
    refine ⟨(gapI_gap1 gs 0).1, fun a ha => ?_⟩
    obtain ⟨_, i, h⟩ := bit_mem gs 1 r a ha
    rw [h]
    exact gapI_gap1 gs i
theorem bit_snoc (gs : List ByteArray) : ∀ (j : Nat) (l : List TI) (t : TI), flat (bit gs j (l ++ [t])) = flat (bit gs j l) ++ (gapI gs (j + l.length) ++ bts (wrT t.1 t.2.1 t.2.2.1).1)
  | j, [], t => by simp [bit, flat]
  | j, u :: r, t => by
    rw [List.cons_append, bit, flat, bit_snoc gs (j + 1) r t, bit, flat, List.length_cons, show j + 1 + r.length = j + (r.length + 1) by omega]
    simp
/-- what lies behind token j -/
theorem bit_next {gs : List ByteArray} {l : List TI} {j : Nat} {t : TI} (h : l[j]? = some t) : flat (bit gs 0 (l.take (j + 1))) = flat (bit gs 0 (l.take j)) ++ (gapI gs j ++ bts (wrT t.1 t.2.1 t.2.2.1).1) := by
  obtain ⟨hj, he⟩ := List.getElem?_eq_some_iff.1 h
  rw [List.take_succ_eq_append_getElem hj, he, bit_snoc, List.length_take, Nat.min_eq_left (by omega), Nat.zero_add]
theorem blanks_back {gs : List ByteArray} {l : List TI} (hok : ∀ t ∈ l, (wrT t.1 t.2.1 t.2.2.1).2 = true) (hl : (flat (bit gs 0 l)).length ≤ 4096) : ∃ m : List TK, tokensA (bstr (flat (bit gs 0 l))) = .ok m ∧ (m.map toI).map strp = l.map strp := by
  obtain ⟨m, hm, hmap⟩ := tokens_flat (bit gs 0 l) (bit_gaps gs l) (fun a ha => hok _ (bit_mem gs 0 l a ha).1) (fun a ha => by
    obtain ⟨_, i, h⟩ := bit_mem gs 0 l a ha
    rw [h]
    exact gapI_lt gs i) hl
  exact ⟨m, hm, by rw [List.map_map, ← bit_strp gs 0 l, ← hmap]; rfl⟩
theorem wrJ_one {k n : Nat} {x : ByteArray} {p : Int} : wrJ true [(k, x, n, p)] = if (wrT k x n).2 = true then some (bts (wrT k x n).1) else none := by
  rw [wrJ]
  simp [wrJ]
theorem obx_ws {w W : World} {b g : Nat} {L : List Nat} {o : Obj} (s : ByteArray) (h : Obx w b L g o W) (hlen : L.length + s.size ≤ 140737488355328) :
    Calls Tryd.prog 19 #[.pointer (some ⟨b, 0, none⟩), .string s] W fun e w' => e = .returned (.tuple #[.int .i64 s.size, .nilIface]) ∧ Obx w b (L ++ bts s) g o w' := by
  have hg := obx_lt h
  obtain ⟨⟨v, h1, hv⟩, hgb, hgo, hw⟩ := h
  refine (bu_writeString _ b v _ s W h1 (by rw [Lib.strCells_length, bstr_size]; exact hlen) hw.size).mono ?_
  rintro e w' ⟨rfl, v', h1', hfr, hb, hat⟩
  have e1 : Lib.strCells (bstr L) ++ Lib.strCells s = Lib.strCells (bstr (L ++ bts s)) := by
    rw [← bstr_append, bstr_bts]
    simp [Lib.strCells]
  rw [e1] at h1'
  refine ⟨rfl, ⟨⟨v', h1', ?_⟩, hgb, (hfr.2 g hg hgb hv).trans hgo, hw.trans hb⟩⟩
  rcases hat with e | ⟨j, hj, e⟩
  · rw [e]; exact hv
  · rw [e]; intro h; injection h with h; omega
theorem bb_len {w W : World} {b : Nat} {L : List Nat} (h : Bb w b L W) :
    Calls Tryd.prog 21 #[.pointer (some ⟨b, 0, none⟩)] W fun e w' => e = .returned (.int .i64 L.length) ∧ W = w' := by
  obtain ⟨⟨v, h1⟩, hw⟩ := h
  refine (Tryd.Builder_Len w.heap.size b _ W h1.old).mono ?_
  rintro e w' ⟨rfl, rfl⟩
  rw [Lib.strCells_length, bstr_size]
  exact ⟨rfl, rfl⟩
theorem tki_one {W : World} {g k n : Nat} {x : ByteArray} {p : Int} (h : Blk W g 32 #[.int .u8 k, .string x, .int .u64 n, .int .i64 p]) : TksI W (some ⟨g, 0, none⟩) [(k, x, n, p)] := by
  obtain ⟨c0, c1, c2, c3⟩ := cell4b h
  refine .inr ⟨g, 0, rfl, Blk.lt h, fun j k' x' n' p' hj => ?_⟩
  cases j with
  | zero =>
    simp only [List.getElem?_cons_zero, Option.some.injEq, Prod.mk.injEq] at hj
    obtain ⟨rfl, rfl, rfl, rfl⟩ := hj
    exact ⟨c0, c1, c2, c3⟩
  | succ j => simp at hj
theorem get4 (k : Nat) (h : k < 4) (h' : k < (⟨#[32, 9, 10, 13]⟩ : ByteArray).size) : ((⟨#[32, 9, 10, 13]⟩ : ByteArray)[k]'h').toNat = ([32, 9, 10, 13] : List Nat).getD k 0 := by
  rcases k with _ | _ | _ | _ | n
  all_goals first | (exfalso; omega) | rfl
theorem bts_32y (y : ByteArray) : bts (⟨#[32]⟩ ++ y) = 32 :: bts y := by simp [bts]
theorem write_one {g : Nat} {k n c : Nat} {x y : ByteArray} {p : Int} {ok : Bool} (hw : wrT k x n = (y, ok)) (W : World) (hI : TksI W (some ⟨g, 0, none⟩) [(k, x, n, p)]) (hG : Gv W) (hn : n < 18446744073709551616) (hx : x.size ≤ 100000) :
    Calls Tryd.prog 12 #[.slice (some ⟨g, 0, none⟩) 1 c] W fun e w' => e = .returned (.tuple #[.string (if ok = true then y else ⟨#[]⟩), .int .i64 (if ok = true then 0 else 2)]) ∧ Below W.heap.size W w' := by
  have h := write_any (some ⟨g, 0, none⟩) [(k, x, n, p)] c W hI hG (fun t ht => by rw [List.mem_singleton.1 ht]; exact ⟨hn, hx⟩) (by simp)
  rw [wrJ_one, hw] at h
  cases ok with
  | false => exact h
  | true =>
    have e : wrR (if true = true then some (bts y) else none) = .tuple #[.string y, .int .i64 0] := by rw [if_pos rfl]; show Value.tuple #[.string (bstr (bts y)), _] = _; rw [bstr_bts]
    rw [e] at h
    exact h
set_option maxRecDepth 100000 in
set_option maxHeartbeats 8000000 in
theorem lexBlanks_walk (A0 : Option Addr) (l0 : List TI) (n0 k0_ : Nat) (A1 : Option Addr) (l1 : List ByteArray) (n1 k1_ : Nat) (hn0 : n0 = l0.length) (hm0 : n0 ≤ maxLen) (hx0 : ∀ x ∈ l0, FitT x) (hn1 : n1 = l1.length) (hm1 : n1 ≤ maxLen) (hx1 : ∀ x ∈ l1, FitS x) (w : World) (I0 : Toksl w w.heap.size A0 l0) (I1 : Strsl w w.heap.size A1 l1) (hG : Gv w) :
    Calls Tryd.prog 6 #[.slice A0 n0 k0_, .slice A1 n1 k1_] w fun e w' => e = .returned (.bool true) ∧ Below w.heap.size w w' := by
  have HW := Lib.hid (works13_any w hG.1)
  have HG := Lib.hid hG
  have HI := Lib.hid (show TksI w A0 l0 from I0)
  have HJ := Lib.hid (show StrsI w A1 l1 from I1)
  have HN := Lib.hid hn0
  have HM := Lib.hid hn1
  have HLG := Lib.hid (fun W (h : TksI W A0 l0) => long_any A0 l0 k0_ W h)
  rw [← hn0] at HLG
  obtain ⟨b, hb⟩ : ∃ b, lgB l0 = b := ⟨_, rfl⟩
  rw [hb] at HLG
  have HB := Lib.hid hb
  have HX := Lib.hid hx0
  clear hb hx0 hx1 I0 I1 hG hm0 hn0 hm1 hn1
  by_cases hbig : b = true ∨ 400 < n1
  · cases b with
    | true =>
      clear hbig
      go_enter Tryd.func6, Tryd.ntmps6
      go_wp2_with fail
      refine (HW.out).mono ?_
      rintro e w1 ⟨rfl, hb1⟩
      have HB1 := Lib.hid hb1
      have HI1 := Lib.hid (tki_step HI.out hb1)
      clear hb1
      go_wp2_with fail
      refine (HLG.out _ HI1.out).mono ?_
      rintro e w2 ⟨rfl, hb2⟩
      have HB2 := Lib.hid (bj13 HB1.out hb2)
      clear hb2
      go_wp2
      go_ret
      exact ⟨rfl, HB2.out⟩
    | false =>
      have hI : (400 : Int) < n1 := by rcases hbig with h | h; cases h; omega
      clear hbig
      go_enter Tryd.func6, Tryd.ntmps6
      go_wp2_with fail
      refine (HW.out).mono ?_
      rintro e w1 ⟨rfl, hb1⟩
      have HB1 := Lib.hid hb1
      have HI1 := Lib.hid (tki_step HI.out hb1)
      clear hb1
      go_wp2_with fail
      refine (HLG.out _ HI1.out).mono ?_
      rintro e w2 ⟨rfl, hb2⟩
      have HB2 := Lib.hid (bj13 HB1.out hb2)
      clear hb2
      go_wp2
      go_ret
      exact ⟨rfl, HB2.out⟩
  obtain rfl : b = false := by cases b with | true => exact absurd (Or.inl rfl) hbig | false => rfl
  have hI : ¬ (400 : Int) < n1 := by intro h; exact hbig (Or.inr (by omega))
  clear hbig
  have HFT := Lib.hid (fun t (ht : t ∈ l0) => (⟨HX.out t ht, by have := (lg_no HB.out).2 t ht; omega⟩ : FitI t))
  have HLE := Lib.hid (show n0 ≤ 400 by rw [HN.out]; exact (lg_no HB.out).1)
  clear HX HB
  go_enter Tryd.func6, Tryd.ntmps6
  go_wp2_with fail
  refine (HW.out).mono ?_
  rintro e w1 ⟨rfl, hb1⟩
  have HB1 := Lib.hid hb1
  have HI1 := Lib.hid (tki_step HI.out hb1)
  have HJ1 := Lib.hid (stri_step HJ.out hb1)
  clear hb1
  go_wp2_with fail
  refine (HLG.out _ HI1.out).mono ?_
  rintro e w2 ⟨rfl, hb2⟩
  have HB2 := Lib.hid (bj13 HB1.out hb2)
  have HI2 := Lib.hid (tki_step HI1.out hb2)
  have HJ2 := Lib.hid (stri_step HJ1.out hb2)
  have HG2 := Lib.hid (gv_step HG.out HB2.out)
  have HBB := Lib.hid (bb_new w2)
  clear hb2 HI HJ HI1 HJ1 HB1 HW HLG HG
  go_upto_region 6 with fail
  obtain ⟨gb, hgb⟩ : ∃ gb, w2.heap.size = gb := ⟨_, rfl⟩
  have HGB := Lib.hid hgb
  rw [hgb] at HBB ⊢
  clear hgb
  generalize w2.alloc (.cells #[.pointer none, .slice none 0 0] 46) = w3 at HBB ⊢
  go_wp2
  go_loopw [25] (fun i wr => ∃ (j : Nat) (L : List Nat), j ≤ n0 ∧ i = .int .i64 j ∧ L = flat (bit l1 0 (l0.take j)) ∧ (∀ t ∈ l0.take j, (wrT t.1 t.2.1 t.2.2.1).2 = true) ∧ L.length ≤ 400000 * j ∧ Bb w2 gb L wr) (fun i _ => n0 - (intOf i).toNat)
  case atStart => exact ⟨0, [], Nat.zero_le _, rfl, rfl, fun t ht => by simp at ht, Nat.zero_le _, HBB.out⟩
  case round =>
    clear HBB
    obtain ⟨j, L, hj, rfl, hL, hok, hlen, hB⟩ := hrel
    have HL := Lib.hid hL
    have HOK := Lib.hid hok
    have HLEN := Lib.hid hlen
    have HBR := Lib.hid hB
    clear hL hok hlen hB
    by_cases hlt : j < n0
    · obtain ⟨⟨k, x, v, p⟩, g1⟩ : ∃ t, l0[j]? = some t := ⟨l0[j]'(by rw [← HN.out]; exact hlt), List.getElem?_eq_getElem _⟩
      have HNX := Lib.hid (bit_next (gs := l1) g1)
      obtain ⟨hv64, hxs⟩ := HFT.out _ (List.mem_of_getElem? g1)
      simp only at hv64 hxs
      obtain ⟨b1, o1, rfl, q1, hc⟩ := HI2.out.resolve_left (by rintro rfl; simp at g1)
      obtain ⟨a1, a2, a3, a4⟩ := hc j k x v p g1
      have d1 := (HBR.out.2.cell (p := ⟨b1, _, none⟩) q1).trans a1
      have d2 := (HBR.out.2.cell (p := ⟨b1, _, none⟩) q1).trans a2
      have d3 := (HBR.out.2.cell (p := ⟨b1, _, none⟩) q1).trans a3
      have d4 := (HBR.out.2.cell (p := ⟨b1, _, none⟩) q1).trans a4
      obtain ⟨t0, t1, t2, t3⟩ := cell4b (Blk.new wr 32 #[.int .u8 k, .string x, .int .u64 v, .int .i64 p])
      have HG1 := Lib.hid g1
      have HV := Lib.hid hv64
      have HXS := Lib.hid hxs
      have hb4 := (bb_below HBR.out (one_alloc (o := .cells #[.int .u8 k, .string x, .int .u64 v, .int .i64 p] 32)))
      have hb5 := bb_below hb4 (one_alloc (o := .cells #[.int .u8 k, .string x, .int .u64 v, .int .i64 p] 32))
      have htk := tki_one (Blk.new (wr.alloc (.cells #[.int .u8 k, .string x, .int .u64 v, .int .i64 p] 32)) 32 #[.int .u8 k, .string x, .int .u64 v, .int .i64 p])
      have hsz1 : (wr.alloc (.cells #[.int .u8 k, .string x, .int .u64 v, .int .i64 p] 32)).heap.size = wr.heap.size + 1 := by simp
      rw [hsz1] at htk
      obtain ⟨⟨y, ok⟩, hw⟩ : ∃ z, wrT k x v = z := ⟨_, rfl⟩
      have HWR := Lib.hid (write_one (c := 1) hw _ htk (gv_step HG2.out hb5.2) hv64 hxs)
      have HB5 := Lib.hid hb5
      have HSZ := Lib.hid (wrT_size k v x hxs hv64)
      have HWT := Lib.hid hw
      rw [hw] at HSZ
      simp only [hw] at HNX
      have HNN := Lib.hid (fun (h : ok = true) t (ht : t ∈ l0.take (j + 1)) => by
        have hjl : j < l0.length := by rw [← HN.out]; exact hlt
        rw [List.take_succ_eq_append_getElem hjl] at ht
        rcases List.mem_append.1 ht with ht | ht
        · exact HOK.out t ht
        · rw [List.mem_singleton.1 ht, Option.some.inj ((List.getElem?_eq_getElem hjl).symm.trans HG1.out)]
          rw [HWT.out]
          exact h)
      clear a1 a2 a3 a4 hc g1 hv64 hxs hb4 hb5 htk hsz1 hw
      cases ok with
      | false =>
        go_wp2_with fail
        refine (HWR.out).mono ?_
        rintro e w4 ⟨rfl, hb4⟩
        have HBE := Lib.hid (below_low HB2.out HB2.out.size (below_low HB5.out.2 HB5.out.2.size hb4))
        clear hb4 t0 t1 t2 t3 d1 d2 d3 d4
        go_wp2
        go_ret
        exact ⟨rfl, HBE.out⟩
      | true =>
        go_wp2_with fail
        refine (HWR.out).mono ?_
        rintro e w4 ⟨rfl, hb4⟩
        have hB6 := bb_below HB5.out hb4
        have q31 : ¬ (9223372036854775807 < 1 + y.size) := by have h3 : y.size ≤ 300000 := HSZ.out; omega
        have q32 : 1 + y.size ≤ 9223372036854775807 := by have h3 : y.size ≤ 300000 := HSZ.out; omega
        have q33 : (1 : Int) + y.size ≤ 9223372036854775807 := by have h3 : y.size ≤ 300000 := HSZ.out; omega
        have HWE := Lib.hid (fun M W (hl : M.length ≤ 200000000) (h : Bb w2 gb M W) => bb_ws (⟨#[32]⟩ ++ y) h (by have h3 : y.size ≤ 300000 := HSZ.out; rw [ByteArray.size_append]; have h5 : (⟨#[32]⟩ : ByteArray).size = 1 := rfl; omega))
        clear hb4 t0 t1 t2 t3 d1 d2 d3 d4
        by_cases hj1 : j < n1
        · obtain ⟨s, g2⟩ : ∃ s, l1[j]? = some s := ⟨l1[j]'(by rw [← HM.out]; exact hj1), List.getElem?_eq_getElem _⟩
          obtain ⟨b2, o2, rfl, q2, hc2⟩ := HJ2.out.resolve_left (by rintro rfl; simp at g2)
          have e1 := (hB6.2.cell (p := ⟨b2, _, none⟩) q2).trans (hc2 j s g2)
          have hjI : (j : Int) < n1 := by omega
          have hjI0 : (0 : Int) ≤ j := by omega
          rw [gapI_some g2] at HNX
          by_cases hs : 1024 < s.size
          · have hsI : (1024 : Int) < s.size := by omega
            have HBE := Lib.hid (below_low HB2.out HB2.out.size hB6.2)
            clear hB6 hc2 hs g2
            go_wp2
            go_ret
            exact ⟨rfl, HBE.out⟩
          · have hsI : ¬ (1024 : Int) < s.size := by omega
            have HS := Lib.hid hs
            have hcv := Lib.run_convert_string_bytes (P := Tryd.prog) w4 9 44 5 s (u := .string) Tryd.underlying9 Tryd.underlying44 Tryd.underlying5
            have HX := Lib.hid (obx_new s hB6)
            have HC := Lib.hid (fun L W (h : Obx w2 gb L w4.heap.size (.cells (Lib.bytesCells w4 5 s) 5 ((Lib.bytesCells w4 5 s).size, (Lib.bytesCells w4 5 s).size + 1)) W) => obx_cell rfl h)
            generalize grownCap w4 s.size 0 5 = cap at *
            generalize Lib.bytesWorld w4 5 s = W5 at *
            generalize (Obj.cells (Lib.bytesCells w4 5 s) 5 ((Lib.bytesCells w4 5 s).size, (Lib.bytesCells w4 5 s).size + 1)) = O at *
            clear hB6 hc2 hs g2
            go_wp2_with fail
            generalize w4.heap.size = gx at *
            clear hcv e1
            go_loopw [54] (fun i W => ∃ q : Nat, q ≤ s.size ∧ i = .int .i64 q ∧ Obx w2 gb (L ++ gapL ((bts s).take q)) gx O W) (fun i _ => s.size - (intOf i).toNat)
            case atStart => exact ⟨0, by omega, rfl, by simpa [gapL] using HX.out⟩
            case round =>
              clear HX
              obtain ⟨q, hq, rfl, hx⟩ := hrel
              have hlen : (gapL ((bts s).take q)).length ≤ 9 * 1024 := by
                have h1 := gapL_len ((bts s).take q)
                have h2 := HS.out
                rw [List.length_take, bts_length] at h1
                omega
              by_cases hqn : q < s.size
              · have hc0 := HC.out _ _ hx q hqn
                have h256 := bts_getD_lt s q
                have htk : gapL ((bts s).take (q + 1)) = gapL ((bts s).take q) ++ gapc ((bts s).getD q 0) := by
                  rw [take_suc s q hqn, gapL_app]; rfl
                generalize (bts s).getD q 0 = c at *
                have qI0 : (0 : Int) ≤ q := by omega
                have qI1 : (q : Int) < s.size := by omega
                have HXX := Lib.hid hx
                have HLN := Lib.hid hlen
                have HK := Lib.hid htk
                clear hx hlen htk
                have HWB := Lib.hid (fun (x : Nat) M W (hx : x < 256) (hl : M.length ≤ 200000000) (h : Obx w2 gb M gx O W) => obx_wb x h hx (by omega))
                have HWS := Lib.hid (fun (x : ByteArray) M W (hx : x.size ≤ 100) (hl : M.length ≤ 200000000) (h : Obx w2 gb M gx O W) => obx_ws x h (by omega))
                have HLT := Lib.hid (show (L ++ gapL ((bts s).take q)).length ≤ 200000000 by
                  have h1 := HLN.out
                  have h2 := HLEN.out
                  have h4 := HLE.out
                  rw [List.length_append]
                  omega)
                by_cases h4 : c % 5 = 4
                · have h4I : (c : Int) % 5 = 4 := by omega
                  have h4b : ((c : Int) % 5 == 4) = true := by simp [h4I]
                  have HGC := Lib.hid (show gapc c = bts ⟨#[32, 45, 45, 32, 105, 116, 39, 115, 10]⟩ by unfold gapc; rw [if_pos h4]; rfl)
                  go_wp2_with fail
                  refine (HWS.out _ _ _ (by decide) HLT.out HXX.out).mono ?_
                  rintro e w6 ⟨rfl, hx6⟩
                  have HX6 := Lib.hid hx6
                  clear hx6
                  go_wp2
                  go_roundw
                  case rel => exact ⟨q + 1, by omega, by go_num, by rw [HK.out, HGC.out, ← List.append_assoc]; exact HX6.out⟩
                  case measure => simp [intOf]; omega
                · have h4I : ¬ (c : Int) % 5 = 4 := by omega
                  have h4b : ((c : Int) % 5 == 4) = false := by simp [h4I]
                  have h4n : c % 5 < 4 := by omega
                  have HGC := Lib.hid (show gapc c = [([32, 9, 10, 13] : List Nat).getD (c % 5) 0] by unfold gapc; rw [if_neg h4])
                  have HGC2 := Lib.hid (show ([32, 9, 10, 13] : List Nat).getD (c % 5) 0 < 256 by
                    have := gapc_lt c (([32, 9, 10, 13] : List Nat).getD (c % 5) 0) (by rw [HGC.out]; simp)
                    exact this)
                  go_wp2_with fail
                  refine (HWB.out _ _ _ (by rw [get4 _ (by omega)]; exact HGC2.out) HLT.out HXX.out).mono ?_
                  rintro e w6 ⟨rfl, hx6⟩
                  have HX6 := Lib.hid hx6
                  clear hx6
                  go_wp2
                  go_roundw
                  case rel =>
                    refine ⟨q + 1, by omega, by go_num, ?_⟩
                    have h6 := HX6.out
                    rw [get4 _ (by omega)] at h6
                    rw [HK.out, HGC.out, ← List.append_assoc]
                    exact h6
                  case measure => simp [intOf]; omega
              · obtain rfl : q = s.size := by omega
                have hall : (bts s).take s.size = bts s := List.take_of_length_le (by rw [bts_length]; exact Nat.le_refl _)
                rw [hall] at hx hlen
                have HO := Lib.hid (obx_bb hx)
                have HLN := Lib.hid hlen
                clear hx hall hlen
                go_wp2_with fail
                refine (HWE.out _ _ (by have h1 := HLN.out; have h2 := HLEN.out; have h4 := HLE.out; rw [List.length_append]; omega) HO.out).mono ?_
                rintro e w6 ⟨rfl, hb6⟩
                have HB6 := Lib.hid hb6
                clear hb6
                go_wp2
                go_roundw
                case rel =>
                  refine ⟨j + 1, _, by omega, by go_num, rfl, HNN.out trivial, ?_, ?_⟩
                  · rw [HNX.out, ← HL.out]
                    have h1 := HLN.out
                    have h2 := HLEN.out
                    have h3 := HSZ.out
                    simp only [List.length_append, bts_length, List.length_cons, List.length_nil]
                    omega
                  · rw [HNX.out, ← HL.out]
                    have h6 := HB6.out
                    rw [bts_32y] at h6
                    simpa using h6
                case measure => simp [intOf]; omega
        · have hjI : ¬ (j : Int) < n1 := by omega
          have hj4 : (j : Int) < 400 := by have := HLE.out; omega
          have hgn : l1[j]? = none := List.getElem?_eq_none (by rw [← HM.out]; omega)
          rw [gapI_none hgn] at HNX
          have HB7 := Lib.hid hB6
          clear hB6 hgn
          go_wp2_with fail
          refine (HWE.out _ _ (by have h2 := HLEN.out; have h4 := HLE.out; omega) HB7.out).mono ?_
          rintro e w6 ⟨rfl, hb6⟩
          have HB6 := Lib.hid hb6
          clear hb6
          go_wp2
          go_roundw
          case rel =>
            refine ⟨j + 1, _, by omega, by go_num, rfl, HNN.out trivial, ?_, ?_⟩
            · rw [HNX.out, ← HL.out]
              have h2 := HLEN.out
              have h3 := HSZ.out
              simp only [List.length_append, bts_length, List.length_cons, List.length_nil]
              omega
            · rw [HNX.out, ← HL.out]
              have h6 := HB6.out
              rw [bts_32y] at h6
              simpa using h6
          case measure => simp [intOf]; omega
    · obtain rfl : j = n0 := by omega
      have hall : l0.take j = l0 := List.take_of_length_le (by rw [← HN.out]; exact Nat.le_refl _)
      have hok := HOK.out
      have hl := HL.out
      rw [hall] at hok hl
      have HOK2 := Lib.hid hok
      have HL2 := Lib.hid hl
      clear hall hok hl
      go_wp2_with fail
      refine (bb_len HBR.out).mono ?_
      rintro e wl ⟨rfl, rfl⟩
      by_cases hbig : 4096 < L.length
      · have hbI : (4096 : Int) < L.length := by omega
        have HBE := Lib.hid (below_low HB2.out HB2.out.size HBR.out.2)
        clear hbig
        go_wp2
        go_ret
        exact ⟨rfl, HBE.out⟩
      · have hbI : ¬ (4096 : Int) < L.length := by omega
        obtain ⟨m, hm, hmap⟩ := blanks_back (gs := l1) HOK2.out (by rw [← HL2.out]; omega)
        rw [← HL2.out] at hm
        have HM2 := Lib.hid hm
        have HMAP := Lib.hid hmap
        clear hm hmap hbig
        go_wp2_with fail
        refine (bb_str HBR.out).mono ?_
        rintro e w4 ⟨rfl, hb4⟩
        have HB4 := Lib.hid hb4
        clear hb4
        go_wp2_with fail
        refine (tokens_any (bstr L) _ (gv_step HG2.out HB4.out).1.1 (gv_step HG2.out HB4.out).1.2).mono ?_
        rintro e w5 ⟨hb5, ⟨e1, q1, hF, rfl⟩ | ⟨m', A', c', hF, rfl, ho5⟩⟩
        · rw [HM2.out] at hF; cases hF
        rw [HM2.out] at hF
        injection hF with hF
        subst hF
        unfold spotV
        obtain ⟨s0, s1, _, _⟩ := cell2b (Blk.new w5 26 #[.int .i64 0, .int .i64 0])
        have hb6 := bj13 hb5 (one_alloc (o := .cells #[.int .i64 0, .int .i64 0] 26))
        have HB6 := Lib.hid (bj13 HB4.out hb6)
        have HS := Lib.hid (same_back (c := c') (c' := k0_) (tki_of (tks_step (tks_own ho5) (one_alloc (o := .cells #[.int .i64 0, .int .i64 0] 26)))) (tki_step HI2.out HB6.out) HMAP.out (by have := (tokensA_len HM2.out).2; omega) j HN.out)
        clear hb5 hb6 ho5
        go_wp2_with fail
        refine (HS.out).mono ?_
        rintro e w7 ⟨rfl, hb7⟩
        have HB7 := Lib.hid (below_low HB2.out HB2.out.size (bj13 HB6.out hb7))
        clear hb7 s0 s1
        go_wp2
        go_ret
        exact ⟨rfl, HB7.out⟩
end Go.Proofs.YtibnmkjabpoppaaDoor
