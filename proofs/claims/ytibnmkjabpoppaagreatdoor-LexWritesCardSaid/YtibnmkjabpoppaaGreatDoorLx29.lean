/- Layer 13: strconv.FormatUint at base 10; quotes doubled; lex.hex, lex.isName. Conditions: those of each lemma. -/
import Derived.Test.YtibnmkjabpoppaaGreatDoorLx28
import Derived.Lib.AppendIntMem
import Derived.Lib.SplitLaws
import Derived.Lib.Replace
import Derived.Lib.ItoaMem
namespace Go.Proofs.YtibnmkjabpoppaaGreatDoor
open Go Go.RowKit Go.Sort
set_option linter.unusedVariables false
set_option linter.unusedSimpArgs false
theorem gn_pow : Tryz.prog.globalNamed "internal/strconv.uint64pow10" = some 2 := by kernel_rfl
/-- what the walks that write ask of the world -/
def Gv (W : World) : Prop := Gt W ∧ Lib.TabIs Tryz.prog W "internal/strconv.uint64pow10" .u64 Lib.pow10Tab ∧ ∃ m, W.cell? ⟨3, 0, none⟩ = some (.int .i64 m)
theorem tab_bel {n : String} {g : Nat} {k : IntKind} {zs : List Int} {w w' : World} (hg : Tryz.prog.globalNamed n = some g) (h : Lib.TabIs Tryz.prog w n k zs) (hb : Below w.heap.size w w') : Lib.TabIs Tryz.prog w' n k zs := var_bel hg h hb
theorem gv_step {W W' : World} (h : Gv W) (hb : Below W.heap.size W W') : Gv W' := by
  obtain ⟨h1, h2, m, h3⟩ := h
  exact ⟨gt_step h1 hb, tab_bel gn_pow h2 hb, m, (hb.cell (World.block_lt_of_cell? W _ h3)).trans h3⟩
theorem below_gr (w : World) (k : Nat) (os : Array Obj) : Below w.heap.size w (Sort.grow (w.drewN k) os) :=
  ⟨rfl, rfl, rfl, by show w.heap.size ≤ (w.heap ++ os).size; rw [Array.size_append]; omega, fun j hj => by
    show (w.heap ++ os)[j]? = w.heap[j]?
    rw [Array.getElem?_append_left (by omega)]⟩
/-- a number's digits -/
def decL (n : Nat) : List Nat := (Lib.decDigits n).map UInt8.toNat
theorem dec_str (n : Nat) : (⟨(Lib.decDigits n).toArray⟩ : ByteArray) = bstr (decL n) := by
  unfold bstr decL
  rw [List.map_map]
  congr 2
  exact (List.map_id' _).symm.trans (List.map_congr_left fun b _ => by simp)
set_option maxRecDepth 100000 in
set_option maxHeartbeats 8000000 in
theorem fmtu_any (n : Nat) (w : World) (hG : Gv w) (hn : n < 18446744073709551616) :
    Calls Tryz.prog 18 #[.int .u64 n, .int .i64 10] w fun e w' => e = .returned (.string (bstr (decL n))) ∧ Below w.heap.size w w' := by
  have hin : Calls Tryz.prog 51 #[.int .u64 n, .int .i64 10] w fun e w' => e = .returned (.string (bstr (decL n))) ∧ Below w.heap.size w w' := by
    rw [← dec_str]
    by_cases hs : n < 100
    · have hsI : (n : Int) < 100 := by omega
      have HSM := Lib.hid (fun W => Tryz.internal_strconv_small n hs W)
      go_enter Tryz.func51, Tryz.ntmps51
      go_wp2_with fail
      refine (HSM.out _).mono ?_
      rintro e w1 ⟨rfl, rfl⟩
      go_wp2
      go_ret
      exact ⟨rfl, Below.refl _ _⟩
    · have hsI : ¬ (n : Int) < 100 := by omega
      have hu1 : 1 ≤ n := by omega
      have hnd20 : Lib.nDigits n ≤ 20 := by have := Lib.numDigits_eq n hu1 hn; split at this <;> omega
      have htab := hG.2.1
      have hal : Tryz.prog.arrayLen 90 = 24 := by kernel_rfl
      have hsl1 : ∀ W, (Instr.sliceAt 90 (.pointer (some ⟨w.heap.size, 0, none⟩)) none (some (.int .i64 (Lib.nDigits n : Int))) none).run Tryz.prog W = .ok (.slice (some ⟨w.heap.size, 0, none⟩) (Lib.nDigits n) 24) W := fun W => by
        rw [run_sliceAt_array_h W 90 ⟨w.heap.size, 0, none⟩ (by kernel_rfl) .i64 (Lib.nDigits n : Int) (by omega) (by rw [hal]; omega)]
        go_simp
      have hH0 := Lib.holds_zero0 w 90 (Lib.nDigits n) (by omega)
      have hfmt := Tryz.internal_strconv_formatBase10 w.heap.size 0 24 n (Array.replicate (Lib.nDigits n) 0) (w.alloc (.cells Lib.zeros24 90)) hH0 (by rw [Array.size_replicate]; exact Lib.lt_pow_nDigits n) hn (by rw [Array.size_replicate]; omega)
      rw [Array.size_replicate] at hfmt
      have HH0 := Lib.hid hH0
      have HND := Lib.hid (fun W ht => Tryz.internal_strconv_numDigits n hu1 hn W ht)
      have HTA := Lib.hid (Lib.tabIs_alloc htab (.cells Lib.zeros24 90))
      have HFM := Lib.hid hfmt
      clear hH0 hal hfmt htab hG
      go_enter Tryz.func51, Tryz.ntmps51
      go_wp2_with fail
      refine (HND.out _ HTA.out).mono ?_
      rintro e w1 ⟨rfl, rfl⟩
      go_wp2_with fail
      refine (HFM.out).mono ?_
      rintro e w' ⟨rfl, k, v', dk, rfl, hF⟩
      have hcv : (convert 36 9 (.slice (some ⟨w.heap.size, 0, none⟩) (Lib.nDigits n) 24)).run Tryz.prog ((putRow (fun (b : UInt8) => Value.int .u8 (b.toNat : Int)) (w.alloc (.cells Lib.zeros24 90)) w.heap.size 0 dk).drewN k) = .ok (.string ⟨(Lib.decDigits n).toArray⟩) ((putRow (fun (b : UInt8) => Value.int .u8 (b.toNat : Int)) (w.alloc (.cells Lib.zeros24 90)) w.heap.size 0 dk).drewN k) := by
        have h := run_convert_bytes_back (P := Tryz.prog) ((putRow (fun (b : UInt8) => Value.int .u8 (b.toNat : Int)) (w.alloc (.cells Lib.zeros24 90)) w.heap.size 0 dk).drewN k) 36 9 5 ⟨w.heap.size, 0, none⟩ 24 (Lib.decDigits n) Tryz.underlying36 Tryz.underlying5 Tryz.underlying9 (fun j hj => by
          rw [Lib.row_is_numeral hF j hj, Lib.add_plain, World.cell?_drewN]
          exact cell?_putRow (fun (b : UInt8) => Value.int .u8 (b.toNat : Int)) _ w.heap.size 0 _ dk HH0.out (by rw [hF.size, Array.size_replicate]) j (by rw [hF.size]; rw [Lib.decDigits_length] at hj; exact hj))
        rw [Lib.decDigits_length] at h
        exact h
      go_wp2
      go_ret
      obtain ⟨os, eo⟩ := Lib.fin_at w (.cells Lib.zeros24 90) dk k 0
      exact ⟨rfl, by rw [eo]; exact below_gr w k os⟩
  have HIN := Lib.hid hin
  clear hin
  go_enter Tryz.func18, Tryz.ntmps18
  go_wp2_with fail
  refine (HIN.out).mono ?_
  rintro e w1 ⟨rfl, hb1⟩
  go_wp2
  go_ret
  exact ⟨rfl, hb1⟩
theorem index_cons_eq (c : UInt8) (s : List UInt8) : Lib.index (c :: s) [c] = 0 := by simp [Lib.index, List.isPrefixOf]
theorem index_cons_ne {b c : UInt8} (s : List UInt8) (h : b ≠ c) : Lib.index (b :: s) [c] = if Lib.index s [c] == -1 then -1 else Lib.index s [c] + 1 := by
  have : (List.isPrefixOf [c] (b :: s)) = false := by simp [List.isPrefixOf]; exact fun e => h e.symm
  simp [Lib.index, this]
theorem replaceK_one (c : UInt8) (new : List UInt8) : ∀ s : List UInt8, Lib.replaceK [c] new (Lib.count s [c]) s = s.flatMap (fun b => if b = c then new else [b])
  | [] => by
    have : Lib.count [] [c] = 0 := by rw [Lib.count_one]; rfl
    rw [this]; rfl
  | b :: s => by
    have ih := replaceK_one c new s
    by_cases h : b = c
    · subst h
      rw [Lib.count_cons_eq, Nat.add_comm, Lib.replaceK_hit _ _ _ _ 0 (index_cons_eq b s)]
      simp [ih]
    · rw [Lib.count_cons_ne b c s h]
      have e : (b :: s).flatMap (fun b => if b = c then new else [b]) = b :: s.flatMap (fun b => if b = c then new else [b]) := by simp [h]
      rw [e, ← ih]
      by_cases hi : Lib.index s [c] = -1
      · rw [Lib.count_miss hi]; rfl
      · have hge := Lib.index_ge s [c]
        obtain ⟨i, hI⟩ := Int.eq_ofNat_of_zero_le (show 0 ≤ Lib.index s [c] by omega)
        have hc := Lib.count_hit (sub := [c]) (by simp) hI
        rw [hc, Nat.add_comm, Lib.replaceK_hit _ _ _ _ i hI]
        have h2 : Lib.index (b :: s) [c] = ((i + 1 : Nat) : Int) := by
          rw [index_cons_ne s h, hI]
          have : (((i : Nat) : Int) == -1) = false := by rw [beq_eq_false_iff_ne]; omega
          rw [this]; simp
        rw [Lib.replaceK_hit _ _ _ _ (i + 1) h2]
        simp
theorem dq_map : ∀ s : List UInt8, (s.flatMap (fun b => if b = 39 then [39, 39] else [b])).map UInt8.toNat = dqL (s.map UInt8.toNat)
  | [] => rfl
  | b :: s => by
    have ih := dq_map s
    by_cases h : b = 39
    · subst h
      simp [dqL, ih]
    · have h2 : b.toNat ≠ 39 := fun e => h (UInt8.toNat_inj.1 e)
      simp [dqL, h, h2, ih]
theorem replaceAll_dq (s : ByteArray) : (⟨(Lib.replaceAll s.data.toList (⟨#[39]⟩ : ByteArray).data.toList (⟨#[39, 39]⟩ : ByteArray).data.toList).toArray⟩ : ByteArray) = bstr (dqL (bts s)) := by
  apply bts_inj
  rw [bts_bstr _ (dqL_lt (bts_lt s))]
  unfold bts
  rw [← dq_map]
  congr 1
  show Lib.replaceAll s.data.toList [39] [39, 39] = _
  unfold Lib.replaceAll Lib.replace
  rw [if_neg (by decide)]
  have : Lib.replaceNum s.data.toList [39] (-1) = Lib.count s.data.toList [39] := by unfold Lib.replaceNum; rw [if_pos (.inl (by omega))]
  rw [this, replaceK_one]
theorem dq_any (s : ByteArray) (w : World) (hG : Gv w) (hs : s.size ≤ 100000) :
    Calls Tryz.prog 21 #[.string s, .string ⟨#[39]⟩, .string ⟨#[39, 39]⟩] w fun e w' => e = .returned (.string (bstr (dqL (bts s)))) ∧ Below w.heap.size w w' := by
  obtain ⟨_, _, m, hm⟩ := hG
  have hc : Lib.countB s ⟨#[39]⟩ ≤ s.size := by
    show Lib.count s.data.toList [39] ≤ _
    rw [Lib.count_one]
    exact List.count_le_length
  have h := Tryz.strings_ReplaceAll s ⟨#[39]⟩ ⟨#[39, 39]⟩ m w (by omega) hm (by decide) (by have : (⟨#[39, 39]⟩ : ByteArray).size = 2 := rfl; rw [this]; omega)
  rw [replaceAll_dq] at h
  exact h
/-- a builder beside all else -/
def Bb (w : World) (b : Nat) (L : List Nat) (W : World) : Prop := (∃ v, Bu w.heap.size b v (Lib.strCells (bstr L)) W) ∧ Below w.heap.size w W
theorem bb_wb {w W : World} {b : Nat} {L : List Nat} (x : Nat) (h : Bb w b L W) (hx : x < 256) (hlen : L.length + 1 ≤ 140737488355328) :
    Calls Tryz.prog 10 #[.pointer (some ⟨b, 0, none⟩), .int .u8 (x : Int)] W fun e w' => e = .returned .nilIface ∧ Bb w b (L ++ [x]) w' := by
  obtain ⟨⟨v, h1⟩, hw⟩ := h
  refine (bu_writeByte _ b v _ x W h1 (by rw [Lib.strCells_length, bstr_size]; exact hlen) hw.size).mono ?_
  rintro e w' ⟨rfl, v', h1', hfr, hb, hat⟩
  have e1 : Lib.strCells (bstr L) ++ [Value.int .u8 (x : Int)] = Lib.strCells (bstr (L ++ [x])) := by
    rw [← bstr_append]
    have e2 : (UInt8.ofNat x).toNat = x := by rw [UInt8.toNat_ofNat']; omega
    simp [Lib.strCells, bstr, e2]
  rw [e1] at h1'
  exact ⟨rfl, ⟨v', h1'⟩, hw.trans hb⟩
theorem bb_str {w W : World} {b : Nat} {L : List Nat} (h : Bb w b L W) :
    Calls Tryz.prog 12 #[.pointer (some ⟨b, 0, none⟩)] W fun e w' => e = .returned (.string (bstr L)) ∧ Below w.heap.size w w' := by
  obtain ⟨⟨v, h1⟩, hw⟩ := h
  exact (Tryz.Builder_String_any w.heap.size b (bstr L).data.toList W h1.old hw.size).mono fun e w' he => ⟨he.1, hw.trans he.2⟩
theorem bb_below {w W W' : World} {b : Nat} {L : List Nat} (h : Bb w b L W) (hb : Below W.heap.size W W') : Bb w b L W' := by
  obtain ⟨⟨v, h1⟩, hw⟩ := h
  exact ⟨⟨v, h1.keep hb.os hb.tape hb.output hb.size (fun k hk _ => hb.block k hk)⟩, below_low hw hw.size hb⟩
theorem bb_new (w : World) : Bb w w.heap.size [] (w.alloc (.cells #[.pointer none, .slice none 0 0] 38)) := ⟨⟨_, bu_new _ w (Nat.le_refl _)⟩, one_alloc⟩
theorem hexc_lt (n : Nat) (h : n < 16) : hexc n < 256 := by unfold hexc; split <;> omega
theorem hex_get (k : Nat) (h : k < 16) (h' : k < (⟨#[48, 49, 50, 51, 52, 53, 54, 55, 56, 57, 97, 98, 99, 100, 101, 102]⟩ : ByteArray).size) : ((⟨#[48, 49, 50, 51, 52, 53, 54, 55, 56, 57, 97, 98, 99, 100, 101, 102]⟩ : ByteArray)[k]'h').toNat = hexc k := by
  rcases k with _ | _ | _ | _ | _ | _ | _ | _ | _ | _ | _ | _ | _ | _ | _ | _ | n
  all_goals first | (exfalso; omega) | rfl
/-- a builder, and one other block that stands -/
def Obx (w : World) (b : Nat) (L : List Nat) (g : Nat) (o : Obj) (W : World) : Prop := (∃ v, Bu w.heap.size b v (Lib.strCells (bstr L)) W ∧ v.ownBlock ≠ some g) ∧ g ≠ b ∧ W.heap[g]? = some o ∧ Below w.heap.size w W
theorem obx_lt {w W : World} {b g : Nat} {L : List Nat} {o : Obj} (h : Obx w b L g o W) : g < W.heap.size := by
  rcases Nat.lt_or_ge g W.heap.size with h' | h'
  · exact h'
  · have := h.2.2.1; rw [Array.getElem?_eq_none h'] at this; cases this
theorem obx_wb {w W : World} {b g : Nat} {L : List Nat} {o : Obj} (n : Nat) (h : Obx w b L g o W) (hx : n < 256) (hlen : L.length + 1 ≤ 140737488355328) :
    Calls Tryz.prog 10 #[.pointer (some ⟨b, 0, none⟩), .int .u8 (n : Int)] W fun e w' => e = .returned .nilIface ∧ Obx w b (L ++ [n]) g o w' := by
  have hg := obx_lt h
  obtain ⟨⟨v, h1, hv⟩, hgb, hgo, hw⟩ := h
  refine (bu_writeByte _ b v _ n W h1 (by rw [Lib.strCells_length, bstr_size]; exact hlen) hw.size).mono ?_
  rintro e w' ⟨rfl, v', h1', hfr, hb, hat⟩
  have e1 : Lib.strCells (bstr L) ++ [Value.int .u8 (n : Int)] = Lib.strCells (bstr (L ++ [n])) := by
    rw [← bstr_append]
    have e2 : (UInt8.ofNat n).toNat = n := by rw [UInt8.toNat_ofNat']; omega
    simp [Lib.strCells, bstr, e2]
  rw [e1] at h1'
  refine ⟨rfl, ⟨⟨v', by simpa using h1', ?_⟩, hgb, (hfr.2 g hg hgb hv).trans hgo, hw.trans hb⟩⟩
  rcases hat with e | ⟨j, hj, e⟩
  · rw [e]; exact hv
  · rw [e]; intro h; injection h with h; omega
theorem obx_bb {w W : World} {b g : Nat} {L : List Nat} {o : Obj} (h : Obx w b L g o W) : Bb w b L W := by
  obtain ⟨⟨v, h1, hv⟩, hgb, hgo, hw⟩ := h
  exact ⟨⟨v, h1⟩, hw⟩
theorem obx_new {w W : World} {b : Nat} {L : List Nat} (s : ByteArray) (h : Bb w b L W) : Obx w b L W.heap.size (.cells (Lib.bytesCells W 5 s) 5 ((Lib.bytesCells W 5 s).size, (Lib.bytesCells W 5 s).size + 1)) (Lib.bytesWorld W 5 s) := by
  obtain ⟨⟨v, h1⟩, hw⟩ := h
  have hl := h1.lt
  refine ⟨⟨v, h1.keep rfl rfl rfl (Lib.bytesWorld_below W 5 s).size (fun k hk _ => (Lib.bytesWorld_below W 5 s).block k hk), fun e => ?_⟩, by omega, Lib.bytesWorld_at_new _ _ _, below_low hw hw.size (Lib.bytesWorld_below W 5 s)⟩
  have := (h1.rowlt _ e).2
  omega
theorem obx_cell {w W W0 : World} {b g : Nat} {L : List Nat} {s : ByteArray} (hg : W0.heap.size = g) (h : Obx w b L g (.cells (Lib.bytesCells W0 5 s) 5 ((Lib.bytesCells W0 5 s).size, (Lib.bytesCells W0 5 s).size + 1)) W) (j : Nat) (hj : j < s.size) :
    W.cell? ⟨g, j, none⟩ = some (.int .u8 ((bts s).getD j 0 : Nat)) := by
  subst hg
  have h1 := Lib.bytesWorld_cell W0 5 s j hj
  have h2 := Lib.bytesWorld_at_new W0 5 s
  have e : W.cell? ⟨W0.heap.size, j, none⟩ = (Lib.bytesWorld W0 5 s).cell? ⟨W0.heap.size, j, none⟩ := by
    unfold World.cell?
    rw [h.2.2.1, h2]
  rw [e, h1]
  congr 2
  simp only [bts, List.getD_eq_getElem?_getD, List.getElem?_map]
  cases s.data.toList[j]? <;> rfl
theorem hexL_app (l : List Nat) (c : Nat) : hexL (l ++ [c]) = hexL l ++ [hexc (c / 16), hexc (c % 16)] := by
  induction l with
  | nil => rfl
  | cons a l ih => simp [hexL, ih]
theorem take_suc (x : ByteArray) (j : Nat) (hj : j < x.size) : (bts x).take (j + 1) = (bts x).take j ++ [atB x j] := by
  have hl := bts_length x
  rw [List.take_succ_eq_append_getElem (by omega)]
  unfold atB
  rw [List.getD_eq_getElem?_getD, List.getElem?_eq_getElem (by omega)]
  rfl
set_option maxRecDepth 100000 in
set_option maxHeartbeats 8000000 in
theorem hex_any (s : ByteArray) (w : World) (hs : s.size ≤ 100000) : Calls Tryz.prog 22 #[.string s] w fun e w' => e = .returned (.string (bstr (hexL (bts s)))) ∧ Below w.heap.size w w' := by
  obtain ⟨w2, hw2⟩ : ∃ w2, w2 = w.alloc (.cells #[.pointer none, .slice none 0 0] 38) := ⟨_, rfl⟩
  have ho2 : Bb w w.heap.size [] w2 := hw2 ▸ bb_new w
  have hcv := Lib.run_convert_string_bytes (P := Tryz.prog) w2 9 36 5 s (u := .string) Tryz.underlying9 Tryz.underlying36 Tryz.underlying5
  have HX := Lib.hid (obx_new s ho2)
  have HC := Lib.hid (fun L W (h : Obx w w.heap.size L w2.heap.size (.cells (Lib.bytesCells w2 5 s) 5 ((Lib.bytesCells w2 5 s).size, (Lib.bytesCells w2 5 s).size + 1)) W) => obx_cell rfl h)
  generalize grownCap w2 s.size 0 5 = cap at *
  generalize Lib.bytesWorld w2 5 s = W3 at *
  generalize (Obj.cells (Lib.bytesCells w2 5 s) 5 ((Lib.bytesCells w2 5 s).size, (Lib.bytesCells w2 5 s).size + 1)) = O at *
  have hg2 : w2.heap.size = w.heap.size + 1 := by rw [hw2]; simp
  rw [hg2] at hcv HC HX
  rw [hw2] at hcv
  have hsI : (s.size : Int) ≤ 100000 := by omega
  clear ho2 hg2 hw2
  go_enter Tryz.func22, Tryz.ntmps22
  go_wp2_with fail
  generalize hgb : w.heap.size = gb at *
  clear hcv
  go_loopw [9] (fun i W => ∃ j : Nat, j ≤ s.size ∧ i = .int .i64 j ∧ Obx w gb (hexL ((bts s).take j)) (gb + 1) O W) (fun i _ => s.size - (intOf i).toNat)
  case atStart => exact ⟨0, by omega, rfl, HX.out⟩
  case round =>
    clear HX
    obtain ⟨j, hj, rfl, hx⟩ := hrel
    have hlen : (hexL ((bts s).take j)).length ≤ 200000 := by
      have h1 := hexL_len ((bts s).take j)
      rw [List.length_take] at h1
      omega
    by_cases hjn : j < s.size
    · have hc0 := HC.out _ _ hx j hjn
      have h256 := bts_getD_lt s j
      have htk : hexL ((bts s).take (j + 1)) = hexL ((bts s).take j) ++ [hexc ((bts s).getD j 0 / 16), hexc ((bts s).getD j 0 % 16)] := by
        rw [take_suc s j hjn, hexL_app]; rfl
      generalize (bts s).getD j 0 = c at *
      have HWB := Lib.hid (fun (x : Nat) L W (hx : x < 256) (hl : L.length ≤ 500000) (h : Obx w gb L (gb + 1) O W) => obx_wb x h hx (by omega))
      have jI0 : (0 : Int) ≤ j := by omega
      have jI1 : (j : Int) < s.size := by omega
      have HXX := Lib.hid hx
      have HL := Lib.hid hlen
      have HK := Lib.hid htk
      clear hx hlen htk
      go_wp2_with fail
      refine (HWB.out _ _ _ (by rw [hex_get _ (by omega)]; unfold hexc; split <;> omega) (by have := HL.out; omega) HXX.out).mono ?_
      rintro e w4 ⟨rfl, hx4⟩
      have HX4 := Lib.hid hx4
      clear hx4
      go_wp2_with fail
      refine (HWB.out _ _ _ (by rw [hex_get _ (by omega)]; unfold hexc; split <;> omega) (by have := HL.out; rw [List.length_append]; simp only [List.length_cons, List.length_nil] at this ⊢; omega) HX4.out).mono ?_
      rintro e w5 ⟨rfl, hx5⟩
      have HX5 := Lib.hid hx5
      clear hx5
      go_wp2
      go_roundw
      case rel =>
        refine ⟨j + 1, by omega, by go_num, ?_⟩
        have h5 := HX5.out
        rw [hex_get _ (by omega), hex_get _ (by omega)] at h5
        rw [HK.out]
        simpa using h5
      case measure => simp [intOf]; omega
    · obtain rfl : j = s.size := by omega
      have hall : (bts s).take s.size = bts s := List.take_of_length_le (by rw [bts_length]; exact Nat.le_refl _)
      rw [hall] at hx hlen
      have HO := Lib.hid (obx_bb hx)
      clear hx hall hlen
      go_wp2_with fail
      refine (bb_str HO.out).mono ?_
      rintro e w6 ⟨rfl, hb6⟩
      go_wp2
      go_ret
      exact ⟨rfl, by rw [hgb]; first | exact hb6 | (rw [← hgb]; exact hb6)⟩
/-- is a text a name? -/
def nmB (l : List Nat) : Bool := l.all (fun c : Nat => worB (c : Int) && !capB (c : Int))
def isNm (x : ByteArray) : Bool := if x.size = 0 then false else smaB (atB x 0 : Int) && (decide (x.size ≤ 32) && nmB (bts x))
theorem nm_all {x : ByteArray} {j : Nat} (h : nmB ((bts x).take j) = true) (hj : j < x.size) : nmB ((bts x).take (j + 1)) = (worB (atB x j : Int) && !capB (atB x j : Int)) := by
  rw [take_suc x j hj]
  unfold nmB at h ⊢
  rw [List.all_append, h]
  simp
theorem nm_bad {x : ByteArray} {j : Nat} (h : nmB ((bts x).take (j + 1)) = false) : nmB (bts x) = false := by
  have e : bts x = (bts x).take (j + 1) ++ (bts x).drop (j + 1) := (List.take_append_drop _ _).symm
  rw [e]
  unfold nmB at h ⊢
  rw [List.all_append, h]
  rfl
set_option maxRecDepth 100000 in
set_option maxHeartbeats 8000000 in
theorem isName_any (x : ByteArray) (w : World) (hx : x.size ≤ 100000) : Calls Tryz.prog 20 #[.string x] w fun e w' => e = .returned (.bool (isNm x)) ∧ Below w.heap.size w w' := by
  by_cases h0 : x.size = 0
  · obtain rfl := size_0 h0
    clear h0
    go_enter Tryz.func20, Tryz.ntmps20
    go_wp2
    go_ret
    exact ⟨rfl, Below.refl _ _⟩
  have hn1 := str_no h0
  have hn2 := str_em h0
  have hpos : 0 < x.size := Nat.pos_of_ne_zero h0
  have hx0 := atB_at x 0 hpos
  have hI0 : (0 : Int) < x.size := by omega
  have HSM := Lib.hid lsma_any
  have HWO := Lib.hid lwor_any
  have HCA := Lib.hid lcap_any
  obtain ⟨b, hb⟩ : ∃ b, smaB (atB x 0 : Int) = b := ⟨_, rfl⟩
  have hsm := fun W => lsma_any (atB x 0 : Int) W
  rw [hb] at hsm
  have HS0 := Lib.hid hsm
  cases b with
  | false =>
    have HR := Lib.hid (show isNm x = false by unfold isNm; rw [if_neg h0, hb]; rfl)
    clear hb hsm h0
    generalize atB x 0 = c at *
    go_enter Tryz.func20, Tryz.ntmps20
    go_wp2_with fail
    refine (HS0.out _).mono ?_
    rintro e w1 ⟨rfl, rfl⟩
    go_wp2
    go_ret
    exact ⟨by rw [HR.out]; rfl, Below.refl _ _⟩
  | true =>
    by_cases h32 : 32 < x.size
    · have hI : (32 : Int) < x.size := by omega
      have HR := Lib.hid (show isNm x = false by unfold isNm; rw [if_neg h0, hb]; simp; omega)
      clear hb hsm h0 h32
      generalize atB x 0 = c at *
      go_enter Tryz.func20, Tryz.ntmps20
      go_wp2_with fail
      refine (HS0.out _).mono ?_
      rintro e w1 ⟨rfl, rfl⟩
      go_wp2
      go_ret
      exact ⟨by rw [HR.out]; rfl, Below.refl _ _⟩
    · have hI : ¬ (32 : Int) < x.size := by omega
      have HR := Lib.hid (show isNm x = nmB (bts x) by unfold isNm; rw [if_neg h0, hb, decide_eq_true (by omega)]; rfl)
      rw [HR.out]
      obtain ⟨w2, C, hcv, hb2, hcl⟩ := conv_any x w
      have HCL := Lib.hid hcl
      have HB2 := Lib.hid hb2
      clear hb hsm h0 h32 hb2 hcl
      generalize atB x 0 = c at *
      go_enter Tryz.func20, Tryz.ntmps20
      go_wp2_with fail
      refine (HS0.out _).mono ?_
      rintro e w1 ⟨rfl, rfl⟩
      go_wp2
      clear hcv hx0 hn1 hn2
      go_loopw [21] (fun i wr => ∃ j : Nat, j ≤ x.size ∧ i = .int .i64 j ∧ nmB ((bts x).take j) = true ∧ wr = w2) (fun i _ => x.size - (intOf i).toNat)
      case atStart => exact ⟨0, Nat.zero_le _, rfl, rfl, rfl⟩
      case round =>
        obtain ⟨j, hj, rfl, hN, rfl⟩ := hrel
        by_cases hjs : j < x.size
        · have hjI : (j : Int) < x.size := by omega
          have hcell := HCL.out j hjs
          have hat : (bts x).getD j 0 = atB x j := rfl
          rw [hat] at hcell
          have hst := nm_all hN hjs
          have hwo := fun W => lwor_any (atB x j : Int) W
          have hca := fun W => lcap_any (atB x j : Int) W
          generalize hcc : atB x j = cc at *
          obtain ⟨b1, hb1⟩ : ∃ b, worB (cc : Int) = b := ⟨_, rfl⟩
          obtain ⟨b2, hb2⟩ : ∃ b, capB (cc : Int) = b := ⟨_, rfl⟩
          rw [hb1] at hwo hst
          rw [hb2] at hca hst
          have HW1 := Lib.hid hwo
          have HC1 := Lib.hid hca
          clear hat hcc hwo hca hb1 hb2 hN
          cases b1 with
          | false =>
            have HNO := Lib.hid (nm_bad hst)
            clear hst
            go_wp2_with fail
            refine (HW1.out _).mono ?_
            rintro e w4 ⟨rfl, rfl⟩
            go_wp2
            go_ret
            exact ⟨by rw [HNO.out]; rfl, HB2.out⟩
          | true =>
            cases b2 with
            | true =>
              have HNO := Lib.hid (nm_bad hst)
              clear hst
              go_wp2_with fail
              refine (HW1.out _).mono ?_
              rintro e w4 ⟨rfl, rfl⟩
              go_wp2_with fail
              refine (HC1.out _).mono ?_
              rintro e w5 ⟨rfl, rfl⟩
              go_wp2
              go_ret
              exact ⟨by rw [HNO.out]; rfl, HB2.out⟩
            | false =>
              have HYES := Lib.hid (show nmB ((bts x).take (j + 1)) = true from hst)
              clear hst
              go_wp2_with fail
              refine (HW1.out _).mono ?_
              rintro e w4 ⟨rfl, rfl⟩
              go_wp2_with fail
              refine (HC1.out _).mono ?_
              rintro e w5 ⟨rfl, rfl⟩
              go_wp2
              go_roundw
              case rel => exact ⟨j + 1, by omega, by go_num, HYES.out, by trivial⟩
              case measure => simp [intOf]; omega
        · obtain rfl : j = x.size := by omega
          rw [List.take_of_length_le (by rw [bts_length]; exact Nat.le_refl _)] at hN
          have HNN := Lib.hid hN
          clear hN
          go_wp2
          go_ret
          exact ⟨by rw [HNN.out]; rfl, HB2.out⟩
end Go.Proofs.YtibnmkjabpoppaaGreatDoor
