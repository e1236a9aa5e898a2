/- value.Read. Condition: the text has no more than a hundred thousand bytes; the laid variables hold what they should. -/
import Derived.Test.YthacdfdnbhfooaaDoorRead2
namespace Go.Proofs.YthacdfdnbhfooaaDoor
open Go.RowKit
set_option linter.unusedVariables false
theorem cell3 {W : World} {g : Nat} {t : TypeId} {a b c : Value} (h : Blk W g t #[a, b, c]) : W.cell? ⟨g, 0, none⟩ = some a ∧ W.cell? ⟨g, 1, none⟩ = some b ∧ W.cell? ⟨g, 2, none⟩ = some c ∧ W.frozen? ⟨g, 0, none⟩ = false ∧ W.frozen? ⟨g, 1, none⟩ = false ∧ W.frozen? ⟨g, 2, none⟩ = false :=
  ⟨h.cell 0, h.cell 1, h.cell 2, h.frozen 0, h.frozen 1, h.frozen 2⟩
theorem blk3_set {W : World} {g : Nat} {t : TypeId} {a b c : Value} (h : Blk W g t #[a, b, c]) (x y z : Value) : Blk (((W.setCell ⟨g, 0, none⟩ x).setCell ⟨g, 1, none⟩ y).setCell ⟨g, 2, none⟩ z) g t #[x, y, z] := ((h.set_ 0 x).set_ 1 y).set_ 2 z
theorem below3_set {w W : World} (h : Below w.heap.size w W) (x y z : Value) : Below w.heap.size w (((W.setCell ⟨w.heap.size, 0, none⟩ x).setCell ⟨w.heap.size, 1, none⟩ y).setCell ⟨w.heap.size, 2, none⟩ z) :=
  ((h.setCell (Nat.le_refl _) _).setCell (Nat.le_refl _) _).setCell (Nat.le_refl _) _
theorem one_alloc {w : World} {o : Obj} : Below w.heap.size w (w.alloc o) := (Below.refl _ _).alloc (Nat.le_refl _) _

/-- the value whose literal L is, however long -/
def readU (L : List Nat) : Option Val :=
  if L = nulL then some nulV else match L with
  | [] => none
  | c :: r => if c = 39 then (unq r).map (fun t => (2, 0, bstr t)) else if c = 120 then (unx r).map (fun t => (3, 0, bstr t)) else (numZ (c :: r)).map (fun n => (1, n, bstr []))
theorem readZ_U (L : List Nat) : readZ L = match readU L with | none => (nulV, 6) | some x => if 1000 < x.2.2.size then (nulV, 3) else (x, 0) := by
  unfold readZ readU
  by_cases h : L = nulL
  · rw [if_pos h, if_pos h]; rfl
  · rw [if_neg h, if_neg h]
    cases L with
    | nil => rfl
    | cons c r =>
      simp only
      split
      · cases unq r with
        | none => rfl
        | some t => simp only [toldZ, Option.map_some, bstr_size]
      · split
        · cases unx r with
          | none => rfl
          | some t => simp only [toldZ, Option.map_some, bstr_size]
        · cases numZ (c :: r) with
          | none => rfl
          | some n => simp only [Option.map_some]; rw [if_neg (by rw [bstr_size]; simp)]
def LitP (L : List Nat) (w : World) (e : Ending) (w' : World) : Prop := Below w.heap.size w w' ∧
  ((∃ v, readU L = some v ∧ e = .returned (.tuple #[valV v, .bool true])) ∨ (readU L = none ∧ ∃ v : Val, e = .returned (.tuple #[valV v, .bool false])))
theorem litP_no {L : List Nat} {w w' : World} (v : Val) (h : readU L = none) (hb : Below w.heap.size w w') : LitP L w (.returned (.tuple #[.agg #[.int .u8 v.1, .int .i64 v.2.1, .string v.2.2], .bool false])) w' := ⟨hb, .inr ⟨h, v, rfl⟩⟩
theorem litP_yes {L : List Nat} {w w' : World} (v : Val) (h : readU L = some v) (hb : Below w.heap.size w w') : LitP L w (.returned (.tuple #[.agg #[.int .u8 v.1, .int .i64 v.2.1, .string v.2.2], .bool true])) w' := ⟨hb, .inl ⟨v, h, rfl⟩⟩
/-- the value's own block, and the one that is still to be read -/
def Lv (w : World) (p q : Int) (x : ByteArray) (L : List Nat) (W : World) : Prop := Blk W w.heap.size 24 #[.int .u8 p, .int .i64 q, .string x] ∧ Nx (w.heap.size + 1) L W ∧ Below w.heap.size w W ∧ w.heap.size + 1 < W.heap.size
theorem lv_new (w : World) (s : ByteArray) : Lv w 0 0 ⟨#[]⟩ (bts s) ((w.alloc (.cells #[.int .u8 0, .int .i64 0, .string ⟨#[]⟩] 24)).alloc (.cells #[.string s] 9)) :=
  ⟨(Blk.new w _ _).alloc _, ⟨s, rfl, blk_new _ _ _ _ (by simp)⟩, hb2, by simp⟩
theorem lv_bx {w W W' : World} {p q : Int} {x : ByteArray} {L L' : List Nat} (h : Lv w p q x L W) (hn : Nx (w.heap.size + 1) L' W') (hb : Bx (w.heap.size + 1) W W') : Lv w p q x L' W' :=
  ⟨bx_blk h.1 hb (by omega), hn, bx_below h.2.2.1 hb (by omega) (by have := h.2.2.2; omega), Nat.lt_of_lt_of_le h.2.2.2 hb.2.2.2.1⟩
theorem lv_set {w W : World} {p q p' q' : Int} {x x' : ByteArray} {L : List Nat} (h : Lv w p q x L W) (i : Nat) (u : Value) (hs : (#[Value.int .u8 p, .int .i64 q, .string x] : Array Value).setIfInBounds i u = #[.int .u8 p', .int .i64 q', .string x']) : Lv w p' q' x' L (W.setCell ⟨w.heap.size, i, none⟩ u) := by
  obtain ⟨h1, ⟨S, hS, h2⟩, h3, h4⟩ := h
  have := h1.set_ i u
  rw [hs] at this
  exact ⟨this, ⟨S, hS, h2.far (by simp) u⟩, h3.setCell (Nat.le_refl _) u, by simpa [World.setCell] using h4⟩
set_option maxRecDepth 100000 in
set_option maxHeartbeats 4000000 in
theorem literal_nul (w : World) : Calls Tryd.prog 12 #[.string ⟨#[78, 85, 76, 76]⟩] w (LitP nulL w) := by
  have HL := Lib.hid (lv_new w ⟨#[78, 85, 76, 76]⟩)
  have HNC := Lib.hid next_cons
  go_enter Tryd.func12, Tryd.ntmps12
  go_wp2_with fail
  refine (HNC.out _ 78 [85, 76, 76] _ HL.out.2.1).mono ?_
  rintro e w1 ⟨rfl, hn1, hb1⟩
  have hl1 := lv_bx HL.out hn1 hb1
  obtain ⟨d0, d1, d2, f0, f1, f2⟩ := cell3 hl1.1
  have HL1 := Lib.hid hl1
  clear hn1 hb1 hl1 HL
  go_wp2
  obtain ⟨e0, e1, e2, _, _, _⟩ := cell3 (blk3_set HL1.out.1 (.int .u8 0) (.int .i64 0) (.string ⟨#[]⟩))
  exact bodyPost_ret (v := .tuple #[.agg #[.int .u8 0, .int .i64 0, .string ⟨#[]⟩], .bool true]) (by simp [results, Tryd.results12, go_sem, e0, e1, e2]) rfl (litP_yes (0, 0, ⟨#[]⟩) rfl (below3_set HL1.out.2.2.1 _ _ _))
theorem nul_ne {s : ByteArray} (h : bts s ≠ nulL) : (s.toList == [78, 85, 76, 76]) = false := by
  rw [beq_eq_false_iff_ne]
  intro e
  apply h
  rw [ByteArray.toList_eq] at e
  unfold bts
  rw [e]; rfl
theorem readU_q {L r : List Nat} (h : L = 39 :: r) : readU L = (unq r).map (fun t => (2, 0, bstr t)) := by
  subst h
  unfold readU
  rw [if_neg (by simp [nulL])]
  simp
theorem readU_x {L r : List Nat} (h : L = 120 :: r) : readU L = (unx r).map (fun t => (3, 0, bstr t)) := by
  subst h
  unfold readU
  rw [if_neg (by simp [nulL])]
  simp
set_option maxRecDepth 100000 in
set_option maxHeartbeats 4000000 in
theorem literal_q (s : ByteArray) (r : List Nat) (w : World) (h : bts s = 39 :: r) (hl : s.size ≤ 100000) : Calls Tryd.prog 12 #[.string s] w (LitP (bts s) w) := by
  have HL := Lib.hid (h ▸ lv_new w s)
  have HNC := Lib.hid next_cons
  have hne := nul_ne (s := s) (by rw [h]; simp [nulL])
  have hlen := bts_length s
  have hlt := bts_lt s
  have HU := Lib.hid (readU_q h)
  rw [h] at hlen hlt
  have HTX := Lib.hid (fun W0 (hN : Nx (w.heap.size + 1) r W0) => text_any W0 (w.heap.size + 1) r hN (fun x hx => hlt x (by simp [hx])) (by simp at hlen; omega))
  clear hlen hlt h
  go_enter Tryd.func12, Tryd.ntmps12
  go_wp2_with fail
  refine (HNC.out _ _ _ _ HL.out.2.1).mono ?_
  rintro e w1 ⟨rfl, hn1, hb1⟩
  have hl1 := lv_bx HL.out hn1 hb1
  obtain ⟨d0, d1, d2, f0, f1, f2⟩ := cell3 hl1.1
  have HL2 := Lib.hid (lv_set hl1 0 (.int .u8 2) (p' := 2) (q' := 0) (x' := ⟨#[]⟩) rfl)
  clear hn1 hb1 hl1 HL
  go_wp2_with fail
  refine (HTX.out _ HL2.out.2.1).mono ?_
  rintro e w4 ⟨rfl, hb4⟩
  have hv4 := bx_blk HL2.out.1 hb4 (by omega)
  obtain ⟨x0, x1, x2, y0, y1, y2⟩ := cell3 hv4
  have HV4 := Lib.hid hv4
  have HB4 := Lib.hid (bx_below HL2.out.2.2.1 hb4 (by omega) (by have := HL2.out.2.2.2; omega))
  clear hv4 hb4 HL2 d0 d1 d2 f0 f1 f2
  cases hu : unq r with
  | none =>
    rw [hu] at HU
    simp only [txr]
    go_wp2
    obtain ⟨e0, e1, e2, _, _, _⟩ := cell3 (blk3_set (HV4.out.set_ 2 (.string ⟨#[]⟩)) (.int .u8 2) (.int .i64 0) (.string ⟨#[]⟩))
    exact bodyPost_ret (v := .tuple #[.agg #[.int .u8 2, .int .i64 0, .string ⟨#[]⟩], .bool false]) (by simp [results, Tryd.results12, go_sem, e0, e1, e2]) rfl (litP_no (2, 0, ⟨#[]⟩) HU.out (below3_set (HB4.out.setCell (Nat.le_refl _) _) _ _ _))
  | some t =>
    rw [hu] at HU
    have HU := Lib.hid (show readU (bts s) = some (2, 0, bstr t) from HU.out)
    simp only [txr]
    generalize bstr t = T at *
    go_wp2
    obtain ⟨e0, e1, e2, _, _, _⟩ := cell3 (blk3_set (HV4.out.set_ 2 (.string T)) (.int .u8 2) (.int .i64 0) (.string T))
    exact bodyPost_ret (v := .tuple #[.agg #[.int .u8 2, .int .i64 0, .string T], .bool true]) (by simp [results, Tryd.results12, go_sem, e0, e1, e2]) rfl (litP_yes (2, 0, T) HU.out (below3_set (HB4.out.setCell (Nat.le_refl _) _) _ _ _))
set_option maxRecDepth 100000 in
set_option maxHeartbeats 4000000 in
theorem literal_x (s : ByteArray) (r : List Nat) (w : World) (h : bts s = 120 :: r) (hl : s.size ≤ 100000) : Calls Tryd.prog 12 #[.string s] w (LitP (bts s) w) := by
  have HL := Lib.hid (h ▸ lv_new w s)
  have HNC := Lib.hid next_cons
  have hne := nul_ne (s := s) (by rw [h]; simp [nulL])
  have hlen := bts_length s
  have hlt := bts_lt s
  have HU := Lib.hid (readU_x h)
  rw [h] at hlen hlt
  have HTX := Lib.hid (fun W0 (hN : Nx (w.heap.size + 1) r W0) => blob_any W0 (w.heap.size + 1) r hN (fun x hx => hlt x (by simp [hx])) (by simp at hlen; omega))
  clear hlen hlt h
  go_enter Tryd.func12, Tryd.ntmps12
  go_wp2_with fail
  refine (HNC.out _ _ _ _ HL.out.2.1).mono ?_
  rintro e w1 ⟨rfl, hn1, hb1⟩
  have hl1 := lv_bx HL.out hn1 hb1
  obtain ⟨d0, d1, d2, f0, f1, f2⟩ := cell3 hl1.1
  have HL2 := Lib.hid (lv_set hl1 0 (.int .u8 3) (p' := 3) (q' := 0) (x' := ⟨#[]⟩) rfl)
  clear hn1 hb1 hl1 HL
  go_wp2_with fail
  refine (HTX.out _ HL2.out.2.1).mono ?_
  rintro e w4 ⟨hb4, ⟨t, hu, rfl⟩ | ⟨hu, T, rfl⟩⟩
  · have hv4 := bx_blk HL2.out.1 hb4 (by omega)
    obtain ⟨x0, x1, x2, y0, y1, y2⟩ := cell3 hv4
    have HV4 := Lib.hid hv4
    have HB4 := Lib.hid (bx_below HL2.out.2.2.1 hb4 (by omega) (by have := HL2.out.2.2.2; omega))
    clear hv4 hb4 HL2 d0 d1 d2 f0 f1 f2
    rw [hu] at HU
    have HU := Lib.hid (show readU (bts s) = some (3, 0, bstr t) from HU.out)
    clear hu
    generalize bstr t = T at *
    go_wp2
    obtain ⟨e0, e1, e2, _, _, _⟩ := cell3 (blk3_set (HV4.out.set_ 2 (.string T)) (.int .u8 3) (.int .i64 0) (.string T))
    exact bodyPost_ret (v := .tuple #[.agg #[.int .u8 3, .int .i64 0, .string T], .bool true]) (by simp [results, Tryd.results12, go_sem, e0, e1, e2]) rfl (litP_yes (3, 0, T) HU.out (below3_set (HB4.out.setCell (Nat.le_refl _) _) _ _ _))
  · have hv4 := bx_blk HL2.out.1 hb4 (by omega)
    obtain ⟨x0, x1, x2, y0, y1, y2⟩ := cell3 hv4
    have HV4 := Lib.hid hv4
    have HB4 := Lib.hid (bx_below HL2.out.2.2.1 hb4 (by omega) (by have := HL2.out.2.2.2; omega))
    clear hv4 hb4 HL2 d0 d1 d2 f0 f1 f2
    rw [hu] at HU
    clear hu
    go_wp2
    obtain ⟨e0, e1, e2, _, _, _⟩ := cell3 (blk3_set (HV4.out.set_ 2 (.string T)) (.int .u8 3) (.int .i64 0) (.string T))
    exact bodyPost_ret (v := .tuple #[.agg #[.int .u8 3, .int .i64 0, .string T], .bool false]) (by simp [results, Tryd.results12, go_sem, e0, e1, e2]) rfl (litP_no (3, 0, T) HU.out (below3_set (HB4.out.setCell (Nat.le_refl _) _) _ _ _))
theorem nextU (g : Nat) (L : List Nat) (W : World) (h : Nx g L W) (hq : L.head? ≠ some 39) (hx : L.head? ≠ some 120) : Calls Tryd.prog 27 #[.pointer (some ⟨g, 0, none⟩)] W fun e w' => ∃ (c : Int) (b : Bool) (L' : List Nat), e = .returned (.tuple #[.int .u8 c, .bool b]) ∧ c ≠ 39 ∧ c ≠ 120 ∧ Nx g L' w' ∧ Bx g W w' := by
  cases L with
  | nil => exact (next_nil g W h).mono fun e w' ⟨h1, h2, h3⟩ => ⟨0, false, [], h1, by omega, by omega, h2, h3⟩
  | cons c r => exact (next_cons g c r W h).mono fun e w' ⟨h1, h2, h3⟩ => ⟨c, true, r, h1, by simp at hq; omega, by simp at hx; omega, h2, h3⟩
theorem readU_n {L : List Nat} (h0 : L ≠ nulL) (hq : L.head? ≠ some 39) (hx : L.head? ≠ some 120) : readU L = (numZ L).map (fun n => (1, n, bstr [])) := by
  unfold readU
  rw [if_neg h0]
  cases L with
  | nil => rfl
  | cons c r =>
    simp only
    rw [if_neg (by simpa using hq), if_neg (by simpa using hx)]
theorem ito_of {s : ByteArray} {v : Int} (h : bts s = itoL v) : s.data.toList = Lib.itoa v := by
  unfold bts itoL at h
  have := congrArg (List.map UInt8.ofNat) h
  simpa [List.map_map, Function.comp_def] using this
theorem numZ_none {s : ByteArray} (h : ∀ v, Lib.atoiAll s.data.toList ≠ .ok v) : numZ (bts s) = none := by
  cases hz : numZ (bts s) with
  | none => rfl
  | some m =>
    obtain ⟨e, h0, h1⟩ := numZ_some hz
    exact absurd (by rw [ito_of e]; exact atoi_ito h0 h1) (h m)
theorem atoi_range {l : List UInt8} {v : Int} (h : Lib.atoiAll l = .ok v) : -9223372036854775808 ≤ v ∧ v ≤ 9223372036854775807 := by
  rw [← Lib.parseIntB_64] at h
  have := Lib.parseIntB_bounds h
  have e : (2 : Nat) ^ (64 - 1) = 9223372036854775808 := by decide
  rw [e] at this
  omega
theorem numZ_yes {s : ByteArray} {v : Int} (h : Lib.atoiAll s.data.toList = .ok v) (e : bstr (itoL v) = s) : numZ (bts s) = some v := by
  obtain ⟨h0, h1⟩ := atoi_range h
  rw [← e, bts_bstr _ (itoL_lt v)]
  exact numZ_ito h0 h1
theorem numZ_not {s : ByteArray} {v : Int} (h : Lib.atoiAll s.data.toList = .ok v) (e : bstr (itoL v) ≠ s) : numZ (bts s) = none := by
  cases hz : numZ (bts s) with
  | none => rfl
  | some m =>
    obtain ⟨e2, h0, h1⟩ := numZ_some hz
    have h2 : Lib.atoiAll s.data.toList = .ok m := by rw [ito_of e2]; exact atoi_ito h0 h1
    rw [h] at h2
    injection h2 with h2
    subst h2
    exact absurd (by rw [← e2, bstr_bts]) e
set_option maxRecDepth 100000 in
set_option maxHeartbeats 4000000 in
theorem literal_n (s : ByteArray) (w : World) (hG : Gl w) (h0 : bts s ≠ nulL) (hq : (bts s).head? ≠ some 39) (hx : (bts s).head? ≠ some 120) (hl : s.size ≤ 100000) : Calls Tryd.prog 12 #[.string s] w (LitP (bts s) w) := by
  have HL := Lib.hid (lv_new w s)
  have HNU := Lib.hid (fun W h => nextU (w.heap.size + 1) (bts s) W h hq hx)
  have hne := nul_ne h0
  have HU := Lib.hid (readU_n h0 hq hx)
  have HPA := Lib.hid (fun W (hb : Below w.heap.size w W) => parse_any s W (gl_below hG hb) hl)
  have HFM := Lib.hid (fun v W (hb : Below w.heap.size w W) => fmt_any v W (gl_below hG hb))
  clear h0 hq hx
  go_enter Tryd.func12, Tryd.ntmps12
  go_wp2_with fail
  refine (HNU.out _ HL.out.2.1).mono ?_
  rintro e w1 ⟨c, b, L', rfl, c39, c120, hn1, hb1⟩
  have hl1 := lv_bx HL.out hn1 hb1
  have HL1 := Lib.hid hl1
  have c39' := beq_no c39
  have c120' := beq_no c120
  clear hn1 hb1 hl1 HL c39 c120
  go_wp2_with fail
  refine (HPA.out _ HL1.out.2.2.1).mono ?_
  rintro e w2 ⟨hb2, ⟨v, hv, rfl⟩ | ⟨hv, x, t, p, rfl⟩⟩
  · obtain ⟨r0, r1⟩ := atoi_range hv
    have HV2 := Lib.hid (blk_step HL1.out.1 hb2)
    have HB2 := Lib.hid (bj HL1.out.2.2.1 hb2)
    have hfm := fun W hb => HFM.out v W hb r0 r1
    by_cases he : bstr (itoL v) = s
    · have HU2 := Lib.hid (show readU (bts s) = some (1, v, bstr []) by rw [HU.out, numZ_yes hv he]; rfl)
      rw [he] at hfm
      have HFV := Lib.hid hfm
      clear hfm he hv hb2 r0 r1
      go_wp2_with fail
      refine (HFV.out _ HB2.out).mono ?_
      rintro e w3 ⟨rfl, hb3⟩
      have hv3 := blk_step HV2.out hb3
      obtain ⟨x0, x1, x2, y0, y1, y2⟩ := cell3 hv3
      have HV3 := Lib.hid hv3
      have HB3 := Lib.hid (bj HB2.out hb3)
      clear hv3 hb3
      go_wp2
      obtain ⟨e0, e1, e2, _, _, _⟩ := cell3 (blk3_set (blk3_set HV3.out (.int .u8 1) (.int .i64 v) (.string ⟨#[]⟩)) (.int .u8 1) (.int .i64 v) (.string ⟨#[]⟩))
      exact bodyPost_ret (v := .tuple #[.agg #[.int .u8 1, .int .i64 v, .string ⟨#[]⟩], .bool true]) (by simp [results, Tryd.results12, go_sem, e0, e1, e2]) rfl (litP_yes (1, v, ⟨#[]⟩) HU2.out (below3_set (below3_set HB3.out _ _ _) _ _ _))
    · have HU2 := Lib.hid (show readU (bts s) = none by rw [HU.out, numZ_not hv he]; rfl)
      generalize bstr (itoL v) = X at *
      have hX := toList_ne (S := X) (T := s) (fun e => he e.symm)
      have HFV := Lib.hid hfm
      clear hfm he hv hb2 r0 r1
      go_wp2_with fail
      refine (HFV.out _ HB2.out).mono ?_
      rintro e w3 ⟨rfl, hb3⟩
      have hv3 := blk_step HV2.out hb3
      obtain ⟨x0, x1, x2, y0, y1, y2⟩ := cell3 hv3
      have HV3 := Lib.hid hv3
      have HB3 := Lib.hid (bj HB2.out hb3)
      clear hv3 hb3
      go_wp2
      obtain ⟨e0, e1, e2, _, _, _⟩ := cell3 (blk3_set (blk3_set HV3.out (.int .u8 1) (.int .i64 v) (.string ⟨#[]⟩)) (.int .u8 1) (.int .i64 v) (.string ⟨#[]⟩))
      exact bodyPost_ret (v := .tuple #[.agg #[.int .u8 1, .int .i64 v, .string ⟨#[]⟩], .bool false]) (by simp [results, Tryd.results12, go_sem, e0, e1, e2]) rfl (litP_no (1, v, ⟨#[]⟩) HU2.out (below3_set (below3_set HB3.out _ _ _) _ _ _))
  · have HU2 := Lib.hid (show readU (bts s) = none by rw [HU.out, numZ_none hv]; rfl)
    have hv2 := blk_step HL1.out.1 hb2
    obtain ⟨x0, x1, x2, y0, y1, y2⟩ := cell3 hv2
    have HV2 := Lib.hid hv2
    have HB2 := Lib.hid (bj HL1.out.2.2.1 hb2)
    clear hv hv2 hb2
    go_wp2
    obtain ⟨e0, e1, e2, _, _, _⟩ := cell3 (blk3_set (blk3_set HV2.out (.int .u8 1) (.int .i64 x) (.string ⟨#[]⟩)) (.int .u8 1) (.int .i64 x) (.string ⟨#[]⟩))
    exact bodyPost_ret (v := .tuple #[.agg #[.int .u8 1, .int .i64 x, .string ⟨#[]⟩], .bool false]) (by simp [results, Tryd.results12, go_sem, e0, e1, e2]) rfl (litP_no (1, x, ⟨#[]⟩) HU2.out (below3_set (below3_set HB2.out _ _ _) _ _ _))
theorem literal_any (s : ByteArray) (w : World) (hG : Gl w) (hl : s.size ≤ 100000) : Calls Tryd.prog 12 #[.string s] w (LitP (bts s) w) := by
  by_cases h0 : bts s = nulL
  · have e : s = ⟨#[78, 85, 76, 76]⟩ := bts_inj (h0.trans rfl)
    rw [h0, e]
    exact literal_nul w
  · cases hb : bts s with
    | nil => rw [← hb]; exact literal_n s w hG h0 (by rw [hb]; simp) (by rw [hb]; simp) hl
    | cons c r =>
      rw [← hb]
      by_cases h39 : c = 39
      · subst h39; exact literal_q s r w hb hl
      · by_cases h120 : c = 120
        · subst h120; exact literal_x s r w hb hl
        · exact literal_n s w hG h0 (by rw [hb]; simpa using h39) (by rw [hb]; simpa using h120) hl
set_option maxRecDepth 100000 in
set_option maxHeartbeats 4000000 in
theorem read_any (s : ByteArray) (w : World) (hG : Gl w) (hl : s.size ≤ 100000) : Calls Tryd.prog 4 #[.string s] w fun e w' => e = .returned (.tuple #[valV (readZ (bts s)).1, .int .i64 (readZ (bts s)).2]) ∧ Below w.heap.size w w' := by
  have HLA := Lib.hid (fun W (hb : Below w.heap.size w W) => literal_any s W (gl_below hG hb) hl)
  have HZ := Lib.hid (readZ_U (bts s))
  have hb0 : Below w.heap.size w (w.alloc (.cells #[.int .u8 0, .int .i64 0, .string ⟨#[]⟩] 24)) := one_alloc
  have HB0 := Lib.hid hb0
  have HV0 := Lib.hid (Blk.new w 24 #[.int .u8 0, .int .i64 0, .string ⟨#[]⟩])
  clear hb0
  go_enter Tryd.func4, Tryd.ntmps4
  go_wp2_with fail
  refine (HLA.out _ HB0.out).mono ?_
  rintro e w1 ⟨hb1, ⟨⟨p, q, x⟩, hu, rfl⟩ | ⟨hu, ⟨p, q, x⟩, rfl⟩⟩
  · have hv1 := (blk_step HV0.out hb1).alloc (.cells #[.int .u8 p, .int .i64 q, .string x] 24)
    obtain ⟨x0, x1, x2, y0, y1, y2⟩ := cell3 hv1
    have HV1 := Lib.hid hv1
    have HB1 := Lib.hid ((bj HB0.out hb1).alloc (bj HB0.out hb1).size (.cells #[.int .u8 p, .int .i64 q, .string x] 24))
    rw [hu] at HZ
    clear hu hv1 hb1
    by_cases hx : 1000 < x.size
    · have HZ2 := Lib.hid (show readZ (bts s) = (nulV, 3) by rw [HZ.out]; simp only; rw [if_pos hx])
      have hxI : (1000 : Int) < x.size := by omega
      clear hx
      go_wp2
      obtain ⟨e0, e1, e2, _, _, _⟩ := cell3 (blk3_set HV1.out (.int .u8 0) (.int .i64 0) (.string ⟨#[]⟩))
      exact bodyPost_ret (v := .tuple #[.agg #[.int .u8 0, .int .i64 0, .string ⟨#[]⟩], .int .i64 3]) (by simp [results, Tryd.results4, go_sem, e0, e1, e2]) rfl ⟨by rw [HZ2.out]; rfl, below3_set HB1.out _ _ _⟩
    · have HZ2 := Lib.hid (show readZ (bts s) = ((p, q, x), 0) by rw [HZ.out]; simp only; rw [if_neg hx])
      have hxI : (x.size : Int) ≤ 1000 := by omega
      clear hx
      go_wp2
      obtain ⟨e0, e1, e2, _, _, _⟩ := cell3 (blk3_set HV1.out (.int .u8 p) (.int .i64 q) (.string x))
      exact bodyPost_ret (v := .tuple #[.agg #[.int .u8 p, .int .i64 q, .string x], .int .i64 0]) (by simp [results, Tryd.results4, go_sem, e0, e1, e2]) rfl ⟨by rw [HZ2.out], below3_set HB1.out _ _ _⟩
  · have hv1 := (blk_step HV0.out hb1).alloc (.cells #[.int .u8 p, .int .i64 q, .string x] 24)
    obtain ⟨x0, x1, x2, y0, y1, y2⟩ := cell3 hv1
    have HV1 := Lib.hid hv1
    have HB1 := Lib.hid ((bj HB0.out hb1).alloc (bj HB0.out hb1).size (.cells #[.int .u8 p, .int .i64 q, .string x] 24))
    rw [hu] at HZ
    have HZ2 := Lib.hid (show readZ (bts s) = (nulV, 6) by rw [HZ.out])
    clear hu hv1 hb1
    go_wp2
    obtain ⟨e0, e1, e2, _, _, _⟩ := cell3 (blk3_set HV1.out (.int .u8 0) (.int .i64 0) (.string ⟨#[]⟩))
    exact bodyPost_ret (v := .tuple #[.agg #[.int .u8 0, .int .i64 0, .string ⟨#[]⟩], .int .i64 6]) (by simp [results, Tryd.results4, go_sem, e0, e1, e2]) rfl ⟨by rw [HZ2.out]; rfl, below3_set HB1.out _ _ _⟩
end Go.Proofs.YthacdfdnbhfooaaDoor
