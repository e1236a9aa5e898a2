/- value.Read's parts: what is still to be read, a text behind its quote, a blob behind its x. Conditions: those of each lemma. -/
import Derived.Test.YthacdfdnbhfooaaDoorLit5
namespace Go.Proofs.YthacdfdnbhfooaaDoor
open Go.RowKit
set_option linter.unusedVariables false
/-- what is still to be read lies in one block -/
def Nx (g : Nat) (L : List Nat) (W : World) : Prop := ∃ S : ByteArray, bts S = L ∧ Blk W g 9 #[.string S]
/-- all else stands but that block -/
def Bx (g : Nat) (W W' : World) : Prop := W'.os = W.os ∧ W'.tape = W.tape ∧ W'.output = W.output ∧ W.heap.size ≤ W'.heap.size ∧ ∀ k, k < W.heap.size → k ≠ g → W'.heap[k]? = W.heap[k]?
theorem bx_refl (g : Nat) (W : World) : Bx g W W := ⟨rfl, rfl, rfl, Nat.le_refl _, fun _ _ _ => rfl⟩
theorem bx_trans {g : Nat} {a b c : World} (h : Bx g a b) (k : Bx g b c) : Bx g a c :=
  ⟨k.1.trans h.1, k.2.1.trans h.2.1, k.2.2.1.trans h.2.2.1, Nat.le_trans h.2.2.2.1 k.2.2.2.1, fun i hi hg => (k.2.2.2.2 i (Nat.lt_of_lt_of_le hi h.2.2.2.1) hg).trans (h.2.2.2.2 i hi hg)⟩
theorem bx_of {g B : Nat} {a b : World} (h : Below B a b) (hB : a.heap.size = B) : Bx g a b := ⟨h.os, h.tape, h.output, h.size, fun i hi _ => h.block i (by omega)⟩
theorem bx_later {g : Nat} {a b c : World} (h : Bx g a b) (k : Below a.heap.size b c) : Bx g a c :=
  ⟨k.os.trans h.1, k.tape.trans h.2.1, k.output.trans h.2.2.1, Nat.le_trans h.2.2.2.1 k.size, fun i hi hg => (k.block i hi).trans (h.2.2.2.2 i hi hg)⟩
theorem bx_below {g B : Nat} {w a b : World} (h : Below B w a) (k : Bx g a b) (hg : B ≤ g) (hB : B ≤ a.heap.size) : Below B w b :=
  h.trans ⟨k.1, k.2.1, k.2.2.1, k.2.2.2.1, fun i hi => k.2.2.2.2 i (by omega) (by omega)⟩
theorem bx_blk {g g' : Nat} {a b : World} {t : TypeId} {cs : Array Value} (h : Blk a g' t cs) (k : Bx g a b) (hg : g' ≠ g) : Blk b g' t cs := (k.2.2.2.2 g' h.lt hg).trans h
theorem bx_set (g : Nat) (W : World) (i : Nat) (u : Value) : Bx g W (W.setCell ⟨g, i, none⟩ u) :=
  ⟨rfl, rfl, rfl, by simp [World.setCell], fun k _ hk => Below.heap_setCell _ _ _ _ (fun e => hk (by simp [e]))⟩
def nxSize (g : Nat) (W : World) : Nat := match W.cell? ⟨g, 0, none⟩ with | some (.string S) => S.size | _ => 0
theorem nx_size {g : Nat} {L : List Nat} {W : World} (h : Nx g L W) : nxSize g W = L.length := by
  obtain ⟨S, rfl, h⟩ := h
  unfold nxSize
  rw [h.cell 0]
  exact (bts_length S).symm
abbrev nextV (g : Nat) : Value := .func (.func 27) #[] #[.pointer (some ⟨g, 0, none⟩)]
set_option maxRecDepth 100000 in
set_option maxHeartbeats 2000000 in
theorem next_nil (g : Nat) (W : World) (h : Nx g [] W) : Calls Tryd.prog 27 #[.pointer (some ⟨g, 0, none⟩)] W fun e w' => e = .returned (.tuple #[.int .u8 0, .bool false]) ∧ Nx g [] w' ∧ Bx g W w' := by
  obtain ⟨S, hS, hb⟩ := h
  obtain rfl := empty_of (show S.size = 0 by rw [← bts_length, hS]; rfl)
  have hc := hb.cell 0
  have HB := Lib.hid hb
  rw [show (bstr [] : ByteArray) = ⟨#[]⟩ from rfl] at *
  simp only [List.getElem?_toArray, List.getElem?_cons_zero] at hc
  clear hb hS
  go_enter Tryd.func27, Tryd.ntmps27
  go_wp2
  go_ret2
  exact ⟨rfl, ⟨_, rfl, HB.out⟩, bx_refl _ _⟩
set_option maxRecDepth 100000 in
set_option maxHeartbeats 2000000 in
theorem next_cons (g c : Nat) (r : List Nat) (W : World) (h : Nx g (c :: r) W) : Calls Tryd.prog 27 #[.pointer (some ⟨g, 0, none⟩)] W fun e w' => e = .returned (.tuple #[.int .u8 c, .bool true]) ∧ Nx g r w' ∧ Bx g W w' := by
  obtain ⟨S, hS, hb⟩ := h
  have hl := bts_length S
  rw [hS] at hl
  have h0 : 0 < S.size := by simp at hl; omega
  have hby := byte_at S 0 h0
  rw [hS] at hby
  simp only [List.getD_cons_zero] at hby
  have hx := bts_cutr S 1
  rw [hS] at hx
  have hc := hb.cell 0
  have hf := hb.frozen 0
  have HB := Lib.hid hb
  have HX := Lib.hid hx
  have hs1 := str_no (s := S) (by omega)
  have hs2 := str_em (s := S) (by omega)
  have hsz1 : (1 : Int) ≤ S.size := by omega
  simp only [List.getElem?_toArray, List.getElem?_cons_zero] at hc
  clear hb hx hS hl
  go_enter Tryd.func27, Tryd.ntmps27
  go_wp2
  go_ret2
  exact ⟨rfl, ⟨_, HX.out, HB.out.set_ 0 _⟩, bx_set _ _ _ _⟩
/-- a builder, what is still to be read, and all else -/
def Tx (W0 : World) (g b : Nat) (acc L : List Nat) (W : World) : Prop := (∃ v, Bu W0.heap.size b v (Lib.strCells (bstr acc)) W) ∧ Nx g L W ∧ Bx g W0 W ∧ g < W0.heap.size
theorem tx_next {W0 W W' : World} {g b : Nat} {acc L L' : List Nat} (h : Tx W0 g b acc L W) (hn : Nx g L' W') (hb : Bx g W W') : Tx W0 g b acc L' W' := by
  obtain ⟨⟨v, h1⟩, h2, h3, h4⟩ := h
  refine ⟨⟨v, h1.keep hb.1 hb.2.1 hb.2.2.1 hb.2.2.2.1 fun k hk he => hb.2.2.2.2 k hk ?_⟩, hn, bx_trans h3 hb, h4⟩
  rcases he with rfl | he
  · have := h1.1; omega
  · have := (h1.rowlt k he).1; omega
theorem tx_below {W0 W W' : World} {g b : Nat} {acc L : List Nat} (h : Tx W0 g b acc L W) (hb : Below W.heap.size W W') : Tx W0 g b acc L W' := by
  obtain ⟨S, hS, hk⟩ := h.2.1
  exact tx_next h ⟨S, hS, blk_step hk hb⟩ (bx_of hb rfl)
theorem tx_wb {W0 W : World} {g b : Nat} {acc L : List Nat} (x : Nat) (h : Tx W0 g b acc L W) (hx : x < 256) (hlen : acc.length + 1 ≤ 140737488355328) :
    Calls Tryd.prog 25 #[.pointer (some ⟨b, 0, none⟩), .int .u8 (x : Int)] W fun e w' => e = .returned .nilIface ∧ Tx W0 g b (acc ++ [x]) L w' := by
  obtain ⟨⟨v, h1⟩, ⟨S, hS, h2⟩, h3, h4⟩ := h
  refine (bu_writeByte _ b v _ x W h1 (by rw [Lib.strCells_length, bstr_size]; exact hlen) h3.2.2.2.1).mono ?_
  rintro e w' ⟨rfl, v', h1', hfr, hb, hat⟩
  have e1 : Lib.strCells (bstr acc) ++ [Value.int .u8 (x : Int)] = Lib.strCells (bstr (acc ++ [x])) := by
    rw [← bstr_append]
    have e2 : (UInt8.ofNat x).toNat = x := by rw [UInt8.toNat_ofNat']; omega
    simp [Lib.strCells, bstr, e2]
  rw [e1] at h1'
  exact ⟨rfl, ⟨v', h1'⟩, ⟨S, hS, (hb.block g h4).trans h2⟩, bx_later h3 hb, h4⟩
theorem tx_str {W0 W : World} {g b : Nat} {acc L : List Nat} (h : Tx W0 g b acc L W) :
    Calls Tryd.prog 18 #[.pointer (some ⟨b, 0, none⟩)] W fun e w' => e = .returned (.string (bstr acc)) ∧ Bx g W0 w' := by
  obtain ⟨⟨v, h1⟩, h2, h3, h4⟩ := h
  exact (Tryd.Builder_String_any W0.heap.size b (bstr acc).data.toList W h1.old h3.2.2.2.1).mono fun e w' he => ⟨he.1, bx_later h3 he.2⟩
theorem tx_new {W0 : World} {g : Nat} {L : List Nat} (h : Nx g L W0) : Tx W0 g W0.heap.size [] L (W0.alloc (.cells #[.pointer none, .slice none 0 0] 45)) := by
  obtain ⟨S, hS, hk⟩ := h
  exact ⟨⟨_, bu_new _ W0 (Nat.le_refl _)⟩, ⟨S, hS, hk.alloc _⟩, bx_of ((Below.refl _ _).alloc (Nat.le_refl _) _) rfl, hk.lt⟩
theorem unq_char {c : Nat} {r : List Nat} (h : c ≠ 39) : unq (c :: r) = (unq r).map (c :: ·) := by
  cases r with
  | nil => simp [unq, h]
  | cons d r => simp [unq, h]
theorem unq_two {r : List Nat} : unq (39 :: 39 :: r) = (unq r).map (39 :: ·) := by simp [unq]
theorem unq_bad {d : Nat} {r : List Nat} (h : d ≠ 39) : unq (39 :: d :: r) = none := by simp [unq, h]
theorem omap_app (acc : List Nat) (x : Nat) (o : Option (List Nat)) : (o.map (x :: ·)).map (acc ++ ·) = o.map ((acc ++ [x]) ++ ·) := by cases o <;> simp
def txr (o : Option (List Nat)) : ByteArray × Bool := match o with | some t => (bstr t, true) | none => (⟨#[]⟩, false)
set_option maxRecDepth 100000 in
set_option maxHeartbeats 4000000 in
theorem text_any (W0 : World) (g : Nat) (L : List Nat) (hN : Nx g L W0) (hlt : ∀ x ∈ L, x < 256) (hl : L.length ≤ 100000) :
    Calls Tryd.prog 28 #[nextV g] W0 fun e w' => e = .returned (.tuple #[.string (txr (unq L)).1, .bool (txr (unq L)).2]) ∧ Bx g W0 w' := by
  have HT := Lib.hid (tx_new hN)
  have HNI := Lib.hid next_nil
  have HNC := Lib.hid next_cons
  have HLT := Lib.hid hlt
  clear hN hlt
  go_enter Tryd.func28, Tryd.ntmps28
  go_wp2
  generalize hgb : W0.heap.size = b at *
  go_loopw [] (fun wr => ∃ (acc M : List Nat), acc.length + M.length ≤ L.length ∧ (∀ x ∈ M, x < 256) ∧ unq L = (unq M).map (acc ++ ·) ∧ Tx W0 g b acc M wr) (fun wr => nxSize g wr)
  case atStart => exact ⟨[], L, by simp, HLT.out, by cases unq L <;> simp, HT.out⟩
  case round =>
    clear HT
    obtain ⟨acc, M, hlen, hM, heq, htx⟩ := hrel
    have hms := nx_size htx.2.1
    have HMS := Lib.hid hms
    have HEQ := Lib.hid heq
    have HLEN := Lib.hid hlen
    have HTX := Lib.hid htx
    have HMM := Lib.hid hM
    clear hms heq hlen htx hM
    match M with
    | [] =>
      have HP := Lib.hid (show txr (unq L) = (⟨#[]⟩, false) by rw [HEQ.out]; rfl)
      go_wp2_with fail
      refine (HNI.out _ _ HTX.out.2.1).mono ?_
      rintro e w1 ⟨rfl, hn1, hb1⟩
      have HB := Lib.hid (bx_trans HTX.out.2.2.1 hb1)
      clear hn1 hb1
      go_wp2
      go_ret2
      exact ⟨by rw [HP.out]; rfl, HB.out⟩
    | c :: r =>
      have hc256 := HMM.out c (by simp)
      by_cases hc : c = 39
      · subst hc
        match r with
        | [] =>
          have HP := Lib.hid (show txr (unq L) = (bstr acc, true) by rw [HEQ.out]; simp [unq, txr])
          go_wp2_with fail
          refine (HNC.out _ _ _ _ HTX.out.2.1).mono ?_
          rintro e w1 ⟨rfl, hn1, hb1⟩
          have HT1 := Lib.hid (tx_next HTX.out hn1 hb1)
          clear hn1 hb1
          go_wp2_with fail
          refine (HNI.out _ _ HT1.out.2.1).mono ?_
          rintro e w2 ⟨rfl, hn2, hb2⟩
          have HT2 := Lib.hid (tx_next HT1.out hn2 hb2)
          clear hn2 hb2
          go_wp2_with fail
          refine (tx_str HT2.out).mono ?_
          rintro e w3 ⟨rfl, hb3⟩
          go_wp2
          go_ret2
          exact ⟨by rw [HP.out]; rfl, hb3⟩
        | d :: r =>
          by_cases hd : d = 39
          · subst hd
            have HQ := Lib.hid (show unq L = (unq r).map ((acc ++ [39]) ++ ·) by rw [HEQ.out, unq_two, omap_app])
            go_wp2_with fail
            refine (HNC.out _ _ _ _ HTX.out.2.1).mono ?_
            rintro e w1 ⟨rfl, hn1, hb1⟩
            have HT1 := Lib.hid (tx_next HTX.out hn1 hb1)
            clear hn1 hb1
            go_wp2_with fail
            refine (HNC.out _ _ _ _ HT1.out.2.1).mono ?_
            rintro e w2 ⟨rfl, hn2, hb2⟩
            have HT2 := Lib.hid (tx_next HT1.out hn2 hb2)
            clear hn2 hb2
            go_wp2_with fail
            refine (tx_wb 39 HT2.out (by omega) (by have := HLEN.out; omega)).mono ?_
            rintro e w3 ⟨rfl, ht3⟩
            have HT3 := Lib.hid ht3
            clear ht3
            go_wp2
            go_roundw
            case rel => exact ⟨acc ++ [39], r, by have := HLEN.out; simp at this ⊢; omega, fun x hx => HMM.out x (by simp [hx]), HQ.out, HT3.out⟩
            case measure => rw [nx_size HT3.out.2.1, HMS.out]; simp; omega
          · have HP := Lib.hid (show txr (unq L) = (⟨#[]⟩, false) by rw [HEQ.out, unq_bad hd]; rfl)
            have hdI : ((d : Int) != 39) = true := by rw [bne_iff_ne]; omega
            clear hd
            go_wp2_with fail
            refine (HNC.out _ _ _ _ HTX.out.2.1).mono ?_
            rintro e w1 ⟨rfl, hn1, hb1⟩
            have HT1 := Lib.hid (tx_next HTX.out hn1 hb1)
            clear hn1 hb1
            go_wp2_with fail
            refine (HNC.out _ _ _ _ HT1.out.2.1).mono ?_
            rintro e w2 ⟨rfl, hn2, hb2⟩
            have HB := Lib.hid (bx_trans HT1.out.2.2.1 hb2)
            clear hn2 hb2
            go_wp2
            go_ret2
            exact ⟨by rw [HP.out]; rfl, HB.out⟩
      · have hcI : ((c : Int) == 39) = false := by rw [beq_eq_false_iff_ne]; omega
        have HQ := Lib.hid (show unq L = (unq r).map ((acc ++ [c]) ++ ·) by rw [HEQ.out, unq_char hc, omap_app])
        clear hc
        go_wp2_with fail
        refine (HNC.out _ _ _ _ HTX.out.2.1).mono ?_
        rintro e w1 ⟨rfl, hn1, hb1⟩
        have HT1 := Lib.hid (tx_next HTX.out hn1 hb1)
        clear hn1 hb1
        go_wp2_with fail
        refine (tx_wb c HT1.out (by omega) (by have := HLEN.out; omega)).mono ?_
        rintro e w3 ⟨rfl, ht3⟩
        have HT3 := Lib.hid ht3
        clear ht3
        go_wp2
        go_roundw
        case rel => exact ⟨acc ++ [c], r, by have := HLEN.out; simp at this ⊢; omega, fun x hx => HMM.out x (by simp [hx]), HQ.out, HT3.out⟩
        case measure => rw [nx_size HT3.out.2.1, HMS.out]; simp
end Go.Proofs.YthacdfdnbhfooaaDoor
