/- value.Read's parts: a blob behind its x. Conditions: those of each lemma. -/
import Derived.Test.YthacdfdnbhfooaaDoorRead1
namespace Go.Proofs.YthacdfdnbhfooaaDoor
open Go.RowKit
set_option linter.unusedVariables false
def hexI (c : Nat) : Int := match hexd c with | some n => (n : Int) | none => -1
theorem hexI_fin : ∀ c : Fin 256, Lib.indexByte [48, 49, 50, 51, 52, 53, 54, 55, 56, 57, 97, 98, 99, 100, 101, 102] (UInt8.ofNat c.val) = hexI c.val := by decide +kernel
theorem hexI_call (c : Nat) (W : World) (h : c < 256) : Calls Tryd.prog 41 #[.string ⟨#[48, 49, 50, 51, 52, 53, 54, 55, 56, 57, 97, 98, 99, 100, 101, 102]⟩, .int .u8 (c : Int)] W fun e w' => e = .returned (.int .i64 (hexI c)) ∧ W = w' := by
  have h1 := Tryd.strings_IndexByte ⟨#[48, 49, 50, 51, 52, 53, 54, 55, 56, 57, 97, 98, 99, 100, 101, 102]⟩ (c : Int) W
  have e : Lib.indexByte (⟨#[48, 49, 50, 51, 52, 53, 54, 55, 56, 57, 97, 98, 99, 100, 101, 102]⟩ : ByteArray).data.toList ((c : Int).toNat.toUInt8) = hexI c := hexI_fin ⟨c, h⟩
  rw [e] at h1
  exact h1.mono fun e w' he => ⟨he.1, he.2.symm⟩
theorem hexI_some {c a : Nat} (h : hexd c = some a) : hexI c = a := by unfold hexI; rw [h]
theorem hexI_none {c : Nat} (h : hexd c = none) : hexI c = -1 := by unfold hexI; rw [h]
def BlobP (L : List Nat) (g : Nat) (W0 : World) (e : Ending) (w' : World) : Prop := Bx g W0 w' ∧
  ((∃ t, unx L = some t ∧ e = .returned (.tuple #[.string (bstr t), .bool true])) ∨ (unx L = none ∧ ∃ X, e = .returned (.tuple #[.string X, .bool false])))
theorem unh_pair {c d a b : Nat} {r : List Nat} (hc : c ≠ 39) (ha : hexd c = some a) (hb : hexd d = some b) : unh (c :: d :: r) = (unh r).map ((16 * a + b) :: ·) := by
  simp only [unh, hc, ↓reduceIte, ha, hb]
theorem unh_bad {c d : Nat} {r : List Nat} (h : c = 39 ∨ hexd c = none ∨ hexd d = none) : unh (c :: d :: r) = none := by
  simp only [unh]
  split
  · rfl
  · rename_i hc
    rcases h with h | h | h
    · exact absurd h hc
    · rw [h]
    · rw [h]; cases hexd c <;> rfl
theorem hexd39 : hexd 39 = none := by decide
theorem hor_fin : ∀ a b : Fin 16, bits BinOp.or IntKind.i64 ((a.val : Int) * 16) (b.val : Int) % 256 = ((16 * a.val + b.val : Nat) : Int) := by decide +kernel
theorem hor_eq {a b : Nat} (ha : a < 16) (hb : b < 16) : bits BinOp.or IntKind.i64 ((a : Int) * 16) (b : Int) % 256 = ((16 * a + b : Nat) : Int) := hor_fin ⟨a, ha⟩ ⟨b, hb⟩
set_option maxRecDepth 100000 in
set_option maxHeartbeats 2000000 in
theorem blob_bad0 (W0 : World) (g : Nat) (hN : Nx g [] W0) : Calls Tryd.prog 29 #[nextV g] W0 (BlobP [] g W0) := by
  have HT := Lib.hid (tx_new hN)
  have HNI := Lib.hid next_nil
  clear hN
  go_enter Tryd.func29, Tryd.ntmps29
  go_wp2_with fail
  refine (HNI.out _ _ HT.out.2.1).mono ?_
  rintro e w1 ⟨rfl, hn1, hb1⟩
  have HT1 := Lib.hid (tx_next HT.out hn1 hb1)
  clear hn1 hb1 HT
  go_wp2
  go_ret2
  exact ⟨HT1.out.2.2.1, .inr ⟨rfl, _, rfl⟩⟩
set_option maxRecDepth 100000 in
set_option maxHeartbeats 2000000 in
theorem blob_bad1 (W0 : World) (g c : Nat) (r : List Nat) (hN : Nx g (c :: r) W0) (hc : c ≠ 39) : Calls Tryd.prog 29 #[nextV g] W0 (BlobP (c :: r) g W0) := by
  have HT := Lib.hid (tx_new hN)
  have HNC := Lib.hid next_cons
  have hcI : ((c : Int) != 39) = true := by rw [bne_iff_ne]; omega
  have HP := Lib.hid (show unx (c :: r) = none by simp [unx, hc])
  clear hN hc
  go_enter Tryd.func29, Tryd.ntmps29
  go_wp2_with fail
  refine (HNC.out _ _ _ _ HT.out.2.1).mono ?_
  rintro e w1 ⟨rfl, hn1, hb1⟩
  have HT1 := Lib.hid (tx_next HT.out hn1 hb1)
  clear hn1 hb1 HT
  go_wp2
  go_ret2
  exact ⟨HT1.out.2.2.1, .inr ⟨HP.out, _, rfl⟩⟩
set_option maxRecDepth 100000 in
set_option maxHeartbeats 8000000 in
theorem blob_loop (W0 : World) (g : Nat) (L : List Nat) (hN : Nx g (39 :: L) W0) (hlt : ∀ x ∈ L, x < 256) (hl : L.length ≤ 100000) :
    Calls Tryd.prog 29 #[nextV g] W0 (BlobP (39 :: L) g W0) := by
  have HT := Lib.hid (tx_new hN)
  have HNI := Lib.hid next_nil
  have HNC := Lib.hid next_cons
  have HLT := Lib.hid hlt
  have HIX := Lib.hid hexI_call
  have HU := Lib.hid (show unx (39 :: L) = unh L from rfl)
  clear hN hlt
  go_enter Tryd.func29, Tryd.ntmps29
  go_wp2_with fail
  refine (HNC.out _ _ _ _ HT.out.2.1).mono ?_
  rintro e w1 ⟨rfl, hn1, hb1⟩
  have HT1 := Lib.hid (tx_next HT.out hn1 hb1)
  clear hn1 hb1 HT
  generalize hgb : W0.heap.size = b at *
  go_wp2
  go_loopw [] (fun wr => ∃ (acc M : List Nat), acc.length + M.length ≤ L.length ∧ (∀ x ∈ M, x < 256) ∧ unh L = (unh M).map (acc ++ ·) ∧ Tx W0 g b acc M wr) (fun wr => nxSize g wr)
  case atStart => exact ⟨[], L, by simp, HLT.out, by cases unh L <;> simp, HT1.out⟩
  case round =>
    clear HT1
    obtain ⟨acc, M, hlen, hM, heq, htx⟩ := hrel
    have HMS := Lib.hid (nx_size htx.2.1)
    have HEQ := Lib.hid heq
    have HLEN := Lib.hid hlen
    have HTX := Lib.hid htx
    have HMM := Lib.hid hM
    clear heq hlen htx hM
    match M with
    | [] =>
      have HP := Lib.hid (show unx (39 :: L) = none by rw [HU.out, HEQ.out]; rfl)
      go_wp2_with fail
      refine (HNI.out _ _ HTX.out.2.1).mono ?_
      rintro e w1 ⟨rfl, hn1, hb1⟩
      have HT1 := Lib.hid (tx_next HTX.out hn1 hb1)
      clear hn1 hb1
      go_wp2_with fail
      refine (HNI.out _ _ HT1.out.2.1).mono ?_
      rintro e w2 ⟨rfl, hn2, hb2⟩
      have HT2 := Lib.hid (tx_next HT1.out hn2 hb2)
      clear hn2 hb2
      go_wp2_with fail
      refine (HIX.out 0 _ (by omega)).mono ?_
      rintro e w3 ⟨rfl, rfl⟩
      go_wp2_with fail
      refine (HIX.out 0 _ (by omega)).mono ?_
      rintro e w3 ⟨rfl, rfl⟩
      have e0 : hexI 0 = -1 := by decide
      go_wp2
      go_ret2
      exact ⟨HT2.out.2.2.1, .inr ⟨HP.out, _, rfl⟩⟩
    | c :: r =>
      have hc256 := HMM.out c (by simp)
      by_cases hc : c = 39
      · subst hc
        match r with
        | [] =>
          have HP := Lib.hid (show unx (39 :: L) = some acc by rw [HU.out, HEQ.out]; simp [unh])
          go_wp2_with fail
          refine (HNC.out _ _ _ _ HTX.out.2.1).mono ?_
          rintro e w1 ⟨rfl, hn1, hb1⟩
          have HT1 := Lib.hid (tx_next HTX.out hn1 hb1)
          clear hn1 hb1
          go_wp2_with fail
          refine (HNI.out _ _ HT1.out.2.1).mono ?_
          rintro e w2 ⟨rfl, hn2, hb2⟩
          have HT2 := Lib.hid (tx_next HT1.out hn2 hb2)
          clear hn2 hb2
          go_wp2_with fail
          refine (tx_str HT2.out).mono ?_
          rintro e w3 ⟨rfl, hb3⟩
          go_wp2
          go_ret2
          exact ⟨hb3, .inl ⟨_, HP.out, rfl⟩⟩
        | d :: r =>
          have HP := Lib.hid (show unx (39 :: L) = none by rw [HU.out, HEQ.out, unh_bad (.inl rfl)]; rfl)
          go_wp2_with fail
          refine (HNC.out _ _ _ _ HTX.out.2.1).mono ?_
          rintro e w1 ⟨rfl, hn1, hb1⟩
          have HT1 := Lib.hid (tx_next HTX.out hn1 hb1)
          clear hn1 hb1
          go_wp2_with fail
          refine (HNC.out _ _ _ _ HT1.out.2.1).mono ?_
          rintro e w2 ⟨rfl, hn2, hb2⟩
          have HT2 := Lib.hid (tx_next HT1.out hn2 hb2)
          clear hn2 hb2
          go_wp2_with fail
          refine (tx_str HT2.out).mono ?_
          rintro e w3 ⟨rfl, hb3⟩
          go_wp2
          go_ret2
          exact ⟨hb3, .inr ⟨HP.out, _, rfl⟩⟩
      · have hcI : ((c : Int) == 39) = false := by rw [beq_eq_false_iff_ne]; omega
        match r with
        | [] =>
          have HP := Lib.hid (show unx (39 :: L) = none by rw [HU.out, HEQ.out]; simp [unh, hc])
          clear hc
          go_wp2_with fail
          refine (HNC.out _ _ _ _ HTX.out.2.1).mono ?_
          rintro e w1 ⟨rfl, hn1, hb1⟩
          have HT1 := Lib.hid (tx_next HTX.out hn1 hb1)
          clear hn1 hb1
          go_wp2_with fail
          refine (HNI.out _ _ HT1.out.2.1).mono ?_
          rintro e w2 ⟨rfl, hn2, hb2⟩
          have HT2 := Lib.hid (tx_next HT1.out hn2 hb2)
          clear hn2 hb2
          go_wp2_with fail
          refine (HIX.out c _ (by omega)).mono ?_
          rintro e w3 ⟨rfl, rfl⟩
          go_wp2_with fail
          refine (HIX.out 0 _ (by omega)).mono ?_
          rintro e w3 ⟨rfl, rfl⟩
          have e0 : hexI 0 = -1 := by decide
          generalize hexI c = z at *
          by_cases hz : z < 0
          · go_wp2
            go_ret2
            exact ⟨HT2.out.2.2.1, .inr ⟨HP.out, _, rfl⟩⟩
          · have hz2 : 0 ≤ z := by omega
            go_wp2
            go_ret2
            exact ⟨HT2.out.2.2.1, .inr ⟨HP.out, _, rfl⟩⟩
        | d :: r =>
          have hd256 := HMM.out d (by simp)
          cases hx : hexd c with
          | none =>
            have HP := Lib.hid (show unx (39 :: L) = none by rw [HU.out, HEQ.out, unh_bad (.inr (.inl hx))]; rfl)
            have e0 := hexI_none hx
            clear hc hx
            go_wp2_with fail
            refine (HNC.out _ _ _ _ HTX.out.2.1).mono ?_
            rintro e w1 ⟨rfl, hn1, hb1⟩
            have HT1 := Lib.hid (tx_next HTX.out hn1 hb1)
            clear hn1 hb1
            go_wp2_with fail
            refine (HNC.out _ _ _ _ HT1.out.2.1).mono ?_
            rintro e w2 ⟨rfl, hn2, hb2⟩
            have HT2 := Lib.hid (tx_next HT1.out hn2 hb2)
            clear hn2 hb2
            go_wp2_with fail
            refine (HIX.out c _ (by omega)).mono ?_
            rintro e w3 ⟨rfl, rfl⟩
            go_wp2_with fail
            refine (HIX.out d _ (by omega)).mono ?_
            rintro e w3 ⟨rfl, rfl⟩
            go_wp2
            go_ret2
            exact ⟨HT2.out.2.2.1, .inr ⟨HP.out, _, rfl⟩⟩
          | some a =>
            cases hy : hexd d with
            | none =>
              have HP := Lib.hid (show unx (39 :: L) = none by rw [HU.out, HEQ.out, unh_bad (.inr (.inr hy))]; rfl)
              have e0 := hexI_none hy
              have e1 := hexI_some hx
              clear hc hx hy
              go_wp2_with fail
              refine (HNC.out _ _ _ _ HTX.out.2.1).mono ?_
              rintro e w1 ⟨rfl, hn1, hb1⟩
              have HT1 := Lib.hid (tx_next HTX.out hn1 hb1)
              clear hn1 hb1
              go_wp2_with fail
              refine (HNC.out _ _ _ _ HT1.out.2.1).mono ?_
              rintro e w2 ⟨rfl, hn2, hb2⟩
              have HT2 := Lib.hid (tx_next HT1.out hn2 hb2)
              clear hn2 hb2
              go_wp2_with fail
              refine (HIX.out c _ (by omega)).mono ?_
              rintro e w3 ⟨rfl, rfl⟩
              go_wp2_with fail
              refine (HIX.out d _ (by omega)).mono ?_
              rintro e w3 ⟨rfl, rfl⟩
              go_wp2
              go_ret2
              exact ⟨HT2.out.2.2.1, .inr ⟨HP.out, _, rfl⟩⟩
            | some b2 =>
              have HQ := Lib.hid (show unh L = (unh r).map ((acc ++ [16 * a + b2]) ++ ·) by rw [HEQ.out, unh_pair hc hx hy, omap_app])
              have e1 := hexI_some hx
              have e0 := hexI_some hy
              have ha := (hexd_some hx).1
              have hb' := (hexd_some hy).1
              clear hc hx hy
              go_wp2_with fail
              refine (HNC.out _ _ _ _ HTX.out.2.1).mono ?_
              rintro e w1 ⟨rfl, hn1, hb1⟩
              have HT1 := Lib.hid (tx_next HTX.out hn1 hb1)
              clear hn1 hb1
              go_wp2_with fail
              refine (HNC.out _ _ _ _ HT1.out.2.1).mono ?_
              rintro e w2 ⟨rfl, hn2, hb2⟩
              have HT2 := Lib.hid (tx_next HT1.out hn2 hb2)
              clear hn2 hb2
              go_wp2_with fail
              refine (HIX.out c _ (by omega)).mono ?_
              rintro e w3 ⟨rfl, rfl⟩
              go_wp2_with fail
              refine (HIX.out d _ (by omega)).mono ?_
              rintro e w3 ⟨rfl, rfl⟩
              go_wp2_with fail
              rw [hor_eq ha hb']
              refine (tx_wb _ HT2.out (by omega) (by have := HLEN.out; omega)).mono ?_
              rintro e w3 ⟨rfl, ht3⟩
              have HT3 := Lib.hid ht3
              clear ht3
              go_wp2
              go_roundw
              case rel => exact ⟨acc ++ [16 * a + b2], r, by have := HLEN.out; simp at this ⊢; omega, fun x hx => HMM.out x (by simp [hx]), HQ.out, HT3.out⟩
              case measure => rw [nx_size HT3.out.2.1, HMS.out]; simp; omega
/-- a blob behind its x -/
theorem blob_any (W0 : World) (g : Nat) (L : List Nat) (hN : Nx g L W0) (hlt : ∀ x ∈ L, x < 256) (hl : L.length ≤ 100000) :
    Calls Tryd.prog 29 #[nextV g] W0 (BlobP L g W0) := by
  match L with
  | [] => exact blob_bad0 W0 g hN
  | c :: r =>
    by_cases hc : c = 39
    · subst hc; exact blob_loop W0 g r hN (fun x hx => hlt x (by simp [hx])) (by simp at hl; omega)
    · exact blob_bad1 W0 g c r hN hc
end Go.Proofs.YthacdfdnbhfooaaDoor
