/- The walk of ValueKnown. Condition: the laid variables hold what they should. -/
import Derived.Test.YthacdfdnbhfooaaDoorLawValBack
import Derived.Test.YthacdfdnbhfooaaDoorBs
import Derived.Test.YthacdfdnbhfooaaDoorFacts
import Derived.Deep.RegionHeld3
import Derived.Shelf.Strings.Repeat
namespace Go.Proofs.YthacdfdnbhfooaaDoor
open Go.RowKit Go
set_option linter.unusedVariables false
set_option linter.unusedSimpArgs false
theorem rep_flat1 (c : UInt8) (n : Nat) : Lib.repeatL [c] n = (List.replicate n c.toNat : List Nat).map UInt8.ofNat := by
  induction n with
  | zero => rfl
  | succ n ih => simp [Lib.repeatL, List.replicate_succ] at ih ⊢; try exact ih
theorem alloc_sz (w : World) (o : Obj) : (w.alloc o).heap.size = w.heap.size + 1 := by simp
theorem dqL_rep (n : Nat) : dqL (List.replicate n 97) = List.replicate n 97 := by
  induction n with
  | zero => rfl
  | succ n ih => rw [List.replicate_succ]; simp only [dqL]; rw [if_neg (by omega), ih]
theorem readZ_rep {n : Nat} (h : 1000 < n) : readZ (39 :: (List.replicate n 97 ++ [39])) = (nulV, 3) := by
  have e : readZ (39 :: (List.replicate n 97 ++ [39])) = toldZ 2 (unq (List.replicate n 97 ++ [39])) := rfl
  have h2 := unq_dq (List.replicate n 97)
  rw [dqL_rep] at h2
  rw [e, h2]
  simp only [toldZ]
  rw [if_pos (by rw [List.length_replicate]; exact h)]
def knownS : List ByteArray := [⟨#[45, 48]⟩, ⟨#[48, 49]⟩, ⟨#[39, 97]⟩, ⟨#[120, 39, 48]⟩, ⟨#[120, 39, 48, 70, 39]⟩, ⟨#[110, 117, 108, 108]⟩, ⟨#[57, 50, 50, 51, 51, 55, 50, 48, 51, 54, 56, 53, 52, 55, 55, 53, 56, 48, 56]⟩, ⟨#[]⟩, ⟨#[45]⟩, ⟨#[120, 39]⟩, ⟨#[39]⟩, ⟨#[39, 39, 39]⟩, ⟨#[43, 49]⟩]
set_option maxRecDepth 100000 in
theorem knownS_read : ∀ j (h : j < 13), readZ (bts (knownS[j]'h)) = (((0, 0, ⟨#[]⟩), 6) : Val × Int) := by decide +kernel
theorem knownS_size : ∀ j (h : j < 13), (knownS[j]'h).size ≤ 100000 := by decide
theorem lit_min : bstr (litL (1, -9223372036854775808, ⟨#[]⟩)) = ⟨#[45, 57, 50, 50, 51, 51, 55, 50, 48, 51, 54, 56, 53, 52, 55, 55, 53, 56, 48, 56]⟩ := by
  have h : litL (1, -9223372036854775808, ⟨#[]⟩) = itoL (-9223372036854775808) := by
    unfold litL
    rw [if_neg (by decide)]; rfl
  have h2 := (numZ_some (L := [45, 57, 50, 50, 51, 51, 55, 50, 48, 51, 54, 56, 53, 52, 55, 55, 53, 56, 48, 56]) (n := -9223372036854775808) (by decide +kernel)).1
  rw [h, ← h2]
  decide
theorem lit_its : bstr (litL (2, 0, ⟨#[105, 116, 39, 115]⟩)) = ⟨#[39, 105, 116, 39, 39, 115, 39]⟩ := by decide +kernel
theorem lit_blob : bstr (litL (3, 0, ⟨#[0, 255]⟩)) = ⟨#[120, 39, 48, 48, 102, 102, 39]⟩ := by decide +kernel
theorem lit_nul : bstr (litL (0, 0, ⟨#[]⟩)) = ⟨#[78, 85, 76, 76]⟩ := by decide +kernel
/-- two values that stand -/
def Ks (w : World) (a b : Nat) (W : World) : Prop := Blk W a 24 #[.int .u8 0, .int .i64 0, .string ⟨#[]⟩] ∧ Blk W b 24 #[.int .u8 2, .int .i64 0, .string ⟨#[]⟩] ∧ Below w.heap.size w W
theorem ks_below {w W W' : World} {a b : Nat} (h : Ks w a b W) (hb : Below W.heap.size W W') : Ks w a b W' := ⟨blk_step h.1 hb, blk_step h.2.1 hb, bj h.2.2 hb⟩
theorem ks_alloc {w W : World} {a b : Nat} (h : Ks w a b W) (o : Obj) : Ks w a b (W.alloc o) := ks_below h ((Below.refl _ _).alloc (Nat.le_refl _) _)
theorem ks_drew {w W : World} {a b : Nat} (h : Ks w a b W) : Ks w a b W.drew := ⟨h.1.drew, h.2.1.drew, h.2.2.drew⟩
theorem ks_call {w W : World} {a b : Nat} {f : FuncId} {args : Array Value} {v : Value} (h : Ks w a b W) (hc : Calls Tryd.prog f args W fun e w' => e = .returned v ∧ Below W.heap.size W w') : Calls Tryd.prog f args W fun e w' => e = .returned v ∧ Ks w a b w' ∧ Below W.heap.size W w' :=
  hc.mono fun e w' he => ⟨he.1, ks_below h he.2, he.2⟩
theorem ks_S {w W : World} {a b : Nat} (h : Ks w a b W) : W.cell? ⟨a, 0, none⟩ = some (.int .u8 0) ∧ W.cell? ⟨a, 1, none⟩ = some (.int .i64 0) ∧ W.cell? ⟨a, 2, none⟩ = some (.string ⟨#[]⟩) ∧ W.cell? ⟨b, 0, none⟩ = some (.int .u8 2) ∧ W.cell? ⟨b, 1, none⟩ = some (.int .i64 0) ∧ W.cell? ⟨b, 2, none⟩ = some (.string ⟨#[]⟩) ∧ Ks w a b W :=
  ⟨h.1.cell 0, h.1.cell 1, h.1.cell 2, h.2.1.cell 0, h.2.1.cell 1, h.2.1.cell 2, h⟩
def CV (f : FuncId) (args : Array Value) (v : Value) (w : World) (a b : Nat) : Prop := ∀ W, Ks w a b W → Calls Tryd.prog f args W fun e w' => e = .returned v ∧ Ks w a b w' ∧ Below W.heap.size W w'
set_option maxRecDepth 100000 in
theorem vals_2 {W : World} {g : Nat} {t : TypeId} {x y : Val} (h : Blk W g t #[.int .u8 x.1, .int .i64 x.2.1, .string x.2.2, .int .u8 y.1, .int .i64 y.2.1, .string y.2.2]) : Vals W W.heap.size (some ⟨g, 0, none⟩) [x, y] :=
  vals_blk h fun j z hz => by
    match j, hz with
    | 0, hz => simp at hz; subst hz; exact ⟨rfl, rfl, rfl⟩
    | 1, hz => simp at hz; subst hz; exact ⟨rfl, rfl, rfl⟩
    | j + 2, hz => simp at hz
theorem vals_1 {W : World} {g : Nat} {t : TypeId} {x : Val} (h : Blk W g t #[.int .u8 x.1, .int .i64 x.2.1, .string x.2.2]) : Vals W W.heap.size (some ⟨g, 0, none⟩) [x] :=
  vals_blk h fun j z hz => by
    match j, hz with
    | 0, hz => simp at hz; subst hz; exact ⟨rfl, rfl, rfl⟩
    | j + 1, hz => simp at hz
def DVK : Nat → List Nat
  | 2 => [0, 1]
  | 3 => [2]
  | 4 => [3]
  | 5 => [3, 4]
  | 6 => [3, 5]
  | 7 => [6]
  | 8 => [7]
  | 9 => [7]
  | 10 => [7, 8, 9]
  | 11 => [7, 10]
  | 12 => [11]
  | 13 => [12]
  | 14 => [12, 13]
  | 15 => [12, 14]
  | 16 => [15]
  | 17 => [16]
  | 18 => [16, 17]
  | 19 => [16, 18]
  | 20 => [19]
  | 21 => [20]
  | 22 => [20]
  | 23 => [20, 21, 22]
  | 24 => [20, 23]
  | 25 => [20, 24]
  | 26 => [25]
  | 27 => [26]
  | 28 => [26]
  | 29 => [26, 27, 28]
  | 30 => [26, 29]
  | 31 => [26, 30]
  | 32 => [31]
  | 33 => [32]
  | 34 => [32]
  | 35 => [32, 33, 34]
  | 36 => [32, 35]
  | 37 => [32, 36]
  | 38 => [37]
  | 39 => [38]
  | 40 => [38]
  | 41 => [38, 39, 40]
  | 42 => [38]
  | 43 => [38, 42]
  | 44 => [38, 41, 43]
  | 45 => [38, 44]
  | 46 => [38, 45]
  | 47 => [46]
  | 48 => [47]
  | 49 => [47, 48]
  | 50 => [47]
  | 51 => [47, 50]
  | 52 => [47, 49, 51]
  | 53 => [47, 52]
  | 54 => [47, 53]
  | 55 => [54]
  | 56 => [55]
  | 57 => [55, 56]
  | 58 => [55, 57]
  | 59 => [55, 58]
  | 60 => [59]
  | 61 => [60]
  | 62 => [60, 61]
  | 63 => [60, 62]
  | 64 => [60, 63]
  | 65 => [64]
  | 66 => [65]
  | 67 => [65, 66]
  | 68 => [65, 67]
  | 69 => [65, 68]
  | 70 => [69]
  | 71 => [70]
  | 72 => [70, 71]
  | 73 => [70, 72]
  | 74 => [70, 73]
  | 75 => [74]
  | _ => []
def mkVK : Nat → Nat → Nat → Nat → Value
  | 0, k, _, _ => .agg #[.int .u8 0, .int .i64 0, .string ⟨#[]⟩]
  | 1, k, _, _ => .agg #[.int .u8 0, .int .i64 0, .string ⟨#[]⟩]
  | 2, k, _, _ => .bool true
  | 3, k, _, _ => .bool true
  | 4, k, _, _ => .int .i64 0
  | 5, k, _, _ => .bool true
  | 6, k, _, _ => .bool true
  | 7, k, _, _ => .bool true
  | 8, k, _, _ => .agg #[.int .u8 2, .int .i64 0, .string ⟨#[]⟩]
  | 9, k, _, _ => .agg #[.int .u8 2, .int .i64 0, .string ⟨#[]⟩]
  | 10, k, _, _ => .bool true
  | 11, k, _, _ => .bool true
  | 12, k, _, _ => .bool true
  | 13, k, _, _ => .int .i64 0
  | 14, k, _, _ => .bool true
  | 15, k, _, _ => .bool true
  | 16, k, _, _ => .bool true
  | 17, k, _, _ => .int .i64 3
  | 18, k, _, _ => .bool true
  | 19, k, _, _ => .bool true
  | 20, k, _, _ => .bool true
  | 21, k, _, _ => .agg #[.int .u8 0, .int .i64 0, .string ⟨#[]⟩]
  | 22, k, _, _ => .agg #[.int .u8 1, .int .i64 0, .string ⟨#[]⟩]
  | 23, k, _, _ => .int .i64 (-1)
  | 24, k, _, _ => .bool true
  | 25, k, _, _ => .bool true
  | 26, k, _, _ => .bool true
  | 27, k, _, _ => .agg #[.int .u8 1, .int .i64 9, .string ⟨#[]⟩]
  | 28, k, _, _ => .agg #[.int .u8 2, .int .i64 0, .string ⟨#[]⟩]
  | 29, k, _, _ => .int .i64 (-1)
  | 30, k, _, _ => .bool true
  | 31, k, _, _ => .bool true
  | 32, k, _, _ => .bool true
  | 33, k, _, _ => .agg #[.int .u8 2, .int .i64 0, .string ⟨#[98]⟩]
  | 34, k, _, _ => .agg #[.int .u8 2, .int .i64 0, .string ⟨#[97]⟩]
  | 35, k, _, _ => .int .i64 1
  | 36, k, _, _ => .bool true
  | 37, k, _, _ => .bool true
  | 38, k, _, _ => .bool true
  | 39, k, _, _ => .agg #[.int .u8 1, .int .i64 1, .string ⟨#[]⟩]
  | 40, k, _, _ => .agg #[.int .u8 1, .int .i64 2, .string ⟨#[]⟩]
  | 41, k, _, _ => .slice (some ⟨k, 0, none⟩) 2 2
  | 42, k, _, _ => .agg #[.int .u8 1, .int .i64 1, .string ⟨#[]⟩]
  | 43, k, _, _ => .slice (some ⟨k, 0, none⟩) 1 1
  | 44, k, _, _ => .int .i64 1
  | 45, k, _, _ => .bool true
  | 46, k, _, _ => .bool true
  | 47, k, _, _ => .bool true
  | 48, k, _, _ => .agg #[.int .u8 0, .int .i64 0, .string ⟨#[]⟩]
  | 49, k, _, _ => .slice (some ⟨k, 0, none⟩) 1 1
  | 50, k, _, _ => .agg #[.int .u8 0, .int .i64 0, .string ⟨#[]⟩]
  | 51, k, _, _ => .slice (some ⟨k, 0, none⟩) 1 1
  | 52, k, _, _ => .int .i64 0
  | 53, k, _, _ => .bool true
  | 54, k, _, _ => .bool true
  | 55, k, _, _ => .bool true
  | 56, k, _, _ => .agg #[.int .u8 1, .int .i64 (-9223372036854775808), .string ⟨#[]⟩]
  | 57, k, _, _ => .string ⟨#[45, 57, 50, 50, 51, 51, 55, 50, 48, 51, 54, 56, 53, 52, 55, 55, 53, 56, 48, 56]⟩
  | 58, k, _, _ => .bool true
  | 59, k, _, _ => .bool true
  | 60, k, _, _ => .bool true
  | 61, k, _, _ => .agg #[.int .u8 2, .int .i64 0, .string ⟨#[105, 116, 39, 115]⟩]
  | 62, k, _, _ => .string ⟨#[39, 105, 116, 39, 39, 115, 39]⟩
  | 63, k, _, _ => .bool true
  | 64, k, _, _ => .bool true
  | 65, k, _, _ => .bool true
  | 66, k, _, _ => .agg #[.int .u8 3, .int .i64 0, .string ⟨#[0, 255]⟩]
  | 67, k, _, _ => .string ⟨#[120, 39, 48, 48, 102, 102, 39]⟩
  | 68, k, _, _ => .bool true
  | 69, k, _, _ => .bool true
  | 70, k, _, _ => .bool true
  | 71, k, _, _ => .agg #[.int .u8 0, .int .i64 0, .string ⟨#[]⟩]
  | 72, k, _, _ => .string ⟨#[78, 85, 76, 76]⟩
  | 73, k, _, _ => .bool true
  | 74, k, _, _ => .bool true
  | 75, k, _, _ => .bool true
  | _, _, _, _ => .bool false
def blVK : Nat → Nat → Nat → Nat → BL
  | 41, k, _, _ => [(k, 24, #[.int .u8 1, .int .i64 1, .string ⟨#[]⟩, .int .u8 1, .int .i64 2, .string ⟨#[]⟩])]
  | 43, k, _, _ => [(k, 24, #[.int .u8 1, .int .i64 1, .string ⟨#[]⟩])]
  | 49, k, _, _ => [(k, 24, #[.int .u8 0, .int .i64 0, .string ⟨#[]⟩])]
  | 51, k, _, _ => [(k, 24, #[.int .u8 0, .int .i64 0, .string ⟨#[]⟩])]
  | _, _, _, _ => []
set_option maxRecDepth 100000 in
set_option maxHeartbeats 16000000 in
theorem valueKnown_walk (w : World) (hG : Gl w) :
    Calls Tryd.prog 3 #[] w fun e w' => e = .returned (.bool true) ∧ Below w.heap.size w w' := by
  have HRD := Lib.hid (fun s v k (h : readZ (bts s) = (v, k)) (hl : s.size ≤ 100000) W (hb : Below w.heap.size w W) => read_back s W (gl_below hG hb) hl h)
  have HBAD := Lib.hid knownS_read
  have HBSZ := Lib.hid knownS_size
  obtain ⟨X, hX, hXs, hXr⟩ : ∃ X : ByteArray, (∀ W, Calls Tryd.prog 5 #[.string ⟨#[97]⟩, .int .i64 1001] W fun e w' => e = .returned (.string X) ∧ Below W.heap.size W w') ∧ X.size = 1001 ∧ readZ (bts ((⟨#[39]⟩ ++ X) ++ ⟨#[39]⟩)) = (((0, 0, ⟨#[]⟩), 3) : Val × Int) := by
    refine ⟨bstr (List.replicate 1001 97), fun W => ?_, by rw [bstr_size]; simp, ?_⟩
    · have h := Tryd.strings_Repeat ⟨#[97]⟩ 1001 W (by omega) (by rw [show (⟨#[97]⟩ : ByteArray).size = 1 from rfl]; omega)
      rw [show (⟨#[97]⟩ : ByteArray).data.toList = [97] from rfl, rep_flat1] at h
      exact h
    · rw [show (⟨#[39]⟩ : ByteArray) = bstr [39] from rfl, bstr_app2, bstr_app2, bts_bstr]
      · exact readZ_rep (by omega)
      · intro x hx
        simp only [List.mem_append, List.mem_singleton, List.mem_replicate] at hx
        omega
  have HX := Lib.hid hX
  have HXR := Lib.hid hXr
  have H16 : Hid (∀ a b (x : Val) (S : ByteArray), Fits x → bstr (litL x) = S → CV 10 #[.agg #[.int .u8 x.1, .int .i64 x.2.1, .string x.2.2]] (.string S) w a b) := Lib.hid fun a b x S hf hS W h => by
    have hc := lit_any x W (gl_below hG h.2.2) hf
    rw [hS] at hc
    exact ks_call h hc
  have H13 : Hid (∀ a b (x y : Val) (k : Int), valCmp x y = k → CV 7 #[.agg #[.int .u8 x.1, .int .i64 x.2.1, .string x.2.2], .agg #[.int .u8 y.1, .int .i64 y.2.1, .string y.2.2]] (.int .i64 k) w a b) := Lib.hid fun a b x y k hk W h => by
    have hc := vcompare_any x y W
    rw [hk] at hc
    exact ks_call h hc
  have L1 := Lib.hid (show ∀ a b W, Ks w a b W → Calls Tryd.prog 10 #[.agg #[.int .u8 1, .int .i64 (-9223372036854775808), .string ⟨#[]⟩]] W fun e w' => e = .returned (.string ⟨#[45, 57, 50, 50, 51, 51, 55, 50, 48, 51, 54, 56, 53, 52, 55, 55, 53, 56, 48, 56]⟩) ∧ Ks w a b w' ∧ Below W.heap.size W w' from fun a b => H16.out a b (1, -9223372036854775808, ⟨#[]⟩) _ ⟨by decide, by decide, by decide, by decide⟩ lit_min)
  have L2 := Lib.hid (show ∀ a b W, Ks w a b W → Calls Tryd.prog 10 #[.agg #[.int .u8 2, .int .i64 0, .string ⟨#[105, 116, 39, 115]⟩]] W fun e w' => e = .returned (.string ⟨#[39, 105, 116, 39, 39, 115, 39]⟩) ∧ Ks w a b w' ∧ Below W.heap.size W w' from fun a b => H16.out a b (2, 0, ⟨#[105, 116, 39, 115]⟩) _ ⟨by decide, by decide, by decide, by decide⟩ lit_its)
  have L3 := Lib.hid (show ∀ a b W, Ks w a b W → Calls Tryd.prog 10 #[.agg #[.int .u8 3, .int .i64 0, .string ⟨#[0, 255]⟩]] W fun e w' => e = .returned (.string ⟨#[120, 39, 48, 48, 102, 102, 39]⟩) ∧ Ks w a b w' ∧ Below W.heap.size W w' from fun a b => H16.out a b (3, 0, ⟨#[0, 255]⟩) _ ⟨by decide, by decide, by decide, by decide⟩ lit_blob)
  have L4 := Lib.hid (show ∀ a b W, Ks w a b W → Calls Tryd.prog 10 #[.agg #[.int .u8 0, .int .i64 0, .string ⟨#[]⟩]] W fun e w' => e = .returned (.string ⟨#[78, 85, 76, 76]⟩) ∧ Ks w a b w' ∧ Below W.heap.size W w' from fun a b => H16.out a b (0, 0, ⟨#[]⟩) _ ⟨by decide, by decide, by decide, by decide⟩ lit_nul)
  have C1 := Lib.hid (show ∀ a b W, Ks w a b W → Calls Tryd.prog 7 #[.agg #[.int .u8 0, .int .i64 0, .string ⟨#[]⟩], .agg #[.int .u8 1, .int .i64 0, .string ⟨#[]⟩]] W fun e w' => e = .returned (.int .i64 (-1)) ∧ Ks w a b w' ∧ Below W.heap.size W w' from fun a b => H13.out a b (0, 0, ⟨#[]⟩) (1, 0, ⟨#[]⟩) (-1) (by decide))
  have C2 := Lib.hid (show ∀ a b W, Ks w a b W → Calls Tryd.prog 7 #[.agg #[.int .u8 1, .int .i64 9, .string ⟨#[]⟩], .agg #[.int .u8 2, .int .i64 0, .string ⟨#[]⟩]] W fun e w' => e = .returned (.int .i64 (-1)) ∧ Ks w a b w' ∧ Below W.heap.size W w' from fun a b => H13.out a b (1, 9, ⟨#[]⟩) (2, 0, ⟨#[]⟩) (-1) (by decide))
  have C3 := Lib.hid (show ∀ a b W, Ks w a b W → Calls Tryd.prog 7 #[.agg #[.int .u8 2, .int .i64 0, .string ⟨#[98]⟩], .agg #[.int .u8 2, .int .i64 0, .string ⟨#[97]⟩]] W fun e w' => e = .returned (.int .i64 (1)) ∧ Ks w a b w' ∧ Below W.heap.size W w' from fun a b => H13.out a b (2, 0, ⟨#[98]⟩) (2, 0, ⟨#[97]⟩) (1) (by decide))
  have M12 := Lib.hid (fun a b s W (h : Ks w a b W) => ks_call h (mkText s W))
  have M14 := Lib.hid (fun a b s W (h : Ks w a b W) => ks_call h (mkNumber s W))
  have M17 := Lib.hid (fun a b s W (h : Ks w a b W) => ks_call h (mkBlob s W))
  have R1 : Hid (∀ a b k l W, Ks w a b W → Blk W k 24 #[.int .u8 1, .int .i64 1, .string ⟨#[]⟩, .int .u8 1, .int .i64 2, .string ⟨#[]⟩] → Blk W l 24 #[.int .u8 1, .int .i64 1, .string ⟨#[]⟩] → Calls Tryd.prog 9 #[.slice (some ⟨k, 0, none⟩) 2 2, .slice (some ⟨l, 0, none⟩) 1 1] W fun e w' => e = .returned (.int .i64 1) ∧ Ks w a b w' ∧ Below W.heap.size W w') := Lib.hid fun a b k l W h hk hl => by
    have hc := cmpRows_any (some ⟨k, 0, none⟩) [(1, 1, ⟨#[]⟩), (1, 2, ⟨#[]⟩)] 2 2 (some ⟨l, 0, none⟩) [(1, 1, ⟨#[]⟩)] 1 1 W (vals_2 hk) (vals_1 hl) rfl rfl (by omega) (by omega)
    exact ks_call h hc
  have R2 : Hid (∀ a b k l W, Ks w a b W → Blk W k 24 #[.int .u8 0, .int .i64 0, .string ⟨#[]⟩] → Blk W l 24 #[.int .u8 0, .int .i64 0, .string ⟨#[]⟩] → Calls Tryd.prog 9 #[.slice (some ⟨k, 0, none⟩) 1 1, .slice (some ⟨l, 0, none⟩) 1 1] W fun e w' => e = .returned (.int .i64 0) ∧ Ks w a b w' ∧ Below W.heap.size W w') := Lib.hid fun a b k l W h hk hl => by
    have hc := cmpRows_any (some ⟨k, 0, none⟩) [(0, 0, ⟨#[]⟩)] 1 1 (some ⟨l, 0, none⟩) [(0, 0, ⟨#[]⟩)] 1 1 W (vals_1 hk) (vals_1 hl) rfl rfl (by omega) (by omega)
    exact ks_call h hc
  have HG := Lib.hid hG
  clear hX hXr hG
  go_enter Tryd.func3, Tryd.ntmps3
  go_wp2
  go_loopw [13] (fun i wr => ∃ j : Nat, j ≤ 13 ∧ i = .int .i64 j ∧ Blk wr w.heap.size 9 #[.string ⟨#[45, 48]⟩, .string ⟨#[48, 49]⟩, .string ⟨#[39, 97]⟩, .string ⟨#[120, 39, 48]⟩, .string ⟨#[120, 39, 48, 70, 39]⟩, .string ⟨#[110, 117, 108, 108]⟩, .string ⟨#[57, 50, 50, 51, 51, 55, 50, 48, 51, 54, 56, 53, 52, 55, 55, 53, 56, 48, 56]⟩, .string ⟨#[]⟩, .string ⟨#[45]⟩, .string ⟨#[120, 39]⟩, .string ⟨#[39]⟩, .string ⟨#[39, 39, 39]⟩, .string ⟨#[43, 49]⟩] ∧ Below w.heap.size w wr) (fun i _ => 13 - (intOf i).toNat)
  case atStart => exact ⟨0, by omega, rfl, Blk.new _ _ _, one_alloc⟩
  case round =>
    obtain ⟨j, hj, rfl, hB, hbr⟩ := hrel
    by_cases hjn : j < 13
    · have hc : wr.cell? ⟨w.heap.size, j, none⟩ = some (.string (knownS[j]'hjn)) := by
        rw [hB.cell]
        match j, hjn with
        | 0, _ => rfl
        | 1, _ => rfl
        | 2, _ => rfl
        | 3, _ => rfl
        | 4, _ => rfl
        | 5, _ => rfl
        | 6, _ => rfl
        | 7, _ => rfl
        | 8, _ => rfl
        | 9, _ => rfl
        | 10, _ => rfl
        | 11, _ => rfl
        | 12, _ => rfl
      have hz := HBAD.out j hjn
      have hl := HBSZ.out j hjn
      generalize knownS[j]'hjn = bs at *
      have HZ := Lib.hid (HRD.out bs _ _ hz hl)
      have hjI : (j : Int) < 13 := by omega
      have HB := Lib.hid hB
      have HBR := Lib.hid hbr
      clear hz hl hB hbr
      go_wp2_with fail
      refine (HZ.out _ HBR.out).mono ?_
      rintro e w2 ⟨rfl, hb2⟩
      obtain ⟨x0, x1, x2, _⟩ := cell3 (Blk.new w2 24 #[.int .u8 0, .int .i64 0, .string ⟨#[]⟩])
      have HB2 := Lib.hid ((blk_step HB.out hb2).alloc (.cells #[.int .u8 0, .int .i64 0, .string ⟨#[]⟩] 24))
      have HBR2 := Lib.hid (bj HBR.out (hb2.alloc hb2.size (.cells #[.int .u8 0, .int .i64 0, .string ⟨#[]⟩] 24)))
      clear hb2
      go_wp2
      go_roundw
      case rel => exact ⟨j + 1, by omega, by go_num, HB2.out, HBR2.out⟩
      case measure => simp [intOf]; omega
    · obtain rfl : j = 13 := by omega
      have HBR := Lib.hid hbr
      clear hB hbr
      have HA := Lib.hid (HRD.out ⟨#[78, 85, 76, 76]⟩ (0, 0, ⟨#[]⟩) 0 (by decide +kernel) (by decide))
      have HE := Lib.hid (HRD.out ⟨#[39, 39]⟩ (2, 0, ⟨#[]⟩) 0 (by decide +kernel) (by decide))
      have HL := Lib.hid (HRD.out _ _ _ HXR.out (by rw [ByteArray.size_append, ByteArray.size_append, hXs]; decide))
      clear hjn hj
      go_wp2_with fail
      refine (HA.out _ HBR.out).mono ?_
      rintro e w2 ⟨rfl, hb2⟩
      have HA2 := Lib.hid (Blk.new w2 24 #[.int .u8 0, .int .i64 0, .string ⟨#[]⟩])
      have HBR2 := Lib.hid (bj HBR.out (hb2.alloc hb2.size (.cells #[.int .u8 0, .int .i64 0, .string ⟨#[]⟩] 24)))
      clear hb2
      go_wp2_with fail
      refine (HE.out _ HBR2.out).mono ?_
      rintro e w3 ⟨rfl, hb3⟩
      have HS3 := Lib.hid (show Ks w w2.heap.size w3.heap.size (w3.alloc (.cells #[.int .u8 2, .int .i64 0, .string ⟨#[]⟩] 24)) from ⟨(blk_step HA2.out hb3).alloc _, Blk.new _ _ _, bj HBR2.out (hb3.alloc hb3.size _)⟩)
      clear hb3
      go_wp2_with fail
      generalize w3.heap.size = gb at *
      generalize w2.heap.size = ga at *
      refine (ks_call HS3.out (HX.out _)).mono ?_
      rintro e w4 ⟨rfl, hs4, _⟩
      have HS4 := Lib.hid hs4
      clear hs4
      go_wp2_with fail
      refine (ks_call HS4.out (HL.out _ HS4.out.2.2)).mono ?_
      rintro e w5 ⟨rfl, hs5, _⟩
      have HBS := Lib.hid (show Bs w [(ga, 24, #[.int .u8 0, .int .i64 0, .string ⟨#[]⟩]), (gb, 24, #[.int .u8 2, .int .i64 0, .string ⟨#[]⟩])] [] ((w5.alloc (.cells #[.int .u8 0, .int .i64 0, .string ⟨#[]⟩] 24)).drew) from bs_drew (bs_two (hs5.1.alloc _) (hs5.2.1.alloc _) (bj hs5.2.2 bs_one)))
      clear hs5
      have HC1 := Lib.hid (fun W => show Calls Tryd.prog 7 #[.agg #[.int .u8 0, .int .i64 0, .string ⟨#[]⟩], .agg #[.int .u8 1, .int .i64 0, .string ⟨#[]⟩]] W _ from vcompare_any (0, 0, ⟨#[]⟩) (1, 0, ⟨#[]⟩) W)
      have HC2 := Lib.hid (fun W => show Calls Tryd.prog 7 #[.agg #[.int .u8 1, .int .i64 9, .string ⟨#[]⟩], .agg #[.int .u8 2, .int .i64 0, .string ⟨#[]⟩]] W _ from vcompare_any (1, 9, ⟨#[]⟩) (2, 0, ⟨#[]⟩) W)
      have HC3 := Lib.hid (fun W => show Calls Tryd.prog 7 #[.agg #[.int .u8 2, .int .i64 0, .string ⟨#[98]⟩], .agg #[.int .u8 2, .int .i64 0, .string ⟨#[97]⟩]] W _ from vcompare_any (2, 0, ⟨#[98]⟩) (2, 0, ⟨#[97]⟩) W)
      rw [show valCmp (0, 0, ⟨#[]⟩) (1, 0, ⟨#[]⟩) = -1 by decide] at HC1
      rw [show valCmp (1, 9, ⟨#[]⟩) (2, 0, ⟨#[]⟩) = -1 by decide] at HC2
      rw [show valCmp (2, 0, ⟨#[98]⟩) (2, 0, ⟨#[97]⟩) = 1 by decide] at HC3
      have HLI : Hid (∀ (x : Val) (S : ByteArray), Fits x → bstr (litL x) = S → ∀ W, Below w.heap.size w W → Calls Tryd.prog 10 #[.agg #[.int .u8 x.1, .int .i64 x.2.1, .string x.2.2]] W fun e w' => e = .returned (.string S) ∧ Below W.heap.size W w') := Lib.hid fun x S hf hS W hb => by
        have hc := lit_any x W (gl_below HG.out hb) hf
        rw [hS] at hc
        exact hc
      have HL1 := Lib.hid (HLI.out (1, -9223372036854775808, ⟨#[]⟩) _ ⟨by decide, by decide, by decide, by decide⟩ lit_min)
      have HL2 := Lib.hid (HLI.out (2, 0, ⟨#[105, 116, 39, 115]⟩) _ ⟨by decide, by decide, by decide, by decide⟩ lit_its)
      have HL3 := Lib.hid (HLI.out (3, 0, ⟨#[0, 255]⟩) _ ⟨by decide, by decide, by decide, by decide⟩ lit_blob)
      have HL4 := Lib.hid (HLI.out (0, 0, ⟨#[]⟩) _ ⟨by decide, by decide, by decide, by decide⟩ lit_nul)
      have HR1 : Hid (∀ k l W, Blk W k 24 #[.int .u8 1, .int .i64 1, .string ⟨#[]⟩, .int .u8 1, .int .i64 2, .string ⟨#[]⟩] → Blk W l 24 #[.int .u8 1, .int .i64 1, .string ⟨#[]⟩] → Calls Tryd.prog 9 #[.slice (some ⟨k, 0, none⟩) 2 2, .slice (some ⟨l, 0, none⟩) 1 1] W fun e w' => e = .returned (.int .i64 1) ∧ Below W.heap.size W w') := Lib.hid fun k l W hk hl =>
        cmpRows_any (some ⟨k, 0, none⟩) [(1, 1, ⟨#[]⟩), (1, 2, ⟨#[]⟩)] 2 2 (some ⟨l, 0, none⟩) [(1, 1, ⟨#[]⟩)] 1 1 W (vals_2 hk) (vals_1 hl) rfl rfl (by omega) (by omega)
      have HR2 : Hid (∀ k l W, Blk W k 24 #[.int .u8 0, .int .i64 0, .string ⟨#[]⟩] → Blk W l 24 #[.int .u8 0, .int .i64 0, .string ⟨#[]⟩] → Calls Tryd.prog 9 #[.slice (some ⟨k, 0, none⟩) 1 1, .slice (some ⟨l, 0, none⟩) 1 1] W fun e w' => e = .returned (.int .i64 0) ∧ Below W.heap.size W w') := Lib.hid fun k l W hk hl =>
        cmpRows_any (some ⟨k, 0, none⟩) [(0, 0, ⟨#[]⟩)] 1 1 (some ⟨l, 0, none⟩) [(0, 0, ⟨#[]⟩)] 1 1 W (vals_1 hk) (vals_1 hl) rfl rfl (by omega) (by omega)
      clear HG HLI H16 H13 L1 L2 L3 L4 C1 C2 C3 M12 M14 M17 R1 R2
      go_wp2_with fail
      simp only [List.append_eq, List.cons_append, List.nil_append]
      refine wp_region_noPanic ?_
      refine wp_region_any (by kernel_rfl) ?_
      refine facts_start (0 :: 1 :: 2 :: 3 :: 4 :: 5 :: 6 :: 7 :: 8 :: 9 :: 10 :: 11 :: 12 :: 13 :: 14 :: 15 :: 16 :: 17 :: 18 :: 19 :: 20 :: 21 :: 22 :: 23 :: 24 :: 25 :: 26 :: 27 :: 28 :: 29 :: 30 :: 31 :: 32 :: 33 :: 34 :: 35 :: 36 :: 37 :: 38 :: 39 :: 40 :: 41 :: 42 :: 43 :: 44 :: 45 :: 46 :: 47 :: 48 :: 49 :: 50 :: 51 :: 52 :: 53 :: 54 :: 55 :: 56 :: 57 :: 58 :: 59 :: 60 :: 61 :: 62 :: 63 :: 64 :: 65 :: 66 :: 67 :: 68 :: 69 :: 70 :: 71 :: 72 :: 73 :: 74 :: 75 :: []) [] DVK (Ft mkVK blVK) _ _ _ 0 _ #[true, true, true, true, true, true, true, true, true, true, true, true, true, true, true, true, true, true, true, true, true, true, true, true, true, true, true, true, true, true, true, true, true, true, true, true, true, true, true, true, true, true, true, true, true, true, true, true, true, true, true, true, true, true, true, true, true, true, true, true, true, true, true, true, true, true, true, true, true, true, true, true, true, true, true, true] (by kernel_rfl) (by rfl) ft_step no_al' ?hstep ?hend
      case hstep =>
        intro i hi x W hd hb K hK
        have hs := bs_below HBS.out hb
        simp only [List.mem_cons, List.not_mem_nil, or_false] at hi
        rcases hi with rfl | rfl | rfl | rfl | rfl | rfl | rfl | rfl | rfl | rfl | rfl | rfl | rfl | rfl | rfl | rfl | rfl | rfl | rfl | rfl | rfl | rfl | rfl | rfl | rfl | rfl | rfl | rfl | rfl | rfl | rfl | rfl | rfl | rfl | rfl | rfl | rfl | rfl | rfl | rfl | rfl | rfl | rfl | rfl | rfl | rfl | rfl | rfl | rfl | rfl | rfl | rfl | rfl | rfl | rfl | rfl | rfl | rfl | rfl | rfl | rfl | rfl | rfl | rfl | rfl | rfl | rfl | rfl | rfl | rfl | rfl | rfl | rfl | rfl | rfl | rfl
        · generalize hA : putsA _ _ x (0 :: 1 :: 2 :: 3 :: 4 :: 5 :: 6 :: 7 :: 8 :: 9 :: 10 :: 11 :: 12 :: 13 :: 14 :: 15 :: 16 :: 17 :: 18 :: 19 :: 20 :: 21 :: 22 :: 23 :: 24 :: 25 :: 26 :: 27 :: 28 :: 29 :: 30 :: 31 :: 32 :: 33 :: 34 :: 35 :: 36 :: 37 :: 38 :: 39 :: 40 :: 41 :: 42 :: 43 :: 44 :: 45 :: 46 :: 47 :: 48 :: 49 :: 50 :: 51 :: 52 :: 53 :: 54 :: 55 :: 56 :: 57 :: 58 :: 59 :: 60 :: 61 :: 62 :: 63 :: 64 :: 65 :: 66 :: 67 :: 68 :: 69 :: 70 :: 71 :: 72 :: 73 :: 74 :: 75 :: []) = A at *
          have e5 : A.tmps[5]? = some (.pointer (some ⟨ga, 0, none⟩)) := by rw [← hA]; exact putsA_at 5 _ (by decide +kernel)
          clear hA hd
          obtain ⟨jc0, jc1, jc2, _, _, _⟩ := cell3 (hs.1 (ga, 24, #[.int .u8 0, .int .i64 0, .string ⟨#[]⟩]) (.head _))
          refine wpOp_step rfl (fun K' hK' => ?_)
          go_simp
          exact hK' _ _ (hK _ _ ⟨0, 0, 0, rfl, al0⟩ (Below.refl _ _) no_al)
        · generalize hA : putsA _ _ x (0 :: 1 :: 2 :: 3 :: 4 :: 5 :: 6 :: 7 :: 8 :: 9 :: 10 :: 11 :: 12 :: 13 :: 14 :: 15 :: 16 :: 17 :: 18 :: 19 :: 20 :: 21 :: 22 :: 23 :: 24 :: 25 :: 26 :: 27 :: 28 :: 29 :: 30 :: 31 :: 32 :: 33 :: 34 :: 35 :: 36 :: 37 :: 38 :: 39 :: 40 :: 41 :: 42 :: 43 :: 44 :: 45 :: 46 :: 47 :: 48 :: 49 :: 50 :: 51 :: 52 :: 53 :: 54 :: 55 :: 56 :: 57 :: 58 :: 59 :: 60 :: 61 :: 62 :: 63 :: 64 :: 65 :: 66 :: 67 :: 68 :: 69 :: 70 :: 71 :: 72 :: 73 :: 74 :: 75 :: []) = A at *
          clear hA hd
          refine wpOp_step rfl (fun K' hK' => ?_)
          go_simp
          exact hK' _ _ (hK _ _ ⟨0, 0, 0, rfl, al0⟩ (Below.refl _ _) no_al)
        · generalize hA : putsA _ _ x (0 :: 1 :: 2 :: 3 :: 4 :: 5 :: 6 :: 7 :: 8 :: 9 :: 10 :: 11 :: 12 :: 13 :: 14 :: 15 :: 16 :: 17 :: 18 :: 19 :: 20 :: 21 :: 22 :: 23 :: 24 :: 25 :: 26 :: 27 :: 28 :: 29 :: 30 :: 31 :: 32 :: 33 :: 34 :: 35 :: 36 :: 37 :: 38 :: 39 :: 40 :: 41 :: 42 :: 43 :: 44 :: 45 :: 46 :: 47 :: 48 :: 49 :: 50 :: 51 :: 52 :: 53 :: 54 :: 55 :: 56 :: 57 :: 58 :: 59 :: 60 :: 61 :: 62 :: 63 :: 64 :: 65 :: 66 :: 67 :: 68 :: 69 :: 70 :: 71 :: 72 :: 73 :: 74 :: 75 :: []) = A at *
          have e45 : A.tmps[45]? = some (x 0) := by rw [← hA]; exact putsA_in (i := 0) 45 (by rfl) (by show (45 : Nat) < 120; decide) _ (by decide +kernel) (by decide)
          obtain ⟨_, _, _, f0, _⟩ := hd 0 (by decide)
          replace f0 : x 0 = .agg #[.int .u8 0, .int .i64 0, .string ⟨#[]⟩] := f0
          rw [f0] at e45
          have e46 : A.tmps[46]? = some (x 1) := by rw [← hA]; exact putsA_in (i := 1) 46 (by rfl) (by show (46 : Nat) < 120; decide) _ (by decide +kernel) (by decide)
          obtain ⟨_, _, _, f1, _⟩ := hd 1 (by decide)
          replace f1 : x 1 = .agg #[.int .u8 0, .int .i64 0, .string ⟨#[]⟩] := f1
          rw [f1] at e46
          clear hA hd
          refine wpOp_step rfl (fun K' hK' => ?_)
          go_simp
          exact hK' _ _ (hK _ _ ⟨0, 0, 0, rfl, al0⟩ (Below.refl _ _) no_al)
        · generalize hA : putsA _ _ x (0 :: 1 :: 2 :: 3 :: 4 :: 5 :: 6 :: 7 :: 8 :: 9 :: 10 :: 11 :: 12 :: 13 :: 14 :: 15 :: 16 :: 17 :: 18 :: 19 :: 20 :: 21 :: 22 :: 23 :: 24 :: 25 :: 26 :: 27 :: 28 :: 29 :: 30 :: 31 :: 32 :: 33 :: 34 :: 35 :: 36 :: 37 :: 38 :: 39 :: 40 :: 41 :: 42 :: 43 :: 44 :: 45 :: 46 :: 47 :: 48 :: 49 :: 50 :: 51 :: 52 :: 53 :: 54 :: 55 :: 56 :: 57 :: 58 :: 59 :: 60 :: 61 :: 62 :: 63 :: 64 :: 65 :: 66 :: 67 :: 68 :: 69 :: 70 :: 71 :: 72 :: 73 :: 74 :: 75 :: []) = A at *
          have e47 : A.tmps[47]? = some (x 2) := by rw [← hA]; exact putsA_in (i := 2) 47 (by rfl) (by show (47 : Nat) < 120; decide) _ (by decide +kernel) (by decide)
          obtain ⟨_, _, _, f2, _⟩ := hd 2 (by decide)
          replace f2 : x 2 = .bool true := f2
          rw [f2] at e47
          clear hA hd
          refine wpOp_step rfl (fun K' hK' => ?_)
          go_simp
          exact hK' _ _ (hK _ _ ⟨0, 0, 0, rfl, al0⟩ (Below.refl _ _) no_al)
        · generalize hA : putsA _ _ x (0 :: 1 :: 2 :: 3 :: 4 :: 5 :: 6 :: 7 :: 8 :: 9 :: 10 :: 11 :: 12 :: 13 :: 14 :: 15 :: 16 :: 17 :: 18 :: 19 :: 20 :: 21 :: 22 :: 23 :: 24 :: 25 :: 26 :: 27 :: 28 :: 29 :: 30 :: 31 :: 32 :: 33 :: 34 :: 35 :: 36 :: 37 :: 38 :: 39 :: 40 :: 41 :: 42 :: 43 :: 44 :: 45 :: 46 :: 47 :: 48 :: 49 :: 50 :: 51 :: 52 :: 53 :: 54 :: 55 :: 56 :: 57 :: 58 :: 59 :: 60 :: 61 :: 62 :: 63 :: 64 :: 65 :: 66 :: 67 :: 68 :: 69 :: 70 :: 71 :: 72 :: 73 :: 74 :: 75 :: []) = A at *
          have e6 : A.tmps[6]? = some (.int .i64 0) := by rw [← hA]; exact putsA_at 6 _ (by decide +kernel)
          have e48 : A.tmps[48]? = some (x 3) := by rw [← hA]; exact putsA_in (i := 3) 48 (by rfl) (by show (48 : Nat) < 120; decide) _ (by decide +kernel) (by decide)
          obtain ⟨_, _, _, f3, _⟩ := hd 3 (by decide)
          replace f3 : x 3 = .bool true := f3
          rw [f3] at e48
          clear hA hd
          refine wpOp_step rfl (fun K' hK' => ?_)
          go_simp
          exact hK' _ _ (hK _ _ ⟨0, 0, 0, rfl, al0⟩ (Below.refl _ _) no_al)
        · generalize hA : putsA _ _ x (0 :: 1 :: 2 :: 3 :: 4 :: 5 :: 6 :: 7 :: 8 :: 9 :: 10 :: 11 :: 12 :: 13 :: 14 :: 15 :: 16 :: 17 :: 18 :: 19 :: 20 :: 21 :: 22 :: 23 :: 24 :: 25 :: 26 :: 27 :: 28 :: 29 :: 30 :: 31 :: 32 :: 33 :: 34 :: 35 :: 36 :: 37 :: 38 :: 39 :: 40 :: 41 :: 42 :: 43 :: 44 :: 45 :: 46 :: 47 :: 48 :: 49 :: 50 :: 51 :: 52 :: 53 :: 54 :: 55 :: 56 :: 57 :: 58 :: 59 :: 60 :: 61 :: 62 :: 63 :: 64 :: 65 :: 66 :: 67 :: 68 :: 69 :: 70 :: 71 :: 72 :: 73 :: 74 :: 75 :: []) = A at *
          have e48 : A.tmps[48]? = some (x 3) := by rw [← hA]; exact putsA_in (i := 3) 48 (by rfl) (by show (48 : Nat) < 120; decide) _ (by decide +kernel) (by decide)
          obtain ⟨_, _, _, f3, _⟩ := hd 3 (by decide)
          replace f3 : x 3 = .bool true := f3
          rw [f3] at e48
          have e49 : A.tmps[49]? = some (x 4) := by rw [← hA]; exact putsA_in (i := 4) 49 (by rfl) (by show (49 : Nat) < 120; decide) _ (by decide +kernel) (by decide)
          obtain ⟨_, _, _, f4, _⟩ := hd 4 (by decide)
          replace f4 : x 4 = .int .i64 0 := f4
          rw [f4] at e49
          clear hA hd
          refine wpOp_step rfl (fun K' hK' => ?_)
          go_simp
          exact hK' _ _ (hK _ _ ⟨0, 0, 0, rfl, al0⟩ (Below.refl _ _) no_al)
        · generalize hA : putsA _ _ x (0 :: 1 :: 2 :: 3 :: 4 :: 5 :: 6 :: 7 :: 8 :: 9 :: 10 :: 11 :: 12 :: 13 :: 14 :: 15 :: 16 :: 17 :: 18 :: 19 :: 20 :: 21 :: 22 :: 23 :: 24 :: 25 :: 26 :: 27 :: 28 :: 29 :: 30 :: 31 :: 32 :: 33 :: 34 :: 35 :: 36 :: 37 :: 38 :: 39 :: 40 :: 41 :: 42 :: 43 :: 44 :: 45 :: 46 :: 47 :: 48 :: 49 :: 50 :: 51 :: 52 :: 53 :: 54 :: 55 :: 56 :: 57 :: 58 :: 59 :: 60 :: 61 :: 62 :: 63 :: 64 :: 65 :: 66 :: 67 :: 68 :: 69 :: 70 :: 71 :: 72 :: 73 :: 74 :: 75 :: []) = A at *
          have e48 : A.tmps[48]? = some (x 3) := by rw [← hA]; exact putsA_in (i := 3) 48 (by rfl) (by show (48 : Nat) < 120; decide) _ (by decide +kernel) (by decide)
          obtain ⟨_, _, _, f3, _⟩ := hd 3 (by decide)
          replace f3 : x 3 = .bool true := f3
          rw [f3] at e48
          have e50 : A.tmps[50]? = some (x 5) := by rw [← hA]; exact putsA_in (i := 5) 50 (by rfl) (by show (50 : Nat) < 120; decide) _ (by decide +kernel) (by decide)
          obtain ⟨_, _, _, f5, _⟩ := hd 5 (by decide)
          replace f5 : x 5 = .bool true := f5
          rw [f5] at e50
          clear hA hd
          refine wpOp_step rfl (fun K' hK' => ?_)
          go_simp
          exact hK' _ _ (hK _ _ ⟨0, 0, 0, rfl, al0⟩ (Below.refl _ _) no_al)
        · generalize hA : putsA _ _ x (0 :: 1 :: 2 :: 3 :: 4 :: 5 :: 6 :: 7 :: 8 :: 9 :: 10 :: 11 :: 12 :: 13 :: 14 :: 15 :: 16 :: 17 :: 18 :: 19 :: 20 :: 21 :: 22 :: 23 :: 24 :: 25 :: 26 :: 27 :: 28 :: 29 :: 30 :: 31 :: 32 :: 33 :: 34 :: 35 :: 36 :: 37 :: 38 :: 39 :: 40 :: 41 :: 42 :: 43 :: 44 :: 45 :: 46 :: 47 :: 48 :: 49 :: 50 :: 51 :: 52 :: 53 :: 54 :: 55 :: 56 :: 57 :: 58 :: 59 :: 60 :: 61 :: 62 :: 63 :: 64 :: 65 :: 66 :: 67 :: 68 :: 69 :: 70 :: 71 :: 72 :: 73 :: 74 :: 75 :: []) = A at *
          have e51 : A.tmps[51]? = some (x 6) := by rw [← hA]; exact putsA_in (i := 6) 51 (by rfl) (by show (51 : Nat) < 120; decide) _ (by decide +kernel) (by decide)
          obtain ⟨_, _, _, f6, _⟩ := hd 6 (by decide)
          replace f6 : x 6 = .bool true := f6
          rw [f6] at e51
          clear hA hd
          refine wpOp_step rfl (fun K' hK' => ?_)
          go_simp
          exact hK' _ _ (hK _ _ ⟨0, 0, 0, rfl, al0⟩ (Below.refl _ _) no_al)
        · generalize hA : putsA _ _ x (0 :: 1 :: 2 :: 3 :: 4 :: 5 :: 6 :: 7 :: 8 :: 9 :: 10 :: 11 :: 12 :: 13 :: 14 :: 15 :: 16 :: 17 :: 18 :: 19 :: 20 :: 21 :: 22 :: 23 :: 24 :: 25 :: 26 :: 27 :: 28 :: 29 :: 30 :: 31 :: 32 :: 33 :: 34 :: 35 :: 36 :: 37 :: 38 :: 39 :: 40 :: 41 :: 42 :: 43 :: 44 :: 45 :: 46 :: 47 :: 48 :: 49 :: 50 :: 51 :: 52 :: 53 :: 54 :: 55 :: 56 :: 57 :: 58 :: 59 :: 60 :: 61 :: 62 :: 63 :: 64 :: 65 :: 66 :: 67 :: 68 :: 69 :: 70 :: 71 :: 72 :: 73 :: 74 :: 75 :: []) = A at *
          have e7 : A.tmps[7]? = some (.pointer (some ⟨gb, 0, none⟩)) := by rw [← hA]; exact putsA_at 7 _ (by decide +kernel)
          have e52 : A.tmps[52]? = some (x 7) := by rw [← hA]; exact putsA_in (i := 7) 52 (by rfl) (by show (52 : Nat) < 120; decide) _ (by decide +kernel) (by decide)
          obtain ⟨_, _, _, f7, _⟩ := hd 7 (by decide)
          replace f7 : x 7 = .bool true := f7
          rw [f7] at e52
          clear hA hd
          obtain ⟨jc0, jc1, jc2, _, _, _⟩ := cell3 (hs.1 (gb, 24, #[.int .u8 2, .int .i64 0, .string ⟨#[]⟩]) (.tail _ (.head _)))
          refine wpOp_step rfl (fun K' hK' => ?_)
          go_simp
          exact hK' _ _ (hK _ _ ⟨0, 0, 0, rfl, al0⟩ (Below.refl _ _) no_al)
        · generalize hA : putsA _ _ x (0 :: 1 :: 2 :: 3 :: 4 :: 5 :: 6 :: 7 :: 8 :: 9 :: 10 :: 11 :: 12 :: 13 :: 14 :: 15 :: 16 :: 17 :: 18 :: 19 :: 20 :: 21 :: 22 :: 23 :: 24 :: 25 :: 26 :: 27 :: 28 :: 29 :: 30 :: 31 :: 32 :: 33 :: 34 :: 35 :: 36 :: 37 :: 38 :: 39 :: 40 :: 41 :: 42 :: 43 :: 44 :: 45 :: 46 :: 47 :: 48 :: 49 :: 50 :: 51 :: 52 :: 53 :: 54 :: 55 :: 56 :: 57 :: 58 :: 59 :: 60 :: 61 :: 62 :: 63 :: 64 :: 65 :: 66 :: 67 :: 68 :: 69 :: 70 :: 71 :: 72 :: 73 :: 74 :: 75 :: []) = A at *
          have e52 : A.tmps[52]? = some (x 7) := by rw [← hA]; exact putsA_in (i := 7) 52 (by rfl) (by show (52 : Nat) < 120; decide) _ (by decide +kernel) (by decide)
          obtain ⟨_, _, _, f7, _⟩ := hd 7 (by decide)
          replace f7 : x 7 = .bool true := f7
          rw [f7] at e52
          clear hA hd
          refine wpOp_step rfl (fun K' hK' => ?_)
          go_simp
          refine (mkText _ W).mono ?_
          rintro e w6 ⟨rfl, hb6⟩
          exact hK' _ _ (hK _ _ ⟨0, 0, 0, rfl, al0⟩ hb6 no_al)
        · generalize hA : putsA _ _ x (0 :: 1 :: 2 :: 3 :: 4 :: 5 :: 6 :: 7 :: 8 :: 9 :: 10 :: 11 :: 12 :: 13 :: 14 :: 15 :: 16 :: 17 :: 18 :: 19 :: 20 :: 21 :: 22 :: 23 :: 24 :: 25 :: 26 :: 27 :: 28 :: 29 :: 30 :: 31 :: 32 :: 33 :: 34 :: 35 :: 36 :: 37 :: 38 :: 39 :: 40 :: 41 :: 42 :: 43 :: 44 :: 45 :: 46 :: 47 :: 48 :: 49 :: 50 :: 51 :: 52 :: 53 :: 54 :: 55 :: 56 :: 57 :: 58 :: 59 :: 60 :: 61 :: 62 :: 63 :: 64 :: 65 :: 66 :: 67 :: 68 :: 69 :: 70 :: 71 :: 72 :: 73 :: 74 :: 75 :: []) = A at *
          have e52 : A.tmps[52]? = some (x 7) := by rw [← hA]; exact putsA_in (i := 7) 52 (by rfl) (by show (52 : Nat) < 120; decide) _ (by decide +kernel) (by decide)
          obtain ⟨_, _, _, f7, _⟩ := hd 7 (by decide)
          replace f7 : x 7 = .bool true := f7
          rw [f7] at e52
          have e53 : A.tmps[53]? = some (x 8) := by rw [← hA]; exact putsA_in (i := 8) 53 (by rfl) (by show (53 : Nat) < 120; decide) _ (by decide +kernel) (by decide)
          obtain ⟨_, _, _, f8, _⟩ := hd 8 (by decide)
          replace f8 : x 8 = .agg #[.int .u8 2, .int .i64 0, .string ⟨#[]⟩] := f8
          rw [f8] at e53
          have e54 : A.tmps[54]? = some (x 9) := by rw [← hA]; exact putsA_in (i := 9) 54 (by rfl) (by show (54 : Nat) < 120; decide) _ (by decide +kernel) (by decide)
          obtain ⟨_, _, _, f9, _⟩ := hd 9 (by decide)
          replace f9 : x 9 = .agg #[.int .u8 2, .int .i64 0, .string ⟨#[]⟩] := f9
          rw [f9] at e54
          clear hA hd
          refine wpOp_step rfl (fun K' hK' => ?_)
          go_simp
          exact hK' _ _ (hK _ _ ⟨0, 0, 0, rfl, al0⟩ (Below.refl _ _) no_al)
        · generalize hA : putsA _ _ x (0 :: 1 :: 2 :: 3 :: 4 :: 5 :: 6 :: 7 :: 8 :: 9 :: 10 :: 11 :: 12 :: 13 :: 14 :: 15 :: 16 :: 17 :: 18 :: 19 :: 20 :: 21 :: 22 :: 23 :: 24 :: 25 :: 26 :: 27 :: 28 :: 29 :: 30 :: 31 :: 32 :: 33 :: 34 :: 35 :: 36 :: 37 :: 38 :: 39 :: 40 :: 41 :: 42 :: 43 :: 44 :: 45 :: 46 :: 47 :: 48 :: 49 :: 50 :: 51 :: 52 :: 53 :: 54 :: 55 :: 56 :: 57 :: 58 :: 59 :: 60 :: 61 :: 62 :: 63 :: 64 :: 65 :: 66 :: 67 :: 68 :: 69 :: 70 :: 71 :: 72 :: 73 :: 74 :: 75 :: []) = A at *
          have e52 : A.tmps[52]? = some (x 7) := by rw [← hA]; exact putsA_in (i := 7) 52 (by rfl) (by show (52 : Nat) < 120; decide) _ (by decide +kernel) (by decide)
          obtain ⟨_, _, _, f7, _⟩ := hd 7 (by decide)
          replace f7 : x 7 = .bool true := f7
          rw [f7] at e52
          have e55 : A.tmps[55]? = some (x 10) := by rw [← hA]; exact putsA_in (i := 10) 55 (by rfl) (by show (55 : Nat) < 120; decide) _ (by decide +kernel) (by decide)
          obtain ⟨_, _, _, f10, _⟩ := hd 10 (by decide)
          replace f10 : x 10 = .bool true := f10
          rw [f10] at e55
          clear hA hd
          refine wpOp_step rfl (fun K' hK' => ?_)
          go_simp
          exact hK' _ _ (hK _ _ ⟨0, 0, 0, rfl, al0⟩ (Below.refl _ _) no_al)
        · generalize hA : putsA _ _ x (0 :: 1 :: 2 :: 3 :: 4 :: 5 :: 6 :: 7 :: 8 :: 9 :: 10 :: 11 :: 12 :: 13 :: 14 :: 15 :: 16 :: 17 :: 18 :: 19 :: 20 :: 21 :: 22 :: 23 :: 24 :: 25 :: 26 :: 27 :: 28 :: 29 :: 30 :: 31 :: 32 :: 33 :: 34 :: 35 :: 36 :: 37 :: 38 :: 39 :: 40 :: 41 :: 42 :: 43 :: 44 :: 45 :: 46 :: 47 :: 48 :: 49 :: 50 :: 51 :: 52 :: 53 :: 54 :: 55 :: 56 :: 57 :: 58 :: 59 :: 60 :: 61 :: 62 :: 63 :: 64 :: 65 :: 66 :: 67 :: 68 :: 69 :: 70 :: 71 :: 72 :: 73 :: 74 :: 75 :: []) = A at *
          have e56 : A.tmps[56]? = some (x 11) := by rw [← hA]; exact putsA_in (i := 11) 56 (by rfl) (by show (56 : Nat) < 120; decide) _ (by decide +kernel) (by decide)
          obtain ⟨_, _, _, f11, _⟩ := hd 11 (by decide)
          replace f11 : x 11 = .bool true := f11
          rw [f11] at e56
          clear hA hd
          refine wpOp_step rfl (fun K' hK' => ?_)
          go_simp
          exact hK' _ _ (hK _ _ ⟨0, 0, 0, rfl, al0⟩ (Below.refl _ _) no_al)
        · generalize hA : putsA _ _ x (0 :: 1 :: 2 :: 3 :: 4 :: 5 :: 6 :: 7 :: 8 :: 9 :: 10 :: 11 :: 12 :: 13 :: 14 :: 15 :: 16 :: 17 :: 18 :: 19 :: 20 :: 21 :: 22 :: 23 :: 24 :: 25 :: 26 :: 27 :: 28 :: 29 :: 30 :: 31 :: 32 :: 33 :: 34 :: 35 :: 36 :: 37 :: 38 :: 39 :: 40 :: 41 :: 42 :: 43 :: 44 :: 45 :: 46 :: 47 :: 48 :: 49 :: 50 :: 51 :: 52 :: 53 :: 54 :: 55 :: 56 :: 57 :: 58 :: 59 :: 60 :: 61 :: 62 :: 63 :: 64 :: 65 :: 66 :: 67 :: 68 :: 69 :: 70 :: 71 :: 72 :: 73 :: 74 :: 75 :: []) = A at *
          have e8 : A.tmps[8]? = some (.int .i64 0) := by rw [← hA]; exact putsA_at 8 _ (by decide +kernel)
          have e57 : A.tmps[57]? = some (x 12) := by rw [← hA]; exact putsA_in (i := 12) 57 (by rfl) (by show (57 : Nat) < 120; decide) _ (by decide +kernel) (by decide)
          obtain ⟨_, _, _, f12, _⟩ := hd 12 (by decide)
          replace f12 : x 12 = .bool true := f12
          rw [f12] at e57
          clear hA hd
          refine wpOp_step rfl (fun K' hK' => ?_)
          go_simp
          exact hK' _ _ (hK _ _ ⟨0, 0, 0, rfl, al0⟩ (Below.refl _ _) no_al)
        · generalize hA : putsA _ _ x (0 :: 1 :: 2 :: 3 :: 4 :: 5 :: 6 :: 7 :: 8 :: 9 :: 10 :: 11 :: 12 :: 13 :: 14 :: 15 :: 16 :: 17 :: 18 :: 19 :: 20 :: 21 :: 22 :: 23 :: 24 :: 25 :: 26 :: 27 :: 28 :: 29 :: 30 :: 31 :: 32 :: 33 :: 34 :: 35 :: 36 :: 37 :: 38 :: 39 :: 40 :: 41 :: 42 :: 43 :: 44 :: 45 :: 46 :: 47 :: 48 :: 49 :: 50 :: 51 :: 52 :: 53 :: 54 :: 55 :: 56 :: 57 :: 58 :: 59 :: 60 :: 61 :: 62 :: 63 :: 64 :: 65 :: 66 :: 67 :: 68 :: 69 :: 70 :: 71 :: 72 :: 73 :: 74 :: 75 :: []) = A at *
          have e57 : A.tmps[57]? = some (x 12) := by rw [← hA]; exact putsA_in (i := 12) 57 (by rfl) (by show (57 : Nat) < 120; decide) _ (by decide +kernel) (by decide)
          obtain ⟨_, _, _, f12, _⟩ := hd 12 (by decide)
          replace f12 : x 12 = .bool true := f12
          rw [f12] at e57
          have e58 : A.tmps[58]? = some (x 13) := by rw [← hA]; exact putsA_in (i := 13) 58 (by rfl) (by show (58 : Nat) < 120; decide) _ (by decide +kernel) (by decide)
          obtain ⟨_, _, _, f13, _⟩ := hd 13 (by decide)
          replace f13 : x 13 = .int .i64 0 := f13
          rw [f13] at e58
          clear hA hd
          refine wpOp_step rfl (fun K' hK' => ?_)
          go_simp
          exact hK' _ _ (hK _ _ ⟨0, 0, 0, rfl, al0⟩ (Below.refl _ _) no_al)
        · generalize hA : putsA _ _ x (0 :: 1 :: 2 :: 3 :: 4 :: 5 :: 6 :: 7 :: 8 :: 9 :: 10 :: 11 :: 12 :: 13 :: 14 :: 15 :: 16 :: 17 :: 18 :: 19 :: 20 :: 21 :: 22 :: 23 :: 24 :: 25 :: 26 :: 27 :: 28 :: 29 :: 30 :: 31 :: 32 :: 33 :: 34 :: 35 :: 36 :: 37 :: 38 :: 39 :: 40 :: 41 :: 42 :: 43 :: 44 :: 45 :: 46 :: 47 :: 48 :: 49 :: 50 :: 51 :: 52 :: 53 :: 54 :: 55 :: 56 :: 57 :: 58 :: 59 :: 60 :: 61 :: 62 :: 63 :: 64 :: 65 :: 66 :: 67 :: 68 :: 69 :: 70 :: 71 :: 72 :: 73 :: 74 :: 75 :: []) = A at *
          have e57 : A.tmps[57]? = some (x 12) := by rw [← hA]; exact putsA_in (i := 12) 57 (by rfl) (by show (57 : Nat) < 120; decide) _ (by decide +kernel) (by decide)
          obtain ⟨_, _, _, f12, _⟩ := hd 12 (by decide)
          replace f12 : x 12 = .bool true := f12
          rw [f12] at e57
          have e59 : A.tmps[59]? = some (x 14) := by rw [← hA]; exact putsA_in (i := 14) 59 (by rfl) (by show (59 : Nat) < 120; decide) _ (by decide +kernel) (by decide)
          obtain ⟨_, _, _, f14, _⟩ := hd 14 (by decide)
          replace f14 : x 14 = .bool true := f14
          rw [f14] at e59
          clear hA hd
          refine wpOp_step rfl (fun K' hK' => ?_)
          go_simp
          exact hK' _ _ (hK _ _ ⟨0, 0, 0, rfl, al0⟩ (Below.refl _ _) no_al)
        · generalize hA : putsA _ _ x (0 :: 1 :: 2 :: 3 :: 4 :: 5 :: 6 :: 7 :: 8 :: 9 :: 10 :: 11 :: 12 :: 13 :: 14 :: 15 :: 16 :: 17 :: 18 :: 19 :: 20 :: 21 :: 22 :: 23 :: 24 :: 25 :: 26 :: 27 :: 28 :: 29 :: 30 :: 31 :: 32 :: 33 :: 34 :: 35 :: 36 :: 37 :: 38 :: 39 :: 40 :: 41 :: 42 :: 43 :: 44 :: 45 :: 46 :: 47 :: 48 :: 49 :: 50 :: 51 :: 52 :: 53 :: 54 :: 55 :: 56 :: 57 :: 58 :: 59 :: 60 :: 61 :: 62 :: 63 :: 64 :: 65 :: 66 :: 67 :: 68 :: 69 :: 70 :: 71 :: 72 :: 73 :: 74 :: 75 :: []) = A at *
          have e60 : A.tmps[60]? = some (x 15) := by rw [← hA]; exact putsA_in (i := 15) 60 (by rfl) (by show (60 : Nat) < 120; decide) _ (by decide +kernel) (by decide)
          obtain ⟨_, _, _, f15, _⟩ := hd 15 (by decide)
          replace f15 : x 15 = .bool true := f15
          rw [f15] at e60
          clear hA hd
          refine wpOp_step rfl (fun K' hK' => ?_)
          go_simp
          exact hK' _ _ (hK _ _ ⟨0, 0, 0, rfl, al0⟩ (Below.refl _ _) no_al)
        · generalize hA : putsA _ _ x (0 :: 1 :: 2 :: 3 :: 4 :: 5 :: 6 :: 7 :: 8 :: 9 :: 10 :: 11 :: 12 :: 13 :: 14 :: 15 :: 16 :: 17 :: 18 :: 19 :: 20 :: 21 :: 22 :: 23 :: 24 :: 25 :: 26 :: 27 :: 28 :: 29 :: 30 :: 31 :: 32 :: 33 :: 34 :: 35 :: 36 :: 37 :: 38 :: 39 :: 40 :: 41 :: 42 :: 43 :: 44 :: 45 :: 46 :: 47 :: 48 :: 49 :: 50 :: 51 :: 52 :: 53 :: 54 :: 55 :: 56 :: 57 :: 58 :: 59 :: 60 :: 61 :: 62 :: 63 :: 64 :: 65 :: 66 :: 67 :: 68 :: 69 :: 70 :: 71 :: 72 :: 73 :: 74 :: 75 :: []) = A at *
          have e10 : A.tmps[10]? = some (.int .i64 3) := by rw [← hA]; exact putsA_at 10 _ (by decide +kernel)
          have e61 : A.tmps[61]? = some (x 16) := by rw [← hA]; exact putsA_in (i := 16) 61 (by rfl) (by show (61 : Nat) < 120; decide) _ (by decide +kernel) (by decide)
          obtain ⟨_, _, _, f16, _⟩ := hd 16 (by decide)
          replace f16 : x 16 = .bool true := f16
          rw [f16] at e61
          clear hA hd
          refine wpOp_step rfl (fun K' hK' => ?_)
          go_simp
          exact hK' _ _ (hK _ _ ⟨0, 0, 0, rfl, al0⟩ (Below.refl _ _) no_al)
        · generalize hA : putsA _ _ x (0 :: 1 :: 2 :: 3 :: 4 :: 5 :: 6 :: 7 :: 8 :: 9 :: 10 :: 11 :: 12 :: 13 :: 14 :: 15 :: 16 :: 17 :: 18 :: 19 :: 20 :: 21 :: 22 :: 23 :: 24 :: 25 :: 26 :: 27 :: 28 :: 29 :: 30 :: 31 :: 32 :: 33 :: 34 :: 35 :: 36 :: 37 :: 38 :: 39 :: 40 :: 41 :: 42 :: 43 :: 44 :: 45 :: 46 :: 47 :: 48 :: 49 :: 50 :: 51 :: 52 :: 53 :: 54 :: 55 :: 56 :: 57 :: 58 :: 59 :: 60 :: 61 :: 62 :: 63 :: 64 :: 65 :: 66 :: 67 :: 68 :: 69 :: 70 :: 71 :: 72 :: 73 :: 74 :: 75 :: []) = A at *
          have e61 : A.tmps[61]? = some (x 16) := by rw [← hA]; exact putsA_in (i := 16) 61 (by rfl) (by show (61 : Nat) < 120; decide) _ (by decide +kernel) (by decide)
          obtain ⟨_, _, _, f16, _⟩ := hd 16 (by decide)
          replace f16 : x 16 = .bool true := f16
          rw [f16] at e61
          have e62 : A.tmps[62]? = some (x 17) := by rw [← hA]; exact putsA_in (i := 17) 62 (by rfl) (by show (62 : Nat) < 120; decide) _ (by decide +kernel) (by decide)
          obtain ⟨_, _, _, f17, _⟩ := hd 17 (by decide)
          replace f17 : x 17 = .int .i64 3 := f17
          rw [f17] at e62
          clear hA hd
          refine wpOp_step rfl (fun K' hK' => ?_)
          go_simp
          exact hK' _ _ (hK _ _ ⟨0, 0, 0, rfl, al0⟩ (Below.refl _ _) no_al)
        · generalize hA : putsA _ _ x (0 :: 1 :: 2 :: 3 :: 4 :: 5 :: 6 :: 7 :: 8 :: 9 :: 10 :: 11 :: 12 :: 13 :: 14 :: 15 :: 16 :: 17 :: 18 :: 19 :: 20 :: 21 :: 22 :: 23 :: 24 :: 25 :: 26 :: 27 :: 28 :: 29 :: 30 :: 31 :: 32 :: 33 :: 34 :: 35 :: 36 :: 37 :: 38 :: 39 :: 40 :: 41 :: 42 :: 43 :: 44 :: 45 :: 46 :: 47 :: 48 :: 49 :: 50 :: 51 :: 52 :: 53 :: 54 :: 55 :: 56 :: 57 :: 58 :: 59 :: 60 :: 61 :: 62 :: 63 :: 64 :: 65 :: 66 :: 67 :: 68 :: 69 :: 70 :: 71 :: 72 :: 73 :: 74 :: 75 :: []) = A at *
          have e61 : A.tmps[61]? = some (x 16) := by rw [← hA]; exact putsA_in (i := 16) 61 (by rfl) (by show (61 : Nat) < 120; decide) _ (by decide +kernel) (by decide)
          obtain ⟨_, _, _, f16, _⟩ := hd 16 (by decide)
          replace f16 : x 16 = .bool true := f16
          rw [f16] at e61
          have e63 : A.tmps[63]? = some (x 18) := by rw [← hA]; exact putsA_in (i := 18) 63 (by rfl) (by show (63 : Nat) < 120; decide) _ (by decide +kernel) (by decide)
          obtain ⟨_, _, _, f18, _⟩ := hd 18 (by decide)
          replace f18 : x 18 = .bool true := f18
          rw [f18] at e63
          clear hA hd
          refine wpOp_step rfl (fun K' hK' => ?_)
          go_simp
          exact hK' _ _ (hK _ _ ⟨0, 0, 0, rfl, al0⟩ (Below.refl _ _) no_al)
        · generalize hA : putsA _ _ x (0 :: 1 :: 2 :: 3 :: 4 :: 5 :: 6 :: 7 :: 8 :: 9 :: 10 :: 11 :: 12 :: 13 :: 14 :: 15 :: 16 :: 17 :: 18 :: 19 :: 20 :: 21 :: 22 :: 23 :: 24 :: 25 :: 26 :: 27 :: 28 :: 29 :: 30 :: 31 :: 32 :: 33 :: 34 :: 35 :: 36 :: 37 :: 38 :: 39 :: 40 :: 41 :: 42 :: 43 :: 44 :: 45 :: 46 :: 47 :: 48 :: 49 :: 50 :: 51 :: 52 :: 53 :: 54 :: 55 :: 56 :: 57 :: 58 :: 59 :: 60 :: 61 :: 62 :: 63 :: 64 :: 65 :: 66 :: 67 :: 68 :: 69 :: 70 :: 71 :: 72 :: 73 :: 74 :: 75 :: []) = A at *
          have e64 : A.tmps[64]? = some (x 19) := by rw [← hA]; exact putsA_in (i := 19) 64 (by rfl) (by show (64 : Nat) < 120; decide) _ (by decide +kernel) (by decide)
          obtain ⟨_, _, _, f19, _⟩ := hd 19 (by decide)
          replace f19 : x 19 = .bool true := f19
          rw [f19] at e64
          clear hA hd
          refine wpOp_step rfl (fun K' hK' => ?_)
          go_simp
          exact hK' _ _ (hK _ _ ⟨0, 0, 0, rfl, al0⟩ (Below.refl _ _) no_al)
        · generalize hA : putsA _ _ x (0 :: 1 :: 2 :: 3 :: 4 :: 5 :: 6 :: 7 :: 8 :: 9 :: 10 :: 11 :: 12 :: 13 :: 14 :: 15 :: 16 :: 17 :: 18 :: 19 :: 20 :: 21 :: 22 :: 23 :: 24 :: 25 :: 26 :: 27 :: 28 :: 29 :: 30 :: 31 :: 32 :: 33 :: 34 :: 35 :: 36 :: 37 :: 38 :: 39 :: 40 :: 41 :: 42 :: 43 :: 44 :: 45 :: 46 :: 47 :: 48 :: 49 :: 50 :: 51 :: 52 :: 53 :: 54 :: 55 :: 56 :: 57 :: 58 :: 59 :: 60 :: 61 :: 62 :: 63 :: 64 :: 65 :: 66 :: 67 :: 68 :: 69 :: 70 :: 71 :: 72 :: 73 :: 74 :: 75 :: []) = A at *
          have e65 : A.tmps[65]? = some (x 20) := by rw [← hA]; exact putsA_in (i := 20) 65 (by rfl) (by show (65 : Nat) < 120; decide) _ (by decide +kernel) (by decide)
          obtain ⟨_, _, _, f20, _⟩ := hd 20 (by decide)
          replace f20 : x 20 = .bool true := f20
          rw [f20] at e65
          clear hA hd
          refine wpOp_step rfl (fun K' hK' => ?_)
          go_simp
          exact hK' _ _ (hK _ _ ⟨0, 0, 0, rfl, al0⟩ (Below.refl _ _) no_al)
        · generalize hA : putsA _ _ x (0 :: 1 :: 2 :: 3 :: 4 :: 5 :: 6 :: 7 :: 8 :: 9 :: 10 :: 11 :: 12 :: 13 :: 14 :: 15 :: 16 :: 17 :: 18 :: 19 :: 20 :: 21 :: 22 :: 23 :: 24 :: 25 :: 26 :: 27 :: 28 :: 29 :: 30 :: 31 :: 32 :: 33 :: 34 :: 35 :: 36 :: 37 :: 38 :: 39 :: 40 :: 41 :: 42 :: 43 :: 44 :: 45 :: 46 :: 47 :: 48 :: 49 :: 50 :: 51 :: 52 :: 53 :: 54 :: 55 :: 56 :: 57 :: 58 :: 59 :: 60 :: 61 :: 62 :: 63 :: 64 :: 65 :: 66 :: 67 :: 68 :: 69 :: 70 :: 71 :: 72 :: 73 :: 74 :: 75 :: []) = A at *
          have e65 : A.tmps[65]? = some (x 20) := by rw [← hA]; exact putsA_in (i := 20) 65 (by rfl) (by show (65 : Nat) < 120; decide) _ (by decide +kernel) (by decide)
          obtain ⟨_, _, _, f20, _⟩ := hd 20 (by decide)
          replace f20 : x 20 = .bool true := f20
          rw [f20] at e65
          clear hA hd
          refine wpOp_step rfl (fun K' hK' => ?_)
          go_simp
          refine (mkNumber _ W).mono ?_
          rintro e w6 ⟨rfl, hb6⟩
          exact hK' _ _ (hK _ _ ⟨0, 0, 0, rfl, al0⟩ hb6 no_al)
        · generalize hA : putsA _ _ x (0 :: 1 :: 2 :: 3 :: 4 :: 5 :: 6 :: 7 :: 8 :: 9 :: 10 :: 11 :: 12 :: 13 :: 14 :: 15 :: 16 :: 17 :: 18 :: 19 :: 20 :: 21 :: 22 :: 23 :: 24 :: 25 :: 26 :: 27 :: 28 :: 29 :: 30 :: 31 :: 32 :: 33 :: 34 :: 35 :: 36 :: 37 :: 38 :: 39 :: 40 :: 41 :: 42 :: 43 :: 44 :: 45 :: 46 :: 47 :: 48 :: 49 :: 50 :: 51 :: 52 :: 53 :: 54 :: 55 :: 56 :: 57 :: 58 :: 59 :: 60 :: 61 :: 62 :: 63 :: 64 :: 65 :: 66 :: 67 :: 68 :: 69 :: 70 :: 71 :: 72 :: 73 :: 74 :: 75 :: []) = A at *
          have e65 : A.tmps[65]? = some (x 20) := by rw [← hA]; exact putsA_in (i := 20) 65 (by rfl) (by show (65 : Nat) < 120; decide) _ (by decide +kernel) (by decide)
          obtain ⟨_, _, _, f20, _⟩ := hd 20 (by decide)
          replace f20 : x 20 = .bool true := f20
          rw [f20] at e65
          have e66 : A.tmps[66]? = some (x 21) := by rw [← hA]; exact putsA_in (i := 21) 66 (by rfl) (by show (66 : Nat) < 120; decide) _ (by decide +kernel) (by decide)
          obtain ⟨_, _, _, f21, _⟩ := hd 21 (by decide)
          replace f21 : x 21 = .agg #[.int .u8 0, .int .i64 0, .string ⟨#[]⟩] := f21
          rw [f21] at e66
          have e67 : A.tmps[67]? = some (x 22) := by rw [← hA]; exact putsA_in (i := 22) 67 (by rfl) (by show (67 : Nat) < 120; decide) _ (by decide +kernel) (by decide)
          obtain ⟨_, _, _, f22, _⟩ := hd 22 (by decide)
          replace f22 : x 22 = .agg #[.int .u8 1, .int .i64 0, .string ⟨#[]⟩] := f22
          rw [f22] at e67
          clear hA hd
          refine wpOp_step rfl (fun K' hK' => ?_)
          go_simp
          refine (HC1.out W).mono ?_
          rintro e w6 ⟨rfl, hb6⟩
          exact hK' _ _ (hK _ _ ⟨0, 0, 0, rfl, al0⟩ hb6 no_al)
        · generalize hA : putsA _ _ x (0 :: 1 :: 2 :: 3 :: 4 :: 5 :: 6 :: 7 :: 8 :: 9 :: 10 :: 11 :: 12 :: 13 :: 14 :: 15 :: 16 :: 17 :: 18 :: 19 :: 20 :: 21 :: 22 :: 23 :: 24 :: 25 :: 26 :: 27 :: 28 :: 29 :: 30 :: 31 :: 32 :: 33 :: 34 :: 35 :: 36 :: 37 :: 38 :: 39 :: 40 :: 41 :: 42 :: 43 :: 44 :: 45 :: 46 :: 47 :: 48 :: 49 :: 50 :: 51 :: 52 :: 53 :: 54 :: 55 :: 56 :: 57 :: 58 :: 59 :: 60 :: 61 :: 62 :: 63 :: 64 :: 65 :: 66 :: 67 :: 68 :: 69 :: 70 :: 71 :: 72 :: 73 :: 74 :: 75 :: []) = A at *
          have e65 : A.tmps[65]? = some (x 20) := by rw [← hA]; exact putsA_in (i := 20) 65 (by rfl) (by show (65 : Nat) < 120; decide) _ (by decide +kernel) (by decide)
          obtain ⟨_, _, _, f20, _⟩ := hd 20 (by decide)
          replace f20 : x 20 = .bool true := f20
          rw [f20] at e65
          have e68 : A.tmps[68]? = some (x 23) := by rw [← hA]; exact putsA_in (i := 23) 68 (by rfl) (by show (68 : Nat) < 120; decide) _ (by decide +kernel) (by decide)
          obtain ⟨_, _, _, f23, _⟩ := hd 23 (by decide)
          replace f23 : x 23 = .int .i64 (-1) := f23
          rw [f23] at e68
          clear hA hd
          refine wpOp_step rfl (fun K' hK' => ?_)
          go_simp
          exact hK' _ _ (hK _ _ ⟨0, 0, 0, rfl, al0⟩ (Below.refl _ _) no_al)
        · generalize hA : putsA _ _ x (0 :: 1 :: 2 :: 3 :: 4 :: 5 :: 6 :: 7 :: 8 :: 9 :: 10 :: 11 :: 12 :: 13 :: 14 :: 15 :: 16 :: 17 :: 18 :: 19 :: 20 :: 21 :: 22 :: 23 :: 24 :: 25 :: 26 :: 27 :: 28 :: 29 :: 30 :: 31 :: 32 :: 33 :: 34 :: 35 :: 36 :: 37 :: 38 :: 39 :: 40 :: 41 :: 42 :: 43 :: 44 :: 45 :: 46 :: 47 :: 48 :: 49 :: 50 :: 51 :: 52 :: 53 :: 54 :: 55 :: 56 :: 57 :: 58 :: 59 :: 60 :: 61 :: 62 :: 63 :: 64 :: 65 :: 66 :: 67 :: 68 :: 69 :: 70 :: 71 :: 72 :: 73 :: 74 :: 75 :: []) = A at *
          have e65 : A.tmps[65]? = some (x 20) := by rw [← hA]; exact putsA_in (i := 20) 65 (by rfl) (by show (65 : Nat) < 120; decide) _ (by decide +kernel) (by decide)
          obtain ⟨_, _, _, f20, _⟩ := hd 20 (by decide)
          replace f20 : x 20 = .bool true := f20
          rw [f20] at e65
          have e69 : A.tmps[69]? = some (x 24) := by rw [← hA]; exact putsA_in (i := 24) 69 (by rfl) (by show (69 : Nat) < 120; decide) _ (by decide +kernel) (by decide)
          obtain ⟨_, _, _, f24, _⟩ := hd 24 (by decide)
          replace f24 : x 24 = .bool true := f24
          rw [f24] at e69
          clear hA hd
          refine wpOp_step rfl (fun K' hK' => ?_)
          go_simp
          exact hK' _ _ (hK _ _ ⟨0, 0, 0, rfl, al0⟩ (Below.refl _ _) no_al)
        · generalize hA : putsA _ _ x (0 :: 1 :: 2 :: 3 :: 4 :: 5 :: 6 :: 7 :: 8 :: 9 :: 10 :: 11 :: 12 :: 13 :: 14 :: 15 :: 16 :: 17 :: 18 :: 19 :: 20 :: 21 :: 22 :: 23 :: 24 :: 25 :: 26 :: 27 :: 28 :: 29 :: 30 :: 31 :: 32 :: 33 :: 34 :: 35 :: 36 :: 37 :: 38 :: 39 :: 40 :: 41 :: 42 :: 43 :: 44 :: 45 :: 46 :: 47 :: 48 :: 49 :: 50 :: 51 :: 52 :: 53 :: 54 :: 55 :: 56 :: 57 :: 58 :: 59 :: 60 :: 61 :: 62 :: 63 :: 64 :: 65 :: 66 :: 67 :: 68 :: 69 :: 70 :: 71 :: 72 :: 73 :: 74 :: 75 :: []) = A at *
          have e70 : A.tmps[70]? = some (x 25) := by rw [← hA]; exact putsA_in (i := 25) 70 (by rfl) (by show (70 : Nat) < 120; decide) _ (by decide +kernel) (by decide)
          obtain ⟨_, _, _, f25, _⟩ := hd 25 (by decide)
          replace f25 : x 25 = .bool true := f25
          rw [f25] at e70
          clear hA hd
          refine wpOp_step rfl (fun K' hK' => ?_)
          go_simp
          exact hK' _ _ (hK _ _ ⟨0, 0, 0, rfl, al0⟩ (Below.refl _ _) no_al)
        · generalize hA : putsA _ _ x (0 :: 1 :: 2 :: 3 :: 4 :: 5 :: 6 :: 7 :: 8 :: 9 :: 10 :: 11 :: 12 :: 13 :: 14 :: 15 :: 16 :: 17 :: 18 :: 19 :: 20 :: 21 :: 22 :: 23 :: 24 :: 25 :: 26 :: 27 :: 28 :: 29 :: 30 :: 31 :: 32 :: 33 :: 34 :: 35 :: 36 :: 37 :: 38 :: 39 :: 40 :: 41 :: 42 :: 43 :: 44 :: 45 :: 46 :: 47 :: 48 :: 49 :: 50 :: 51 :: 52 :: 53 :: 54 :: 55 :: 56 :: 57 :: 58 :: 59 :: 60 :: 61 :: 62 :: 63 :: 64 :: 65 :: 66 :: 67 :: 68 :: 69 :: 70 :: 71 :: 72 :: 73 :: 74 :: 75 :: []) = A at *
          have e71 : A.tmps[71]? = some (x 26) := by rw [← hA]; exact putsA_in (i := 26) 71 (by rfl) (by show (71 : Nat) < 120; decide) _ (by decide +kernel) (by decide)
          obtain ⟨_, _, _, f26, _⟩ := hd 26 (by decide)
          replace f26 : x 26 = .bool true := f26
          rw [f26] at e71
          clear hA hd
          refine wpOp_step rfl (fun K' hK' => ?_)
          go_simp
          refine (mkNumber _ W).mono ?_
          rintro e w6 ⟨rfl, hb6⟩
          exact hK' _ _ (hK _ _ ⟨0, 0, 0, rfl, al0⟩ hb6 no_al)
        · generalize hA : putsA _ _ x (0 :: 1 :: 2 :: 3 :: 4 :: 5 :: 6 :: 7 :: 8 :: 9 :: 10 :: 11 :: 12 :: 13 :: 14 :: 15 :: 16 :: 17 :: 18 :: 19 :: 20 :: 21 :: 22 :: 23 :: 24 :: 25 :: 26 :: 27 :: 28 :: 29 :: 30 :: 31 :: 32 :: 33 :: 34 :: 35 :: 36 :: 37 :: 38 :: 39 :: 40 :: 41 :: 42 :: 43 :: 44 :: 45 :: 46 :: 47 :: 48 :: 49 :: 50 :: 51 :: 52 :: 53 :: 54 :: 55 :: 56 :: 57 :: 58 :: 59 :: 60 :: 61 :: 62 :: 63 :: 64 :: 65 :: 66 :: 67 :: 68 :: 69 :: 70 :: 71 :: 72 :: 73 :: 74 :: 75 :: []) = A at *
          have e71 : A.tmps[71]? = some (x 26) := by rw [← hA]; exact putsA_in (i := 26) 71 (by rfl) (by show (71 : Nat) < 120; decide) _ (by decide +kernel) (by decide)
          obtain ⟨_, _, _, f26, _⟩ := hd 26 (by decide)
          replace f26 : x 26 = .bool true := f26
          rw [f26] at e71
          clear hA hd
          refine wpOp_step rfl (fun K' hK' => ?_)
          go_simp
          refine (mkText _ W).mono ?_
          rintro e w6 ⟨rfl, hb6⟩
          exact hK' _ _ (hK _ _ ⟨0, 0, 0, rfl, al0⟩ hb6 no_al)
        · generalize hA : putsA _ _ x (0 :: 1 :: 2 :: 3 :: 4 :: 5 :: 6 :: 7 :: 8 :: 9 :: 10 :: 11 :: 12 :: 13 :: 14 :: 15 :: 16 :: 17 :: 18 :: 19 :: 20 :: 21 :: 22 :: 23 :: 24 :: 25 :: 26 :: 27 :: 28 :: 29 :: 30 :: 31 :: 32 :: 33 :: 34 :: 35 :: 36 :: 37 :: 38 :: 39 :: 40 :: 41 :: 42 :: 43 :: 44 :: 45 :: 46 :: 47 :: 48 :: 49 :: 50 :: 51 :: 52 :: 53 :: 54 :: 55 :: 56 :: 57 :: 58 :: 59 :: 60 :: 61 :: 62 :: 63 :: 64 :: 65 :: 66 :: 67 :: 68 :: 69 :: 70 :: 71 :: 72 :: 73 :: 74 :: 75 :: []) = A at *
          have e71 : A.tmps[71]? = some (x 26) := by rw [← hA]; exact putsA_in (i := 26) 71 (by rfl) (by show (71 : Nat) < 120; decide) _ (by decide +kernel) (by decide)
          obtain ⟨_, _, _, f26, _⟩ := hd 26 (by decide)
          replace f26 : x 26 = .bool true := f26
          rw [f26] at e71
          have e72 : A.tmps[72]? = some (x 27) := by rw [← hA]; exact putsA_in (i := 27) 72 (by rfl) (by show (72 : Nat) < 120; decide) _ (by decide +kernel) (by decide)
          obtain ⟨_, _, _, f27, _⟩ := hd 27 (by decide)
          replace f27 : x 27 = .agg #[.int .u8 1, .int .i64 9, .string ⟨#[]⟩] := f27
          rw [f27] at e72
          have e73 : A.tmps[73]? = some (x 28) := by rw [← hA]; exact putsA_in (i := 28) 73 (by rfl) (by show (73 : Nat) < 120; decide) _ (by decide +kernel) (by decide)
          obtain ⟨_, _, _, f28, _⟩ := hd 28 (by decide)
          replace f28 : x 28 = .agg #[.int .u8 2, .int .i64 0, .string ⟨#[]⟩] := f28
          rw [f28] at e73
          clear hA hd
          refine wpOp_step rfl (fun K' hK' => ?_)
          go_simp
          refine (HC2.out W).mono ?_
          rintro e w6 ⟨rfl, hb6⟩
          exact hK' _ _ (hK _ _ ⟨0, 0, 0, rfl, al0⟩ hb6 no_al)
        · generalize hA : putsA _ _ x (0 :: 1 :: 2 :: 3 :: 4 :: 5 :: 6 :: 7 :: 8 :: 9 :: 10 :: 11 :: 12 :: 13 :: 14 :: 15 :: 16 :: 17 :: 18 :: 19 :: 20 :: 21 :: 22 :: 23 :: 24 :: 25 :: 26 :: 27 :: 28 :: 29 :: 30 :: 31 :: 32 :: 33 :: 34 :: 35 :: 36 :: 37 :: 38 :: 39 :: 40 :: 41 :: 42 :: 43 :: 44 :: 45 :: 46 :: 47 :: 48 :: 49 :: 50 :: 51 :: 52 :: 53 :: 54 :: 55 :: 56 :: 57 :: 58 :: 59 :: 60 :: 61 :: 62 :: 63 :: 64 :: 65 :: 66 :: 67 :: 68 :: 69 :: 70 :: 71 :: 72 :: 73 :: 74 :: 75 :: []) = A at *
          have e71 : A.tmps[71]? = some (x 26) := by rw [← hA]; exact putsA_in (i := 26) 71 (by rfl) (by show (71 : Nat) < 120; decide) _ (by decide +kernel) (by decide)
          obtain ⟨_, _, _, f26, _⟩ := hd 26 (by decide)
          replace f26 : x 26 = .bool true := f26
          rw [f26] at e71
          have e74 : A.tmps[74]? = some (x 29) := by rw [← hA]; exact putsA_in (i := 29) 74 (by rfl) (by show (74 : Nat) < 120; decide) _ (by decide +kernel) (by decide)
          obtain ⟨_, _, _, f29, _⟩ := hd 29 (by decide)
          replace f29 : x 29 = .int .i64 (-1) := f29
          rw [f29] at e74
          clear hA hd
          refine wpOp_step rfl (fun K' hK' => ?_)
          go_simp
          exact hK' _ _ (hK _ _ ⟨0, 0, 0, rfl, al0⟩ (Below.refl _ _) no_al)
        · generalize hA : putsA _ _ x (0 :: 1 :: 2 :: 3 :: 4 :: 5 :: 6 :: 7 :: 8 :: 9 :: 10 :: 11 :: 12 :: 13 :: 14 :: 15 :: 16 :: 17 :: 18 :: 19 :: 20 :: 21 :: 22 :: 23 :: 24 :: 25 :: 26 :: 27 :: 28 :: 29 :: 30 :: 31 :: 32 :: 33 :: 34 :: 35 :: 36 :: 37 :: 38 :: 39 :: 40 :: 41 :: 42 :: 43 :: 44 :: 45 :: 46 :: 47 :: 48 :: 49 :: 50 :: 51 :: 52 :: 53 :: 54 :: 55 :: 56 :: 57 :: 58 :: 59 :: 60 :: 61 :: 62 :: 63 :: 64 :: 65 :: 66 :: 67 :: 68 :: 69 :: 70 :: 71 :: 72 :: 73 :: 74 :: 75 :: []) = A at *
          have e71 : A.tmps[71]? = some (x 26) := by rw [← hA]; exact putsA_in (i := 26) 71 (by rfl) (by show (71 : Nat) < 120; decide) _ (by decide +kernel) (by decide)
          obtain ⟨_, _, _, f26, _⟩ := hd 26 (by decide)
          replace f26 : x 26 = .bool true := f26
          rw [f26] at e71
          have e75 : A.tmps[75]? = some (x 30) := by rw [← hA]; exact putsA_in (i := 30) 75 (by rfl) (by show (75 : Nat) < 120; decide) _ (by decide +kernel) (by decide)
          obtain ⟨_, _, _, f30, _⟩ := hd 30 (by decide)
          replace f30 : x 30 = .bool true := f30
          rw [f30] at e75
          clear hA hd
          refine wpOp_step rfl (fun K' hK' => ?_)
          go_simp
          exact hK' _ _ (hK _ _ ⟨0, 0, 0, rfl, al0⟩ (Below.refl _ _) no_al)
        · generalize hA : putsA _ _ x (0 :: 1 :: 2 :: 3 :: 4 :: 5 :: 6 :: 7 :: 8 :: 9 :: 10 :: 11 :: 12 :: 13 :: 14 :: 15 :: 16 :: 17 :: 18 :: 19 :: 20 :: 21 :: 22 :: 23 :: 24 :: 25 :: 26 :: 27 :: 28 :: 29 :: 30 :: 31 :: 32 :: 33 :: 34 :: 35 :: 36 :: 37 :: 38 :: 39 :: 40 :: 41 :: 42 :: 43 :: 44 :: 45 :: 46 :: 47 :: 48 :: 49 :: 50 :: 51 :: 52 :: 53 :: 54 :: 55 :: 56 :: 57 :: 58 :: 59 :: 60 :: 61 :: 62 :: 63 :: 64 :: 65 :: 66 :: 67 :: 68 :: 69 :: 70 :: 71 :: 72 :: 73 :: 74 :: 75 :: []) = A at *
          have e76 : A.tmps[76]? = some (x 31) := by rw [← hA]; exact putsA_in (i := 31) 76 (by rfl) (by show (76 : Nat) < 120; decide) _ (by decide +kernel) (by decide)
          obtain ⟨_, _, _, f31, _⟩ := hd 31 (by decide)
          replace f31 : x 31 = .bool true := f31
          rw [f31] at e76
          clear hA hd
          refine wpOp_step rfl (fun K' hK' => ?_)
          go_simp
          exact hK' _ _ (hK _ _ ⟨0, 0, 0, rfl, al0⟩ (Below.refl _ _) no_al)
        · generalize hA : putsA _ _ x (0 :: 1 :: 2 :: 3 :: 4 :: 5 :: 6 :: 7 :: 8 :: 9 :: 10 :: 11 :: 12 :: 13 :: 14 :: 15 :: 16 :: 17 :: 18 :: 19 :: 20 :: 21 :: 22 :: 23 :: 24 :: 25 :: 26 :: 27 :: 28 :: 29 :: 30 :: 31 :: 32 :: 33 :: 34 :: 35 :: 36 :: 37 :: 38 :: 39 :: 40 :: 41 :: 42 :: 43 :: 44 :: 45 :: 46 :: 47 :: 48 :: 49 :: 50 :: 51 :: 52 :: 53 :: 54 :: 55 :: 56 :: 57 :: 58 :: 59 :: 60 :: 61 :: 62 :: 63 :: 64 :: 65 :: 66 :: 67 :: 68 :: 69 :: 70 :: 71 :: 72 :: 73 :: 74 :: 75 :: []) = A at *
          have e77 : A.tmps[77]? = some (x 32) := by rw [← hA]; exact putsA_in (i := 32) 77 (by rfl) (by show (77 : Nat) < 120; decide) _ (by decide +kernel) (by decide)
          obtain ⟨_, _, _, f32, _⟩ := hd 32 (by decide)
          replace f32 : x 32 = .bool true := f32
          rw [f32] at e77
          clear hA hd
          refine wpOp_step rfl (fun K' hK' => ?_)
          go_simp
          refine (mkText _ W).mono ?_
          rintro e w6 ⟨rfl, hb6⟩
          exact hK' _ _ (hK _ _ ⟨0, 0, 0, rfl, al0⟩ hb6 no_al)
        · generalize hA : putsA _ _ x (0 :: 1 :: 2 :: 3 :: 4 :: 5 :: 6 :: 7 :: 8 :: 9 :: 10 :: 11 :: 12 :: 13 :: 14 :: 15 :: 16 :: 17 :: 18 :: 19 :: 20 :: 21 :: 22 :: 23 :: 24 :: 25 :: 26 :: 27 :: 28 :: 29 :: 30 :: 31 :: 32 :: 33 :: 34 :: 35 :: 36 :: 37 :: 38 :: 39 :: 40 :: 41 :: 42 :: 43 :: 44 :: 45 :: 46 :: 47 :: 48 :: 49 :: 50 :: 51 :: 52 :: 53 :: 54 :: 55 :: 56 :: 57 :: 58 :: 59 :: 60 :: 61 :: 62 :: 63 :: 64 :: 65 :: 66 :: 67 :: 68 :: 69 :: 70 :: 71 :: 72 :: 73 :: 74 :: 75 :: []) = A at *
          have e77 : A.tmps[77]? = some (x 32) := by rw [← hA]; exact putsA_in (i := 32) 77 (by rfl) (by show (77 : Nat) < 120; decide) _ (by decide +kernel) (by decide)
          obtain ⟨_, _, _, f32, _⟩ := hd 32 (by decide)
          replace f32 : x 32 = .bool true := f32
          rw [f32] at e77
          clear hA hd
          refine wpOp_step rfl (fun K' hK' => ?_)
          go_simp
          refine (mkText _ W).mono ?_
          rintro e w6 ⟨rfl, hb6⟩
          exact hK' _ _ (hK _ _ ⟨0, 0, 0, rfl, al0⟩ hb6 no_al)
        · generalize hA : putsA _ _ x (0 :: 1 :: 2 :: 3 :: 4 :: 5 :: 6 :: 7 :: 8 :: 9 :: 10 :: 11 :: 12 :: 13 :: 14 :: 15 :: 16 :: 17 :: 18 :: 19 :: 20 :: 21 :: 22 :: 23 :: 24 :: 25 :: 26 :: 27 :: 28 :: 29 :: 30 :: 31 :: 32 :: 33 :: 34 :: 35 :: 36 :: 37 :: 38 :: 39 :: 40 :: 41 :: 42 :: 43 :: 44 :: 45 :: 46 :: 47 :: 48 :: 49 :: 50 :: 51 :: 52 :: 53 :: 54 :: 55 :: 56 :: 57 :: 58 :: 59 :: 60 :: 61 :: 62 :: 63 :: 64 :: 65 :: 66 :: 67 :: 68 :: 69 :: 70 :: 71 :: 72 :: 73 :: 74 :: 75 :: []) = A at *
          have e77 : A.tmps[77]? = some (x 32) := by rw [← hA]; exact putsA_in (i := 32) 77 (by rfl) (by show (77 : Nat) < 120; decide) _ (by decide +kernel) (by decide)
          obtain ⟨_, _, _, f32, _⟩ := hd 32 (by decide)
          replace f32 : x 32 = .bool true := f32
          rw [f32] at e77
          have e78 : A.tmps[78]? = some (x 33) := by rw [← hA]; exact putsA_in (i := 33) 78 (by rfl) (by show (78 : Nat) < 120; decide) _ (by decide +kernel) (by decide)
          obtain ⟨_, _, _, f33, _⟩ := hd 33 (by decide)
          replace f33 : x 33 = .agg #[.int .u8 2, .int .i64 0, .string ⟨#[98]⟩] := f33
          rw [f33] at e78
          have e79 : A.tmps[79]? = some (x 34) := by rw [← hA]; exact putsA_in (i := 34) 79 (by rfl) (by show (79 : Nat) < 120; decide) _ (by decide +kernel) (by decide)
          obtain ⟨_, _, _, f34, _⟩ := hd 34 (by decide)
          replace f34 : x 34 = .agg #[.int .u8 2, .int .i64 0, .string ⟨#[97]⟩] := f34
          rw [f34] at e79
          clear hA hd
          refine wpOp_step rfl (fun K' hK' => ?_)
          go_simp
          refine (HC3.out W).mono ?_
          rintro e w6 ⟨rfl, hb6⟩
          exact hK' _ _ (hK _ _ ⟨0, 0, 0, rfl, al0⟩ hb6 no_al)
        · generalize hA : putsA _ _ x (0 :: 1 :: 2 :: 3 :: 4 :: 5 :: 6 :: 7 :: 8 :: 9 :: 10 :: 11 :: 12 :: 13 :: 14 :: 15 :: 16 :: 17 :: 18 :: 19 :: 20 :: 21 :: 22 :: 23 :: 24 :: 25 :: 26 :: 27 :: 28 :: 29 :: 30 :: 31 :: 32 :: 33 :: 34 :: 35 :: 36 :: 37 :: 38 :: 39 :: 40 :: 41 :: 42 :: 43 :: 44 :: 45 :: 46 :: 47 :: 48 :: 49 :: 50 :: 51 :: 52 :: 53 :: 54 :: 55 :: 56 :: 57 :: 58 :: 59 :: 60 :: 61 :: 62 :: 63 :: 64 :: 65 :: 66 :: 67 :: 68 :: 69 :: 70 :: 71 :: 72 :: 73 :: 74 :: 75 :: []) = A at *
          have e77 : A.tmps[77]? = some (x 32) := by rw [← hA]; exact putsA_in (i := 32) 77 (by rfl) (by show (77 : Nat) < 120; decide) _ (by decide +kernel) (by decide)
          obtain ⟨_, _, _, f32, _⟩ := hd 32 (by decide)
          replace f32 : x 32 = .bool true := f32
          rw [f32] at e77
          have e80 : A.tmps[80]? = some (x 35) := by rw [← hA]; exact putsA_in (i := 35) 80 (by rfl) (by show (80 : Nat) < 120; decide) _ (by decide +kernel) (by decide)
          obtain ⟨_, _, _, f35, _⟩ := hd 35 (by decide)
          replace f35 : x 35 = .int .i64 1 := f35
          rw [f35] at e80
          clear hA hd
          refine wpOp_step rfl (fun K' hK' => ?_)
          go_simp
          exact hK' _ _ (hK _ _ ⟨0, 0, 0, rfl, al0⟩ (Below.refl _ _) no_al)
        · generalize hA : putsA _ _ x (0 :: 1 :: 2 :: 3 :: 4 :: 5 :: 6 :: 7 :: 8 :: 9 :: 10 :: 11 :: 12 :: 13 :: 14 :: 15 :: 16 :: 17 :: 18 :: 19 :: 20 :: 21 :: 22 :: 23 :: 24 :: 25 :: 26 :: 27 :: 28 :: 29 :: 30 :: 31 :: 32 :: 33 :: 34 :: 35 :: 36 :: 37 :: 38 :: 39 :: 40 :: 41 :: 42 :: 43 :: 44 :: 45 :: 46 :: 47 :: 48 :: 49 :: 50 :: 51 :: 52 :: 53 :: 54 :: 55 :: 56 :: 57 :: 58 :: 59 :: 60 :: 61 :: 62 :: 63 :: 64 :: 65 :: 66 :: 67 :: 68 :: 69 :: 70 :: 71 :: 72 :: 73 :: 74 :: 75 :: []) = A at *
          have e77 : A.tmps[77]? = some (x 32) := by rw [← hA]; exact putsA_in (i := 32) 77 (by rfl) (by show (77 : Nat) < 120; decide) _ (by decide +kernel) (by decide)
          obtain ⟨_, _, _, f32, _⟩ := hd 32 (by decide)
          replace f32 : x 32 = .bool true := f32
          rw [f32] at e77
          have e81 : A.tmps[81]? = some (x 36) := by rw [← hA]; exact putsA_in (i := 36) 81 (by rfl) (by show (81 : Nat) < 120; decide) _ (by decide +kernel) (by decide)
          obtain ⟨_, _, _, f36, _⟩ := hd 36 (by decide)
          replace f36 : x 36 = .bool true := f36
          rw [f36] at e81
          clear hA hd
          refine wpOp_step rfl (fun K' hK' => ?_)
          go_simp
          exact hK' _ _ (hK _ _ ⟨0, 0, 0, rfl, al0⟩ (Below.refl _ _) no_al)
        · generalize hA : putsA _ _ x (0 :: 1 :: 2 :: 3 :: 4 :: 5 :: 6 :: 7 :: 8 :: 9 :: 10 :: 11 :: 12 :: 13 :: 14 :: 15 :: 16 :: 17 :: 18 :: 19 :: 20 :: 21 :: 22 :: 23 :: 24 :: 25 :: 26 :: 27 :: 28 :: 29 :: 30 :: 31 :: 32 :: 33 :: 34 :: 35 :: 36 :: 37 :: 38 :: 39 :: 40 :: 41 :: 42 :: 43 :: 44 :: 45 :: 46 :: 47 :: 48 :: 49 :: 50 :: 51 :: 52 :: 53 :: 54 :: 55 :: 56 :: 57 :: 58 :: 59 :: 60 :: 61 :: 62 :: 63 :: 64 :: 65 :: 66 :: 67 :: 68 :: 69 :: 70 :: 71 :: 72 :: 73 :: 74 :: 75 :: []) = A at *
          have e82 : A.tmps[82]? = some (x 37) := by rw [← hA]; exact putsA_in (i := 37) 82 (by rfl) (by show (82 : Nat) < 120; decide) _ (by decide +kernel) (by decide)
          obtain ⟨_, _, _, f37, _⟩ := hd 37 (by decide)
          replace f37 : x 37 = .bool true := f37
          rw [f37] at e82
          clear hA hd
          refine wpOp_step rfl (fun K' hK' => ?_)
          go_simp
          exact hK' _ _ (hK _ _ ⟨0, 0, 0, rfl, al0⟩ (Below.refl _ _) no_al)
        · generalize hA : putsA _ _ x (0 :: 1 :: 2 :: 3 :: 4 :: 5 :: 6 :: 7 :: 8 :: 9 :: 10 :: 11 :: 12 :: 13 :: 14 :: 15 :: 16 :: 17 :: 18 :: 19 :: 20 :: 21 :: 22 :: 23 :: 24 :: 25 :: 26 :: 27 :: 28 :: 29 :: 30 :: 31 :: 32 :: 33 :: 34 :: 35 :: 36 :: 37 :: 38 :: 39 :: 40 :: 41 :: 42 :: 43 :: 44 :: 45 :: 46 :: 47 :: 48 :: 49 :: 50 :: 51 :: 52 :: 53 :: 54 :: 55 :: 56 :: 57 :: 58 :: 59 :: 60 :: 61 :: 62 :: 63 :: 64 :: 65 :: 66 :: 67 :: 68 :: 69 :: 70 :: 71 :: 72 :: 73 :: 74 :: 75 :: []) = A at *
          have e83 : A.tmps[83]? = some (x 38) := by rw [← hA]; exact putsA_in (i := 38) 83 (by rfl) (by show (83 : Nat) < 120; decide) _ (by decide +kernel) (by decide)
          obtain ⟨_, _, _, f38, _⟩ := hd 38 (by decide)
          replace f38 : x 38 = .bool true := f38
          rw [f38] at e83
          clear hA hd
          refine wpOp_step rfl (fun K' hK' => ?_)
          go_simp
          refine (mkNumber _ W).mono ?_
          rintro e w6 ⟨rfl, hb6⟩
          exact hK' _ _ (hK _ _ ⟨0, 0, 0, rfl, al0⟩ hb6 no_al)
        · generalize hA : putsA _ _ x (0 :: 1 :: 2 :: 3 :: 4 :: 5 :: 6 :: 7 :: 8 :: 9 :: 10 :: 11 :: 12 :: 13 :: 14 :: 15 :: 16 :: 17 :: 18 :: 19 :: 20 :: 21 :: 22 :: 23 :: 24 :: 25 :: 26 :: 27 :: 28 :: 29 :: 30 :: 31 :: 32 :: 33 :: 34 :: 35 :: 36 :: 37 :: 38 :: 39 :: 40 :: 41 :: 42 :: 43 :: 44 :: 45 :: 46 :: 47 :: 48 :: 49 :: 50 :: 51 :: 52 :: 53 :: 54 :: 55 :: 56 :: 57 :: 58 :: 59 :: 60 :: 61 :: 62 :: 63 :: 64 :: 65 :: 66 :: 67 :: 68 :: 69 :: 70 :: 71 :: 72 :: 73 :: 74 :: 75 :: []) = A at *
          have e83 : A.tmps[83]? = some (x 38) := by rw [← hA]; exact putsA_in (i := 38) 83 (by rfl) (by show (83 : Nat) < 120; decide) _ (by decide +kernel) (by decide)
          obtain ⟨_, _, _, f38, _⟩ := hd 38 (by decide)
          replace f38 : x 38 = .bool true := f38
          rw [f38] at e83
          clear hA hd
          refine wpOp_step rfl (fun K' hK' => ?_)
          go_simp
          refine (mkNumber _ W).mono ?_
          rintro e w6 ⟨rfl, hb6⟩
          exact hK' _ _ (hK _ _ ⟨0, 0, 0, rfl, al0⟩ hb6 no_al)
        · generalize hA : putsA _ _ x (0 :: 1 :: 2 :: 3 :: 4 :: 5 :: 6 :: 7 :: 8 :: 9 :: 10 :: 11 :: 12 :: 13 :: 14 :: 15 :: 16 :: 17 :: 18 :: 19 :: 20 :: 21 :: 22 :: 23 :: 24 :: 25 :: 26 :: 27 :: 28 :: 29 :: 30 :: 31 :: 32 :: 33 :: 34 :: 35 :: 36 :: 37 :: 38 :: 39 :: 40 :: 41 :: 42 :: 43 :: 44 :: 45 :: 46 :: 47 :: 48 :: 49 :: 50 :: 51 :: 52 :: 53 :: 54 :: 55 :: 56 :: 57 :: 58 :: 59 :: 60 :: 61 :: 62 :: 63 :: 64 :: 65 :: 66 :: 67 :: 68 :: 69 :: 70 :: 71 :: 72 :: 73 :: 74 :: 75 :: []) = A at *
          have e83 : A.tmps[83]? = some (x 38) := by rw [← hA]; exact putsA_in (i := 38) 83 (by rfl) (by show (83 : Nat) < 120; decide) _ (by decide +kernel) (by decide)
          obtain ⟨_, _, _, f38, _⟩ := hd 38 (by decide)
          replace f38 : x 38 = .bool true := f38
          rw [f38] at e83
          have e84 : A.tmps[84]? = some (x 39) := by rw [← hA]; exact putsA_in (i := 39) 84 (by rfl) (by show (84 : Nat) < 120; decide) _ (by decide +kernel) (by decide)
          obtain ⟨_, _, _, f39, _⟩ := hd 39 (by decide)
          replace f39 : x 39 = .agg #[.int .u8 1, .int .i64 1, .string ⟨#[]⟩] := f39
          rw [f39] at e84
          have e85 : A.tmps[85]? = some (x 40) := by rw [← hA]; exact putsA_in (i := 40) 85 (by rfl) (by show (85 : Nat) < 120; decide) _ (by decide +kernel) (by decide)
          obtain ⟨_, _, _, f40, _⟩ := hd 40 (by decide)
          replace f40 : x 40 = .agg #[.int .u8 1, .int .i64 2, .string ⟨#[]⟩] := f40
          rw [f40] at e85
          clear hA hd
          refine wpOp_step rfl (fun K' hK' => ?_)
          go_simp
          exact hK' _ _ (hK _ _ ⟨W.heap.size, 0, 0, rfl, al1 (Blk.new _ _ _)⟩ bs_one no_al)
        · generalize hA : putsA _ _ x (0 :: 1 :: 2 :: 3 :: 4 :: 5 :: 6 :: 7 :: 8 :: 9 :: 10 :: 11 :: 12 :: 13 :: 14 :: 15 :: 16 :: 17 :: 18 :: 19 :: 20 :: 21 :: 22 :: 23 :: 24 :: 25 :: 26 :: 27 :: 28 :: 29 :: 30 :: 31 :: 32 :: 33 :: 34 :: 35 :: 36 :: 37 :: 38 :: 39 :: 40 :: 41 :: 42 :: 43 :: 44 :: 45 :: 46 :: 47 :: 48 :: 49 :: 50 :: 51 :: 52 :: 53 :: 54 :: 55 :: 56 :: 57 :: 58 :: 59 :: 60 :: 61 :: 62 :: 63 :: 64 :: 65 :: 66 :: 67 :: 68 :: 69 :: 70 :: 71 :: 72 :: 73 :: 74 :: 75 :: []) = A at *
          have e83 : A.tmps[83]? = some (x 38) := by rw [← hA]; exact putsA_in (i := 38) 83 (by rfl) (by show (83 : Nat) < 120; decide) _ (by decide +kernel) (by decide)
          obtain ⟨_, _, _, f38, _⟩ := hd 38 (by decide)
          replace f38 : x 38 = .bool true := f38
          rw [f38] at e83
          clear hA hd
          refine wpOp_step rfl (fun K' hK' => ?_)
          go_simp
          refine (mkNumber _ W).mono ?_
          rintro e w6 ⟨rfl, hb6⟩
          exact hK' _ _ (hK _ _ ⟨0, 0, 0, rfl, al0⟩ hb6 no_al)
        · generalize hA : putsA _ _ x (0 :: 1 :: 2 :: 3 :: 4 :: 5 :: 6 :: 7 :: 8 :: 9 :: 10 :: 11 :: 12 :: 13 :: 14 :: 15 :: 16 :: 17 :: 18 :: 19 :: 20 :: 21 :: 22 :: 23 :: 24 :: 25 :: 26 :: 27 :: 28 :: 29 :: 30 :: 31 :: 32 :: 33 :: 34 :: 35 :: 36 :: 37 :: 38 :: 39 :: 40 :: 41 :: 42 :: 43 :: 44 :: 45 :: 46 :: 47 :: 48 :: 49 :: 50 :: 51 :: 52 :: 53 :: 54 :: 55 :: 56 :: 57 :: 58 :: 59 :: 60 :: 61 :: 62 :: 63 :: 64 :: 65 :: 66 :: 67 :: 68 :: 69 :: 70 :: 71 :: 72 :: 73 :: 74 :: 75 :: []) = A at *
          have e83 : A.tmps[83]? = some (x 38) := by rw [← hA]; exact putsA_in (i := 38) 83 (by rfl) (by show (83 : Nat) < 120; decide) _ (by decide +kernel) (by decide)
          obtain ⟨_, _, _, f38, _⟩ := hd 38 (by decide)
          replace f38 : x 38 = .bool true := f38
          rw [f38] at e83
          have e87 : A.tmps[87]? = some (x 42) := by rw [← hA]; exact putsA_in (i := 42) 87 (by rfl) (by show (87 : Nat) < 120; decide) _ (by decide +kernel) (by decide)
          obtain ⟨_, _, _, f42, _⟩ := hd 42 (by decide)
          replace f42 : x 42 = .agg #[.int .u8 1, .int .i64 1, .string ⟨#[]⟩] := f42
          rw [f42] at e87
          clear hA hd
          refine wpOp_step rfl (fun K' hK' => ?_)
          go_simp
          exact hK' _ _ (hK _ _ ⟨W.heap.size, 0, 0, rfl, al1 (Blk.new _ _ _)⟩ bs_one no_al)
        · generalize hA : putsA _ _ x (0 :: 1 :: 2 :: 3 :: 4 :: 5 :: 6 :: 7 :: 8 :: 9 :: 10 :: 11 :: 12 :: 13 :: 14 :: 15 :: 16 :: 17 :: 18 :: 19 :: 20 :: 21 :: 22 :: 23 :: 24 :: 25 :: 26 :: 27 :: 28 :: 29 :: 30 :: 31 :: 32 :: 33 :: 34 :: 35 :: 36 :: 37 :: 38 :: 39 :: 40 :: 41 :: 42 :: 43 :: 44 :: 45 :: 46 :: 47 :: 48 :: 49 :: 50 :: 51 :: 52 :: 53 :: 54 :: 55 :: 56 :: 57 :: 58 :: 59 :: 60 :: 61 :: 62 :: 63 :: 64 :: 65 :: 66 :: 67 :: 68 :: 69 :: 70 :: 71 :: 72 :: 73 :: 74 :: 75 :: []) = A at *
          have e83 : A.tmps[83]? = some (x 38) := by rw [← hA]; exact putsA_in (i := 38) 83 (by rfl) (by show (83 : Nat) < 120; decide) _ (by decide +kernel) (by decide)
          obtain ⟨_, _, _, f38, _⟩ := hd 38 (by decide)
          replace f38 : x 38 = .bool true := f38
          rw [f38] at e83
          have e86 : A.tmps[86]? = some (x 41) := by rw [← hA]; exact putsA_in (i := 41) 86 (by rfl) (by show (86 : Nat) < 120; decide) _ (by decide +kernel) (by decide)
          obtain ⟨k41, ka41, kb41, f41, hb41⟩ := hd 41 (by decide)
          replace f41 : x 41 = .slice (some ⟨k41, 0, none⟩) 2 2 := f41
          rw [f41] at e86
          have e88 : A.tmps[88]? = some (x 43) := by rw [← hA]; exact putsA_in (i := 43) 88 (by rfl) (by show (88 : Nat) < 120; decide) _ (by decide +kernel) (by decide)
          obtain ⟨k43, ka43, kb43, f43, hb43⟩ := hd 43 (by decide)
          replace f43 : x 43 = .slice (some ⟨k43, 0, none⟩) 1 1 := f43
          rw [f43] at e88
          clear hA hd
          refine wpOp_step rfl (fun K' hK' => ?_)
          go_simp
          refine (HR1.out k41 k43 W (hb41 _ (.head _)) (hb43 _ (.head _))).mono ?_
          rintro e w6 ⟨rfl, hb6⟩
          exact hK' _ _ (hK _ _ ⟨0, 0, 0, rfl, al0⟩ hb6 no_al)
        · generalize hA : putsA _ _ x (0 :: 1 :: 2 :: 3 :: 4 :: 5 :: 6 :: 7 :: 8 :: 9 :: 10 :: 11 :: 12 :: 13 :: 14 :: 15 :: 16 :: 17 :: 18 :: 19 :: 20 :: 21 :: 22 :: 23 :: 24 :: 25 :: 26 :: 27 :: 28 :: 29 :: 30 :: 31 :: 32 :: 33 :: 34 :: 35 :: 36 :: 37 :: 38 :: 39 :: 40 :: 41 :: 42 :: 43 :: 44 :: 45 :: 46 :: 47 :: 48 :: 49 :: 50 :: 51 :: 52 :: 53 :: 54 :: 55 :: 56 :: 57 :: 58 :: 59 :: 60 :: 61 :: 62 :: 63 :: 64 :: 65 :: 66 :: 67 :: 68 :: 69 :: 70 :: 71 :: 72 :: 73 :: 74 :: 75 :: []) = A at *
          have e83 : A.tmps[83]? = some (x 38) := by rw [← hA]; exact putsA_in (i := 38) 83 (by rfl) (by show (83 : Nat) < 120; decide) _ (by decide +kernel) (by decide)
          obtain ⟨_, _, _, f38, _⟩ := hd 38 (by decide)
          replace f38 : x 38 = .bool true := f38
          rw [f38] at e83
          have e89 : A.tmps[89]? = some (x 44) := by rw [← hA]; exact putsA_in (i := 44) 89 (by rfl) (by show (89 : Nat) < 120; decide) _ (by decide +kernel) (by decide)
          obtain ⟨_, _, _, f44, _⟩ := hd 44 (by decide)
          replace f44 : x 44 = .int .i64 1 := f44
          rw [f44] at e89
          clear hA hd
          refine wpOp_step rfl (fun K' hK' => ?_)
          go_simp
          exact hK' _ _ (hK _ _ ⟨0, 0, 0, rfl, al0⟩ (Below.refl _ _) no_al)
        · generalize hA : putsA _ _ x (0 :: 1 :: 2 :: 3 :: 4 :: 5 :: 6 :: 7 :: 8 :: 9 :: 10 :: 11 :: 12 :: 13 :: 14 :: 15 :: 16 :: 17 :: 18 :: 19 :: 20 :: 21 :: 22 :: 23 :: 24 :: 25 :: 26 :: 27 :: 28 :: 29 :: 30 :: 31 :: 32 :: 33 :: 34 :: 35 :: 36 :: 37 :: 38 :: 39 :: 40 :: 41 :: 42 :: 43 :: 44 :: 45 :: 46 :: 47 :: 48 :: 49 :: 50 :: 51 :: 52 :: 53 :: 54 :: 55 :: 56 :: 57 :: 58 :: 59 :: 60 :: 61 :: 62 :: 63 :: 64 :: 65 :: 66 :: 67 :: 68 :: 69 :: 70 :: 71 :: 72 :: 73 :: 74 :: 75 :: []) = A at *
          have e83 : A.tmps[83]? = some (x 38) := by rw [← hA]; exact putsA_in (i := 38) 83 (by rfl) (by show (83 : Nat) < 120; decide) _ (by decide +kernel) (by decide)
          obtain ⟨_, _, _, f38, _⟩ := hd 38 (by decide)
          replace f38 : x 38 = .bool true := f38
          rw [f38] at e83
          have e90 : A.tmps[90]? = some (x 45) := by rw [← hA]; exact putsA_in (i := 45) 90 (by rfl) (by show (90 : Nat) < 120; decide) _ (by decide +kernel) (by decide)
          obtain ⟨_, _, _, f45, _⟩ := hd 45 (by decide)
          replace f45 : x 45 = .bool true := f45
          rw [f45] at e90
          clear hA hd
          refine wpOp_step rfl (fun K' hK' => ?_)
          go_simp
          exact hK' _ _ (hK _ _ ⟨0, 0, 0, rfl, al0⟩ (Below.refl _ _) no_al)
        · generalize hA : putsA _ _ x (0 :: 1 :: 2 :: 3 :: 4 :: 5 :: 6 :: 7 :: 8 :: 9 :: 10 :: 11 :: 12 :: 13 :: 14 :: 15 :: 16 :: 17 :: 18 :: 19 :: 20 :: 21 :: 22 :: 23 :: 24 :: 25 :: 26 :: 27 :: 28 :: 29 :: 30 :: 31 :: 32 :: 33 :: 34 :: 35 :: 36 :: 37 :: 38 :: 39 :: 40 :: 41 :: 42 :: 43 :: 44 :: 45 :: 46 :: 47 :: 48 :: 49 :: 50 :: 51 :: 52 :: 53 :: 54 :: 55 :: 56 :: 57 :: 58 :: 59 :: 60 :: 61 :: 62 :: 63 :: 64 :: 65 :: 66 :: 67 :: 68 :: 69 :: 70 :: 71 :: 72 :: 73 :: 74 :: 75 :: []) = A at *
          have e91 : A.tmps[91]? = some (x 46) := by rw [← hA]; exact putsA_in (i := 46) 91 (by rfl) (by show (91 : Nat) < 120; decide) _ (by decide +kernel) (by decide)
          obtain ⟨_, _, _, f46, _⟩ := hd 46 (by decide)
          replace f46 : x 46 = .bool true := f46
          rw [f46] at e91
          clear hA hd
          refine wpOp_step rfl (fun K' hK' => ?_)
          go_simp
          exact hK' _ _ (hK _ _ ⟨0, 0, 0, rfl, al0⟩ (Below.refl _ _) no_al)
        · generalize hA : putsA _ _ x (0 :: 1 :: 2 :: 3 :: 4 :: 5 :: 6 :: 7 :: 8 :: 9 :: 10 :: 11 :: 12 :: 13 :: 14 :: 15 :: 16 :: 17 :: 18 :: 19 :: 20 :: 21 :: 22 :: 23 :: 24 :: 25 :: 26 :: 27 :: 28 :: 29 :: 30 :: 31 :: 32 :: 33 :: 34 :: 35 :: 36 :: 37 :: 38 :: 39 :: 40 :: 41 :: 42 :: 43 :: 44 :: 45 :: 46 :: 47 :: 48 :: 49 :: 50 :: 51 :: 52 :: 53 :: 54 :: 55 :: 56 :: 57 :: 58 :: 59 :: 60 :: 61 :: 62 :: 63 :: 64 :: 65 :: 66 :: 67 :: 68 :: 69 :: 70 :: 71 :: 72 :: 73 :: 74 :: 75 :: []) = A at *
          have e92 : A.tmps[92]? = some (x 47) := by rw [← hA]; exact putsA_in (i := 47) 92 (by rfl) (by show (92 : Nat) < 120; decide) _ (by decide +kernel) (by decide)
          obtain ⟨_, _, _, f47, _⟩ := hd 47 (by decide)
          replace f47 : x 47 = .bool true := f47
          rw [f47] at e92
          clear hA hd
          refine wpOp_step rfl (fun K' hK' => ?_)
          go_simp
          exact hK' _ _ (hK _ _ ⟨0, 0, 0, rfl, al0⟩ (Below.refl _ _) no_al)
        · generalize hA : putsA _ _ x (0 :: 1 :: 2 :: 3 :: 4 :: 5 :: 6 :: 7 :: 8 :: 9 :: 10 :: 11 :: 12 :: 13 :: 14 :: 15 :: 16 :: 17 :: 18 :: 19 :: 20 :: 21 :: 22 :: 23 :: 24 :: 25 :: 26 :: 27 :: 28 :: 29 :: 30 :: 31 :: 32 :: 33 :: 34 :: 35 :: 36 :: 37 :: 38 :: 39 :: 40 :: 41 :: 42 :: 43 :: 44 :: 45 :: 46 :: 47 :: 48 :: 49 :: 50 :: 51 :: 52 :: 53 :: 54 :: 55 :: 56 :: 57 :: 58 :: 59 :: 60 :: 61 :: 62 :: 63 :: 64 :: 65 :: 66 :: 67 :: 68 :: 69 :: 70 :: 71 :: 72 :: 73 :: 74 :: 75 :: []) = A at *
          have e92 : A.tmps[92]? = some (x 47) := by rw [← hA]; exact putsA_in (i := 47) 92 (by rfl) (by show (92 : Nat) < 120; decide) _ (by decide +kernel) (by decide)
          obtain ⟨_, _, _, f47, _⟩ := hd 47 (by decide)
          replace f47 : x 47 = .bool true := f47
          rw [f47] at e92
          have e93 : A.tmps[93]? = some (x 48) := by rw [← hA]; exact putsA_in (i := 48) 93 (by rfl) (by show (93 : Nat) < 120; decide) _ (by decide +kernel) (by decide)
          obtain ⟨_, _, _, f48, _⟩ := hd 48 (by decide)
          replace f48 : x 48 = .agg #[.int .u8 0, .int .i64 0, .string ⟨#[]⟩] := f48
          rw [f48] at e93
          clear hA hd
          refine wpOp_step rfl (fun K' hK' => ?_)
          go_simp
          exact hK' _ _ (hK _ _ ⟨W.heap.size, 0, 0, rfl, al1 (Blk.new _ _ _)⟩ bs_one no_al)
        · generalize hA : putsA _ _ x (0 :: 1 :: 2 :: 3 :: 4 :: 5 :: 6 :: 7 :: 8 :: 9 :: 10 :: 11 :: 12 :: 13 :: 14 :: 15 :: 16 :: 17 :: 18 :: 19 :: 20 :: 21 :: 22 :: 23 :: 24 :: 25 :: 26 :: 27 :: 28 :: 29 :: 30 :: 31 :: 32 :: 33 :: 34 :: 35 :: 36 :: 37 :: 38 :: 39 :: 40 :: 41 :: 42 :: 43 :: 44 :: 45 :: 46 :: 47 :: 48 :: 49 :: 50 :: 51 :: 52 :: 53 :: 54 :: 55 :: 56 :: 57 :: 58 :: 59 :: 60 :: 61 :: 62 :: 63 :: 64 :: 65 :: 66 :: 67 :: 68 :: 69 :: 70 :: 71 :: 72 :: 73 :: 74 :: 75 :: []) = A at *
          have e92 : A.tmps[92]? = some (x 47) := by rw [← hA]; exact putsA_in (i := 47) 92 (by rfl) (by show (92 : Nat) < 120; decide) _ (by decide +kernel) (by decide)
          obtain ⟨_, _, _, f47, _⟩ := hd 47 (by decide)
          replace f47 : x 47 = .bool true := f47
          rw [f47] at e92
          clear hA hd
          refine wpOp_step rfl (fun K' hK' => ?_)
          go_simp
          exact hK' _ _ (hK _ _ ⟨0, 0, 0, rfl, al0⟩ (Below.refl _ _) no_al)
        · generalize hA : putsA _ _ x (0 :: 1 :: 2 :: 3 :: 4 :: 5 :: 6 :: 7 :: 8 :: 9 :: 10 :: 11 :: 12 :: 13 :: 14 :: 15 :: 16 :: 17 :: 18 :: 19 :: 20 :: 21 :: 22 :: 23 :: 24 :: 25 :: 26 :: 27 :: 28 :: 29 :: 30 :: 31 :: 32 :: 33 :: 34 :: 35 :: 36 :: 37 :: 38 :: 39 :: 40 :: 41 :: 42 :: 43 :: 44 :: 45 :: 46 :: 47 :: 48 :: 49 :: 50 :: 51 :: 52 :: 53 :: 54 :: 55 :: 56 :: 57 :: 58 :: 59 :: 60 :: 61 :: 62 :: 63 :: 64 :: 65 :: 66 :: 67 :: 68 :: 69 :: 70 :: 71 :: 72 :: 73 :: 74 :: 75 :: []) = A at *
          have e92 : A.tmps[92]? = some (x 47) := by rw [← hA]; exact putsA_in (i := 47) 92 (by rfl) (by show (92 : Nat) < 120; decide) _ (by decide +kernel) (by decide)
          obtain ⟨_, _, _, f47, _⟩ := hd 47 (by decide)
          replace f47 : x 47 = .bool true := f47
          rw [f47] at e92
          have e95 : A.tmps[95]? = some (x 50) := by rw [← hA]; exact putsA_in (i := 50) 95 (by rfl) (by show (95 : Nat) < 120; decide) _ (by decide +kernel) (by decide)
          obtain ⟨_, _, _, f50, _⟩ := hd 50 (by decide)
          replace f50 : x 50 = .agg #[.int .u8 0, .int .i64 0, .string ⟨#[]⟩] := f50
          rw [f50] at e95
          clear hA hd
          refine wpOp_step rfl (fun K' hK' => ?_)
          go_simp
          exact hK' _ _ (hK _ _ ⟨W.heap.size, 0, 0, rfl, al1 (Blk.new _ _ _)⟩ bs_one no_al)
        · generalize hA : putsA _ _ x (0 :: 1 :: 2 :: 3 :: 4 :: 5 :: 6 :: 7 :: 8 :: 9 :: 10 :: 11 :: 12 :: 13 :: 14 :: 15 :: 16 :: 17 :: 18 :: 19 :: 20 :: 21 :: 22 :: 23 :: 24 :: 25 :: 26 :: 27 :: 28 :: 29 :: 30 :: 31 :: 32 :: 33 :: 34 :: 35 :: 36 :: 37 :: 38 :: 39 :: 40 :: 41 :: 42 :: 43 :: 44 :: 45 :: 46 :: 47 :: 48 :: 49 :: 50 :: 51 :: 52 :: 53 :: 54 :: 55 :: 56 :: 57 :: 58 :: 59 :: 60 :: 61 :: 62 :: 63 :: 64 :: 65 :: 66 :: 67 :: 68 :: 69 :: 70 :: 71 :: 72 :: 73 :: 74 :: 75 :: []) = A at *
          have e92 : A.tmps[92]? = some (x 47) := by rw [← hA]; exact putsA_in (i := 47) 92 (by rfl) (by show (92 : Nat) < 120; decide) _ (by decide +kernel) (by decide)
          obtain ⟨_, _, _, f47, _⟩ := hd 47 (by decide)
          replace f47 : x 47 = .bool true := f47
          rw [f47] at e92
          have e94 : A.tmps[94]? = some (x 49) := by rw [← hA]; exact putsA_in (i := 49) 94 (by rfl) (by show (94 : Nat) < 120; decide) _ (by decide +kernel) (by decide)
          obtain ⟨k49, ka49, kb49, f49, hb49⟩ := hd 49 (by decide)
          replace f49 : x 49 = .slice (some ⟨k49, 0, none⟩) 1 1 := f49
          rw [f49] at e94
          have e96 : A.tmps[96]? = some (x 51) := by rw [← hA]; exact putsA_in (i := 51) 96 (by rfl) (by show (96 : Nat) < 120; decide) _ (by decide +kernel) (by decide)
          obtain ⟨k51, ka51, kb51, f51, hb51⟩ := hd 51 (by decide)
          replace f51 : x 51 = .slice (some ⟨k51, 0, none⟩) 1 1 := f51
          rw [f51] at e96
          clear hA hd
          refine wpOp_step rfl (fun K' hK' => ?_)
          go_simp
          refine (HR2.out k49 k51 W (hb49 _ (.head _)) (hb51 _ (.head _))).mono ?_
          rintro e w6 ⟨rfl, hb6⟩
          exact hK' _ _ (hK _ _ ⟨0, 0, 0, rfl, al0⟩ hb6 no_al)
        · generalize hA : putsA _ _ x (0 :: 1 :: 2 :: 3 :: 4 :: 5 :: 6 :: 7 :: 8 :: 9 :: 10 :: 11 :: 12 :: 13 :: 14 :: 15 :: 16 :: 17 :: 18 :: 19 :: 20 :: 21 :: 22 :: 23 :: 24 :: 25 :: 26 :: 27 :: 28 :: 29 :: 30 :: 31 :: 32 :: 33 :: 34 :: 35 :: 36 :: 37 :: 38 :: 39 :: 40 :: 41 :: 42 :: 43 :: 44 :: 45 :: 46 :: 47 :: 48 :: 49 :: 50 :: 51 :: 52 :: 53 :: 54 :: 55 :: 56 :: 57 :: 58 :: 59 :: 60 :: 61 :: 62 :: 63 :: 64 :: 65 :: 66 :: 67 :: 68 :: 69 :: 70 :: 71 :: 72 :: 73 :: 74 :: 75 :: []) = A at *
          have e92 : A.tmps[92]? = some (x 47) := by rw [← hA]; exact putsA_in (i := 47) 92 (by rfl) (by show (92 : Nat) < 120; decide) _ (by decide +kernel) (by decide)
          obtain ⟨_, _, _, f47, _⟩ := hd 47 (by decide)
          replace f47 : x 47 = .bool true := f47
          rw [f47] at e92
          have e97 : A.tmps[97]? = some (x 52) := by rw [← hA]; exact putsA_in (i := 52) 97 (by rfl) (by show (97 : Nat) < 120; decide) _ (by decide +kernel) (by decide)
          obtain ⟨_, _, _, f52, _⟩ := hd 52 (by decide)
          replace f52 : x 52 = .int .i64 0 := f52
          rw [f52] at e97
          clear hA hd
          refine wpOp_step rfl (fun K' hK' => ?_)
          go_simp
          exact hK' _ _ (hK _ _ ⟨0, 0, 0, rfl, al0⟩ (Below.refl _ _) no_al)
        · generalize hA : putsA _ _ x (0 :: 1 :: 2 :: 3 :: 4 :: 5 :: 6 :: 7 :: 8 :: 9 :: 10 :: 11 :: 12 :: 13 :: 14 :: 15 :: 16 :: 17 :: 18 :: 19 :: 20 :: 21 :: 22 :: 23 :: 24 :: 25 :: 26 :: 27 :: 28 :: 29 :: 30 :: 31 :: 32 :: 33 :: 34 :: 35 :: 36 :: 37 :: 38 :: 39 :: 40 :: 41 :: 42 :: 43 :: 44 :: 45 :: 46 :: 47 :: 48 :: 49 :: 50 :: 51 :: 52 :: 53 :: 54 :: 55 :: 56 :: 57 :: 58 :: 59 :: 60 :: 61 :: 62 :: 63 :: 64 :: 65 :: 66 :: 67 :: 68 :: 69 :: 70 :: 71 :: 72 :: 73 :: 74 :: 75 :: []) = A at *
          have e92 : A.tmps[92]? = some (x 47) := by rw [← hA]; exact putsA_in (i := 47) 92 (by rfl) (by show (92 : Nat) < 120; decide) _ (by decide +kernel) (by decide)
          obtain ⟨_, _, _, f47, _⟩ := hd 47 (by decide)
          replace f47 : x 47 = .bool true := f47
          rw [f47] at e92
          have e98 : A.tmps[98]? = some (x 53) := by rw [← hA]; exact putsA_in (i := 53) 98 (by rfl) (by show (98 : Nat) < 120; decide) _ (by decide +kernel) (by decide)
          obtain ⟨_, _, _, f53, _⟩ := hd 53 (by decide)
          replace f53 : x 53 = .bool true := f53
          rw [f53] at e98
          clear hA hd
          refine wpOp_step rfl (fun K' hK' => ?_)
          go_simp
          exact hK' _ _ (hK _ _ ⟨0, 0, 0, rfl, al0⟩ (Below.refl _ _) no_al)
        · generalize hA : putsA _ _ x (0 :: 1 :: 2 :: 3 :: 4 :: 5 :: 6 :: 7 :: 8 :: 9 :: 10 :: 11 :: 12 :: 13 :: 14 :: 15 :: 16 :: 17 :: 18 :: 19 :: 20 :: 21 :: 22 :: 23 :: 24 :: 25 :: 26 :: 27 :: 28 :: 29 :: 30 :: 31 :: 32 :: 33 :: 34 :: 35 :: 36 :: 37 :: 38 :: 39 :: 40 :: 41 :: 42 :: 43 :: 44 :: 45 :: 46 :: 47 :: 48 :: 49 :: 50 :: 51 :: 52 :: 53 :: 54 :: 55 :: 56 :: 57 :: 58 :: 59 :: 60 :: 61 :: 62 :: 63 :: 64 :: 65 :: 66 :: 67 :: 68 :: 69 :: 70 :: 71 :: 72 :: 73 :: 74 :: 75 :: []) = A at *
          have e99 : A.tmps[99]? = some (x 54) := by rw [← hA]; exact putsA_in (i := 54) 99 (by rfl) (by show (99 : Nat) < 120; decide) _ (by decide +kernel) (by decide)
          obtain ⟨_, _, _, f54, _⟩ := hd 54 (by decide)
          replace f54 : x 54 = .bool true := f54
          rw [f54] at e99
          clear hA hd
          refine wpOp_step rfl (fun K' hK' => ?_)
          go_simp
          exact hK' _ _ (hK _ _ ⟨0, 0, 0, rfl, al0⟩ (Below.refl _ _) no_al)
        · generalize hA : putsA _ _ x (0 :: 1 :: 2 :: 3 :: 4 :: 5 :: 6 :: 7 :: 8 :: 9 :: 10 :: 11 :: 12 :: 13 :: 14 :: 15 :: 16 :: 17 :: 18 :: 19 :: 20 :: 21 :: 22 :: 23 :: 24 :: 25 :: 26 :: 27 :: 28 :: 29 :: 30 :: 31 :: 32 :: 33 :: 34 :: 35 :: 36 :: 37 :: 38 :: 39 :: 40 :: 41 :: 42 :: 43 :: 44 :: 45 :: 46 :: 47 :: 48 :: 49 :: 50 :: 51 :: 52 :: 53 :: 54 :: 55 :: 56 :: 57 :: 58 :: 59 :: 60 :: 61 :: 62 :: 63 :: 64 :: 65 :: 66 :: 67 :: 68 :: 69 :: 70 :: 71 :: 72 :: 73 :: 74 :: 75 :: []) = A at *
          have e100 : A.tmps[100]? = some (x 55) := by rw [← hA]; exact putsA_in (i := 55) 100 (by rfl) (by show (100 : Nat) < 120; decide) _ (by decide +kernel) (by decide)
          obtain ⟨_, _, _, f55, _⟩ := hd 55 (by decide)
          replace f55 : x 55 = .bool true := f55
          rw [f55] at e100
          clear hA hd
          refine wpOp_step rfl (fun K' hK' => ?_)
          go_simp
          refine (mkNumber _ W).mono ?_
          rintro e w6 ⟨rfl, hb6⟩
          exact hK' _ _ (hK _ _ ⟨0, 0, 0, rfl, al0⟩ hb6 no_al)
        · generalize hA : putsA _ _ x (0 :: 1 :: 2 :: 3 :: 4 :: 5 :: 6 :: 7 :: 8 :: 9 :: 10 :: 11 :: 12 :: 13 :: 14 :: 15 :: 16 :: 17 :: 18 :: 19 :: 20 :: 21 :: 22 :: 23 :: 24 :: 25 :: 26 :: 27 :: 28 :: 29 :: 30 :: 31 :: 32 :: 33 :: 34 :: 35 :: 36 :: 37 :: 38 :: 39 :: 40 :: 41 :: 42 :: 43 :: 44 :: 45 :: 46 :: 47 :: 48 :: 49 :: 50 :: 51 :: 52 :: 53 :: 54 :: 55 :: 56 :: 57 :: 58 :: 59 :: 60 :: 61 :: 62 :: 63 :: 64 :: 65 :: 66 :: 67 :: 68 :: 69 :: 70 :: 71 :: 72 :: 73 :: 74 :: 75 :: []) = A at *
          have e100 : A.tmps[100]? = some (x 55) := by rw [← hA]; exact putsA_in (i := 55) 100 (by rfl) (by show (100 : Nat) < 120; decide) _ (by decide +kernel) (by decide)
          obtain ⟨_, _, _, f55, _⟩ := hd 55 (by decide)
          replace f55 : x 55 = .bool true := f55
          rw [f55] at e100
          have e101 : A.tmps[101]? = some (x 56) := by rw [← hA]; exact putsA_in (i := 56) 101 (by rfl) (by show (101 : Nat) < 120; decide) _ (by decide +kernel) (by decide)
          obtain ⟨_, _, _, f56, _⟩ := hd 56 (by decide)
          replace f56 : x 56 = .agg #[.int .u8 1, .int .i64 (-9223372036854775808), .string ⟨#[]⟩] := f56
          rw [f56] at e101
          clear hA hd
          refine wpOp_step rfl (fun K' hK' => ?_)
          go_simp
          refine (HL1.out W hs.2.2).mono ?_
          rintro e w6 ⟨rfl, hb6⟩
          exact hK' _ _ (hK _ _ ⟨0, 0, 0, rfl, al0⟩ hb6 no_al)
        · generalize hA : putsA _ _ x (0 :: 1 :: 2 :: 3 :: 4 :: 5 :: 6 :: 7 :: 8 :: 9 :: 10 :: 11 :: 12 :: 13 :: 14 :: 15 :: 16 :: 17 :: 18 :: 19 :: 20 :: 21 :: 22 :: 23 :: 24 :: 25 :: 26 :: 27 :: 28 :: 29 :: 30 :: 31 :: 32 :: 33 :: 34 :: 35 :: 36 :: 37 :: 38 :: 39 :: 40 :: 41 :: 42 :: 43 :: 44 :: 45 :: 46 :: 47 :: 48 :: 49 :: 50 :: 51 :: 52 :: 53 :: 54 :: 55 :: 56 :: 57 :: 58 :: 59 :: 60 :: 61 :: 62 :: 63 :: 64 :: 65 :: 66 :: 67 :: 68 :: 69 :: 70 :: 71 :: 72 :: 73 :: 74 :: 75 :: []) = A at *
          have e100 : A.tmps[100]? = some (x 55) := by rw [← hA]; exact putsA_in (i := 55) 100 (by rfl) (by show (100 : Nat) < 120; decide) _ (by decide +kernel) (by decide)
          obtain ⟨_, _, _, f55, _⟩ := hd 55 (by decide)
          replace f55 : x 55 = .bool true := f55
          rw [f55] at e100
          have e102 : A.tmps[102]? = some (x 57) := by rw [← hA]; exact putsA_in (i := 57) 102 (by rfl) (by show (102 : Nat) < 120; decide) _ (by decide +kernel) (by decide)
          obtain ⟨_, _, _, f57, _⟩ := hd 57 (by decide)
          replace f57 : x 57 = .string ⟨#[45, 57, 50, 50, 51, 51, 55, 50, 48, 51, 54, 56, 53, 52, 55, 55, 53, 56, 48, 56]⟩ := f57
          rw [f57] at e102
          clear hA hd
          refine wpOp_step rfl (fun K' hK' => ?_)
          go_simp
          exact hK' _ _ (hK _ _ ⟨0, 0, 0, rfl, al0⟩ (Below.refl _ _) no_al)
        · generalize hA : putsA _ _ x (0 :: 1 :: 2 :: 3 :: 4 :: 5 :: 6 :: 7 :: 8 :: 9 :: 10 :: 11 :: 12 :: 13 :: 14 :: 15 :: 16 :: 17 :: 18 :: 19 :: 20 :: 21 :: 22 :: 23 :: 24 :: 25 :: 26 :: 27 :: 28 :: 29 :: 30 :: 31 :: 32 :: 33 :: 34 :: 35 :: 36 :: 37 :: 38 :: 39 :: 40 :: 41 :: 42 :: 43 :: 44 :: 45 :: 46 :: 47 :: 48 :: 49 :: 50 :: 51 :: 52 :: 53 :: 54 :: 55 :: 56 :: 57 :: 58 :: 59 :: 60 :: 61 :: 62 :: 63 :: 64 :: 65 :: 66 :: 67 :: 68 :: 69 :: 70 :: 71 :: 72 :: 73 :: 74 :: 75 :: []) = A at *
          have e100 : A.tmps[100]? = some (x 55) := by rw [← hA]; exact putsA_in (i := 55) 100 (by rfl) (by show (100 : Nat) < 120; decide) _ (by decide +kernel) (by decide)
          obtain ⟨_, _, _, f55, _⟩ := hd 55 (by decide)
          replace f55 : x 55 = .bool true := f55
          rw [f55] at e100
          have e103 : A.tmps[103]? = some (x 58) := by rw [← hA]; exact putsA_in (i := 58) 103 (by rfl) (by show (103 : Nat) < 120; decide) _ (by decide +kernel) (by decide)
          obtain ⟨_, _, _, f58, _⟩ := hd 58 (by decide)
          replace f58 : x 58 = .bool true := f58
          rw [f58] at e103
          clear hA hd
          refine wpOp_step rfl (fun K' hK' => ?_)
          go_simp
          exact hK' _ _ (hK _ _ ⟨0, 0, 0, rfl, al0⟩ (Below.refl _ _) no_al)
        · generalize hA : putsA _ _ x (0 :: 1 :: 2 :: 3 :: 4 :: 5 :: 6 :: 7 :: 8 :: 9 :: 10 :: 11 :: 12 :: 13 :: 14 :: 15 :: 16 :: 17 :: 18 :: 19 :: 20 :: 21 :: 22 :: 23 :: 24 :: 25 :: 26 :: 27 :: 28 :: 29 :: 30 :: 31 :: 32 :: 33 :: 34 :: 35 :: 36 :: 37 :: 38 :: 39 :: 40 :: 41 :: 42 :: 43 :: 44 :: 45 :: 46 :: 47 :: 48 :: 49 :: 50 :: 51 :: 52 :: 53 :: 54 :: 55 :: 56 :: 57 :: 58 :: 59 :: 60 :: 61 :: 62 :: 63 :: 64 :: 65 :: 66 :: 67 :: 68 :: 69 :: 70 :: 71 :: 72 :: 73 :: 74 :: 75 :: []) = A at *
          have e104 : A.tmps[104]? = some (x 59) := by rw [← hA]; exact putsA_in (i := 59) 104 (by rfl) (by show (104 : Nat) < 120; decide) _ (by decide +kernel) (by decide)
          obtain ⟨_, _, _, f59, _⟩ := hd 59 (by decide)
          replace f59 : x 59 = .bool true := f59
          rw [f59] at e104
          clear hA hd
          refine wpOp_step rfl (fun K' hK' => ?_)
          go_simp
          exact hK' _ _ (hK _ _ ⟨0, 0, 0, rfl, al0⟩ (Below.refl _ _) no_al)
        · generalize hA : putsA _ _ x (0 :: 1 :: 2 :: 3 :: 4 :: 5 :: 6 :: 7 :: 8 :: 9 :: 10 :: 11 :: 12 :: 13 :: 14 :: 15 :: 16 :: 17 :: 18 :: 19 :: 20 :: 21 :: 22 :: 23 :: 24 :: 25 :: 26 :: 27 :: 28 :: 29 :: 30 :: 31 :: 32 :: 33 :: 34 :: 35 :: 36 :: 37 :: 38 :: 39 :: 40 :: 41 :: 42 :: 43 :: 44 :: 45 :: 46 :: 47 :: 48 :: 49 :: 50 :: 51 :: 52 :: 53 :: 54 :: 55 :: 56 :: 57 :: 58 :: 59 :: 60 :: 61 :: 62 :: 63 :: 64 :: 65 :: 66 :: 67 :: 68 :: 69 :: 70 :: 71 :: 72 :: 73 :: 74 :: 75 :: []) = A at *
          have e105 : A.tmps[105]? = some (x 60) := by rw [← hA]; exact putsA_in (i := 60) 105 (by rfl) (by show (105 : Nat) < 120; decide) _ (by decide +kernel) (by decide)
          obtain ⟨_, _, _, f60, _⟩ := hd 60 (by decide)
          replace f60 : x 60 = .bool true := f60
          rw [f60] at e105
          clear hA hd
          refine wpOp_step rfl (fun K' hK' => ?_)
          go_simp
          refine (mkText _ W).mono ?_
          rintro e w6 ⟨rfl, hb6⟩
          exact hK' _ _ (hK _ _ ⟨0, 0, 0, rfl, al0⟩ hb6 no_al)
        · generalize hA : putsA _ _ x (0 :: 1 :: 2 :: 3 :: 4 :: 5 :: 6 :: 7 :: 8 :: 9 :: 10 :: 11 :: 12 :: 13 :: 14 :: 15 :: 16 :: 17 :: 18 :: 19 :: 20 :: 21 :: 22 :: 23 :: 24 :: 25 :: 26 :: 27 :: 28 :: 29 :: 30 :: 31 :: 32 :: 33 :: 34 :: 35 :: 36 :: 37 :: 38 :: 39 :: 40 :: 41 :: 42 :: 43 :: 44 :: 45 :: 46 :: 47 :: 48 :: 49 :: 50 :: 51 :: 52 :: 53 :: 54 :: 55 :: 56 :: 57 :: 58 :: 59 :: 60 :: 61 :: 62 :: 63 :: 64 :: 65 :: 66 :: 67 :: 68 :: 69 :: 70 :: 71 :: 72 :: 73 :: 74 :: 75 :: []) = A at *
          have e105 : A.tmps[105]? = some (x 60) := by rw [← hA]; exact putsA_in (i := 60) 105 (by rfl) (by show (105 : Nat) < 120; decide) _ (by decide +kernel) (by decide)
          obtain ⟨_, _, _, f60, _⟩ := hd 60 (by decide)
          replace f60 : x 60 = .bool true := f60
          rw [f60] at e105
          have e106 : A.tmps[106]? = some (x 61) := by rw [← hA]; exact putsA_in (i := 61) 106 (by rfl) (by show (106 : Nat) < 120; decide) _ (by decide +kernel) (by decide)
          obtain ⟨_, _, _, f61, _⟩ := hd 61 (by decide)
          replace f61 : x 61 = .agg #[.int .u8 2, .int .i64 0, .string ⟨#[105, 116, 39, 115]⟩] := f61
          rw [f61] at e106
          clear hA hd
          refine wpOp_step rfl (fun K' hK' => ?_)
          go_simp
          refine (HL2.out W hs.2.2).mono ?_
          rintro e w6 ⟨rfl, hb6⟩
          exact hK' _ _ (hK _ _ ⟨0, 0, 0, rfl, al0⟩ hb6 no_al)
        · generalize hA : putsA _ _ x (0 :: 1 :: 2 :: 3 :: 4 :: 5 :: 6 :: 7 :: 8 :: 9 :: 10 :: 11 :: 12 :: 13 :: 14 :: 15 :: 16 :: 17 :: 18 :: 19 :: 20 :: 21 :: 22 :: 23 :: 24 :: 25 :: 26 :: 27 :: 28 :: 29 :: 30 :: 31 :: 32 :: 33 :: 34 :: 35 :: 36 :: 37 :: 38 :: 39 :: 40 :: 41 :: 42 :: 43 :: 44 :: 45 :: 46 :: 47 :: 48 :: 49 :: 50 :: 51 :: 52 :: 53 :: 54 :: 55 :: 56 :: 57 :: 58 :: 59 :: 60 :: 61 :: 62 :: 63 :: 64 :: 65 :: 66 :: 67 :: 68 :: 69 :: 70 :: 71 :: 72 :: 73 :: 74 :: 75 :: []) = A at *
          have e105 : A.tmps[105]? = some (x 60) := by rw [← hA]; exact putsA_in (i := 60) 105 (by rfl) (by show (105 : Nat) < 120; decide) _ (by decide +kernel) (by decide)
          obtain ⟨_, _, _, f60, _⟩ := hd 60 (by decide)
          replace f60 : x 60 = .bool true := f60
          rw [f60] at e105
          have e107 : A.tmps[107]? = some (x 62) := by rw [← hA]; exact putsA_in (i := 62) 107 (by rfl) (by show (107 : Nat) < 120; decide) _ (by decide +kernel) (by decide)
          obtain ⟨_, _, _, f62, _⟩ := hd 62 (by decide)
          replace f62 : x 62 = .string ⟨#[39, 105, 116, 39, 39, 115, 39]⟩ := f62
          rw [f62] at e107
          clear hA hd
          refine wpOp_step rfl (fun K' hK' => ?_)
          go_simp
          exact hK' _ _ (hK _ _ ⟨0, 0, 0, rfl, al0⟩ (Below.refl _ _) no_al)
        · generalize hA : putsA _ _ x (0 :: 1 :: 2 :: 3 :: 4 :: 5 :: 6 :: 7 :: 8 :: 9 :: 10 :: 11 :: 12 :: 13 :: 14 :: 15 :: 16 :: 17 :: 18 :: 19 :: 20 :: 21 :: 22 :: 23 :: 24 :: 25 :: 26 :: 27 :: 28 :: 29 :: 30 :: 31 :: 32 :: 33 :: 34 :: 35 :: 36 :: 37 :: 38 :: 39 :: 40 :: 41 :: 42 :: 43 :: 44 :: 45 :: 46 :: 47 :: 48 :: 49 :: 50 :: 51 :: 52 :: 53 :: 54 :: 55 :: 56 :: 57 :: 58 :: 59 :: 60 :: 61 :: 62 :: 63 :: 64 :: 65 :: 66 :: 67 :: 68 :: 69 :: 70 :: 71 :: 72 :: 73 :: 74 :: 75 :: []) = A at *
          have e105 : A.tmps[105]? = some (x 60) := by rw [← hA]; exact putsA_in (i := 60) 105 (by rfl) (by show (105 : Nat) < 120; decide) _ (by decide +kernel) (by decide)
          obtain ⟨_, _, _, f60, _⟩ := hd 60 (by decide)
          replace f60 : x 60 = .bool true := f60
          rw [f60] at e105
          have e108 : A.tmps[108]? = some (x 63) := by rw [← hA]; exact putsA_in (i := 63) 108 (by rfl) (by show (108 : Nat) < 120; decide) _ (by decide +kernel) (by decide)
          obtain ⟨_, _, _, f63, _⟩ := hd 63 (by decide)
          replace f63 : x 63 = .bool true := f63
          rw [f63] at e108
          clear hA hd
          refine wpOp_step rfl (fun K' hK' => ?_)
          go_simp
          exact hK' _ _ (hK _ _ ⟨0, 0, 0, rfl, al0⟩ (Below.refl _ _) no_al)
        · generalize hA : putsA _ _ x (0 :: 1 :: 2 :: 3 :: 4 :: 5 :: 6 :: 7 :: 8 :: 9 :: 10 :: 11 :: 12 :: 13 :: 14 :: 15 :: 16 :: 17 :: 18 :: 19 :: 20 :: 21 :: 22 :: 23 :: 24 :: 25 :: 26 :: 27 :: 28 :: 29 :: 30 :: 31 :: 32 :: 33 :: 34 :: 35 :: 36 :: 37 :: 38 :: 39 :: 40 :: 41 :: 42 :: 43 :: 44 :: 45 :: 46 :: 47 :: 48 :: 49 :: 50 :: 51 :: 52 :: 53 :: 54 :: 55 :: 56 :: 57 :: 58 :: 59 :: 60 :: 61 :: 62 :: 63 :: 64 :: 65 :: 66 :: 67 :: 68 :: 69 :: 70 :: 71 :: 72 :: 73 :: 74 :: 75 :: []) = A at *
          have e109 : A.tmps[109]? = some (x 64) := by rw [← hA]; exact putsA_in (i := 64) 109 (by rfl) (by show (109 : Nat) < 120; decide) _ (by decide +kernel) (by decide)
          obtain ⟨_, _, _, f64, _⟩ := hd 64 (by decide)
          replace f64 : x 64 = .bool true := f64
          rw [f64] at e109
          clear hA hd
          refine wpOp_step rfl (fun K' hK' => ?_)
          go_simp
          exact hK' _ _ (hK _ _ ⟨0, 0, 0, rfl, al0⟩ (Below.refl _ _) no_al)
        · generalize hA : putsA _ _ x (0 :: 1 :: 2 :: 3 :: 4 :: 5 :: 6 :: 7 :: 8 :: 9 :: 10 :: 11 :: 12 :: 13 :: 14 :: 15 :: 16 :: 17 :: 18 :: 19 :: 20 :: 21 :: 22 :: 23 :: 24 :: 25 :: 26 :: 27 :: 28 :: 29 :: 30 :: 31 :: 32 :: 33 :: 34 :: 35 :: 36 :: 37 :: 38 :: 39 :: 40 :: 41 :: 42 :: 43 :: 44 :: 45 :: 46 :: 47 :: 48 :: 49 :: 50 :: 51 :: 52 :: 53 :: 54 :: 55 :: 56 :: 57 :: 58 :: 59 :: 60 :: 61 :: 62 :: 63 :: 64 :: 65 :: 66 :: 67 :: 68 :: 69 :: 70 :: 71 :: 72 :: 73 :: 74 :: 75 :: []) = A at *
          have e110 : A.tmps[110]? = some (x 65) := by rw [← hA]; exact putsA_in (i := 65) 110 (by rfl) (by show (110 : Nat) < 120; decide) _ (by decide +kernel) (by decide)
          obtain ⟨_, _, _, f65, _⟩ := hd 65 (by decide)
          replace f65 : x 65 = .bool true := f65
          rw [f65] at e110
          clear hA hd
          refine wpOp_step rfl (fun K' hK' => ?_)
          go_simp
          refine (mkBlob _ W).mono ?_
          rintro e w6 ⟨rfl, hb6⟩
          exact hK' _ _ (hK _ _ ⟨0, 0, 0, rfl, al0⟩ hb6 no_al)
        · generalize hA : putsA _ _ x (0 :: 1 :: 2 :: 3 :: 4 :: 5 :: 6 :: 7 :: 8 :: 9 :: 10 :: 11 :: 12 :: 13 :: 14 :: 15 :: 16 :: 17 :: 18 :: 19 :: 20 :: 21 :: 22 :: 23 :: 24 :: 25 :: 26 :: 27 :: 28 :: 29 :: 30 :: 31 :: 32 :: 33 :: 34 :: 35 :: 36 :: 37 :: 38 :: 39 :: 40 :: 41 :: 42 :: 43 :: 44 :: 45 :: 46 :: 47 :: 48 :: 49 :: 50 :: 51 :: 52 :: 53 :: 54 :: 55 :: 56 :: 57 :: 58 :: 59 :: 60 :: 61 :: 62 :: 63 :: 64 :: 65 :: 66 :: 67 :: 68 :: 69 :: 70 :: 71 :: 72 :: 73 :: 74 :: 75 :: []) = A at *
          have e110 : A.tmps[110]? = some (x 65) := by rw [← hA]; exact putsA_in (i := 65) 110 (by rfl) (by show (110 : Nat) < 120; decide) _ (by decide +kernel) (by decide)
          obtain ⟨_, _, _, f65, _⟩ := hd 65 (by decide)
          replace f65 : x 65 = .bool true := f65
          rw [f65] at e110
          have e111 : A.tmps[111]? = some (x 66) := by rw [← hA]; exact putsA_in (i := 66) 111 (by rfl) (by show (111 : Nat) < 120; decide) _ (by decide +kernel) (by decide)
          obtain ⟨_, _, _, f66, _⟩ := hd 66 (by decide)
          replace f66 : x 66 = .agg #[.int .u8 3, .int .i64 0, .string ⟨#[0, 255]⟩] := f66
          rw [f66] at e111
          clear hA hd
          refine wpOp_step rfl (fun K' hK' => ?_)
          go_simp
          refine (HL3.out W hs.2.2).mono ?_
          rintro e w6 ⟨rfl, hb6⟩
          exact hK' _ _ (hK _ _ ⟨0, 0, 0, rfl, al0⟩ hb6 no_al)
        · generalize hA : putsA _ _ x (0 :: 1 :: 2 :: 3 :: 4 :: 5 :: 6 :: 7 :: 8 :: 9 :: 10 :: 11 :: 12 :: 13 :: 14 :: 15 :: 16 :: 17 :: 18 :: 19 :: 20 :: 21 :: 22 :: 23 :: 24 :: 25 :: 26 :: 27 :: 28 :: 29 :: 30 :: 31 :: 32 :: 33 :: 34 :: 35 :: 36 :: 37 :: 38 :: 39 :: 40 :: 41 :: 42 :: 43 :: 44 :: 45 :: 46 :: 47 :: 48 :: 49 :: 50 :: 51 :: 52 :: 53 :: 54 :: 55 :: 56 :: 57 :: 58 :: 59 :: 60 :: 61 :: 62 :: 63 :: 64 :: 65 :: 66 :: 67 :: 68 :: 69 :: 70 :: 71 :: 72 :: 73 :: 74 :: 75 :: []) = A at *
          have e110 : A.tmps[110]? = some (x 65) := by rw [← hA]; exact putsA_in (i := 65) 110 (by rfl) (by show (110 : Nat) < 120; decide) _ (by decide +kernel) (by decide)
          obtain ⟨_, _, _, f65, _⟩ := hd 65 (by decide)
          replace f65 : x 65 = .bool true := f65
          rw [f65] at e110
          have e112 : A.tmps[112]? = some (x 67) := by rw [← hA]; exact putsA_in (i := 67) 112 (by rfl) (by show (112 : Nat) < 120; decide) _ (by decide +kernel) (by decide)
          obtain ⟨_, _, _, f67, _⟩ := hd 67 (by decide)
          replace f67 : x 67 = .string ⟨#[120, 39, 48, 48, 102, 102, 39]⟩ := f67
          rw [f67] at e112
          clear hA hd
          refine wpOp_step rfl (fun K' hK' => ?_)
          go_simp
          exact hK' _ _ (hK _ _ ⟨0, 0, 0, rfl, al0⟩ (Below.refl _ _) no_al)
        · generalize hA : putsA _ _ x (0 :: 1 :: 2 :: 3 :: 4 :: 5 :: 6 :: 7 :: 8 :: 9 :: 10 :: 11 :: 12 :: 13 :: 14 :: 15 :: 16 :: 17 :: 18 :: 19 :: 20 :: 21 :: 22 :: 23 :: 24 :: 25 :: 26 :: 27 :: 28 :: 29 :: 30 :: 31 :: 32 :: 33 :: 34 :: 35 :: 36 :: 37 :: 38 :: 39 :: 40 :: 41 :: 42 :: 43 :: 44 :: 45 :: 46 :: 47 :: 48 :: 49 :: 50 :: 51 :: 52 :: 53 :: 54 :: 55 :: 56 :: 57 :: 58 :: 59 :: 60 :: 61 :: 62 :: 63 :: 64 :: 65 :: 66 :: 67 :: 68 :: 69 :: 70 :: 71 :: 72 :: 73 :: 74 :: 75 :: []) = A at *
          have e110 : A.tmps[110]? = some (x 65) := by rw [← hA]; exact putsA_in (i := 65) 110 (by rfl) (by show (110 : Nat) < 120; decide) _ (by decide +kernel) (by decide)
          obtain ⟨_, _, _, f65, _⟩ := hd 65 (by decide)
          replace f65 : x 65 = .bool true := f65
          rw [f65] at e110
          have e113 : A.tmps[113]? = some (x 68) := by rw [← hA]; exact putsA_in (i := 68) 113 (by rfl) (by show (113 : Nat) < 120; decide) _ (by decide +kernel) (by decide)
          obtain ⟨_, _, _, f68, _⟩ := hd 68 (by decide)
          replace f68 : x 68 = .bool true := f68
          rw [f68] at e113
          clear hA hd
          refine wpOp_step rfl (fun K' hK' => ?_)
          go_simp
          exact hK' _ _ (hK _ _ ⟨0, 0, 0, rfl, al0⟩ (Below.refl _ _) no_al)
        · generalize hA : putsA _ _ x (0 :: 1 :: 2 :: 3 :: 4 :: 5 :: 6 :: 7 :: 8 :: 9 :: 10 :: 11 :: 12 :: 13 :: 14 :: 15 :: 16 :: 17 :: 18 :: 19 :: 20 :: 21 :: 22 :: 23 :: 24 :: 25 :: 26 :: 27 :: 28 :: 29 :: 30 :: 31 :: 32 :: 33 :: 34 :: 35 :: 36 :: 37 :: 38 :: 39 :: 40 :: 41 :: 42 :: 43 :: 44 :: 45 :: 46 :: 47 :: 48 :: 49 :: 50 :: 51 :: 52 :: 53 :: 54 :: 55 :: 56 :: 57 :: 58 :: 59 :: 60 :: 61 :: 62 :: 63 :: 64 :: 65 :: 66 :: 67 :: 68 :: 69 :: 70 :: 71 :: 72 :: 73 :: 74 :: 75 :: []) = A at *
          have e114 : A.tmps[114]? = some (x 69) := by rw [← hA]; exact putsA_in (i := 69) 114 (by rfl) (by show (114 : Nat) < 120; decide) _ (by decide +kernel) (by decide)
          obtain ⟨_, _, _, f69, _⟩ := hd 69 (by decide)
          replace f69 : x 69 = .bool true := f69
          rw [f69] at e114
          clear hA hd
          refine wpOp_step rfl (fun K' hK' => ?_)
          go_simp
          exact hK' _ _ (hK _ _ ⟨0, 0, 0, rfl, al0⟩ (Below.refl _ _) no_al)
        · generalize hA : putsA _ _ x (0 :: 1 :: 2 :: 3 :: 4 :: 5 :: 6 :: 7 :: 8 :: 9 :: 10 :: 11 :: 12 :: 13 :: 14 :: 15 :: 16 :: 17 :: 18 :: 19 :: 20 :: 21 :: 22 :: 23 :: 24 :: 25 :: 26 :: 27 :: 28 :: 29 :: 30 :: 31 :: 32 :: 33 :: 34 :: 35 :: 36 :: 37 :: 38 :: 39 :: 40 :: 41 :: 42 :: 43 :: 44 :: 45 :: 46 :: 47 :: 48 :: 49 :: 50 :: 51 :: 52 :: 53 :: 54 :: 55 :: 56 :: 57 :: 58 :: 59 :: 60 :: 61 :: 62 :: 63 :: 64 :: 65 :: 66 :: 67 :: 68 :: 69 :: 70 :: 71 :: 72 :: 73 :: 74 :: 75 :: []) = A at *
          have e115 : A.tmps[115]? = some (x 70) := by rw [← hA]; exact putsA_in (i := 70) 115 (by rfl) (by show (115 : Nat) < 120; decide) _ (by decide +kernel) (by decide)
          obtain ⟨_, _, _, f70, _⟩ := hd 70 (by decide)
          replace f70 : x 70 = .bool true := f70
          rw [f70] at e115
          clear hA hd
          refine wpOp_step rfl (fun K' hK' => ?_)
          go_simp
          exact hK' _ _ (hK _ _ ⟨0, 0, 0, rfl, al0⟩ (Below.refl _ _) no_al)
        · generalize hA : putsA _ _ x (0 :: 1 :: 2 :: 3 :: 4 :: 5 :: 6 :: 7 :: 8 :: 9 :: 10 :: 11 :: 12 :: 13 :: 14 :: 15 :: 16 :: 17 :: 18 :: 19 :: 20 :: 21 :: 22 :: 23 :: 24 :: 25 :: 26 :: 27 :: 28 :: 29 :: 30 :: 31 :: 32 :: 33 :: 34 :: 35 :: 36 :: 37 :: 38 :: 39 :: 40 :: 41 :: 42 :: 43 :: 44 :: 45 :: 46 :: 47 :: 48 :: 49 :: 50 :: 51 :: 52 :: 53 :: 54 :: 55 :: 56 :: 57 :: 58 :: 59 :: 60 :: 61 :: 62 :: 63 :: 64 :: 65 :: 66 :: 67 :: 68 :: 69 :: 70 :: 71 :: 72 :: 73 :: 74 :: 75 :: []) = A at *
          have e115 : A.tmps[115]? = some (x 70) := by rw [← hA]; exact putsA_in (i := 70) 115 (by rfl) (by show (115 : Nat) < 120; decide) _ (by decide +kernel) (by decide)
          obtain ⟨_, _, _, f70, _⟩ := hd 70 (by decide)
          replace f70 : x 70 = .bool true := f70
          rw [f70] at e115
          have e116 : A.tmps[116]? = some (x 71) := by rw [← hA]; exact putsA_in (i := 71) 116 (by rfl) (by show (116 : Nat) < 120; decide) _ (by decide +kernel) (by decide)
          obtain ⟨_, _, _, f71, _⟩ := hd 71 (by decide)
          replace f71 : x 71 = .agg #[.int .u8 0, .int .i64 0, .string ⟨#[]⟩] := f71
          rw [f71] at e116
          clear hA hd
          refine wpOp_step rfl (fun K' hK' => ?_)
          go_simp
          refine (HL4.out W hs.2.2).mono ?_
          rintro e w6 ⟨rfl, hb6⟩
          exact hK' _ _ (hK _ _ ⟨0, 0, 0, rfl, al0⟩ hb6 no_al)
        · generalize hA : putsA _ _ x (0 :: 1 :: 2 :: 3 :: 4 :: 5 :: 6 :: 7 :: 8 :: 9 :: 10 :: 11 :: 12 :: 13 :: 14 :: 15 :: 16 :: 17 :: 18 :: 19 :: 20 :: 21 :: 22 :: 23 :: 24 :: 25 :: 26 :: 27 :: 28 :: 29 :: 30 :: 31 :: 32 :: 33 :: 34 :: 35 :: 36 :: 37 :: 38 :: 39 :: 40 :: 41 :: 42 :: 43 :: 44 :: 45 :: 46 :: 47 :: 48 :: 49 :: 50 :: 51 :: 52 :: 53 :: 54 :: 55 :: 56 :: 57 :: 58 :: 59 :: 60 :: 61 :: 62 :: 63 :: 64 :: 65 :: 66 :: 67 :: 68 :: 69 :: 70 :: 71 :: 72 :: 73 :: 74 :: 75 :: []) = A at *
          have e115 : A.tmps[115]? = some (x 70) := by rw [← hA]; exact putsA_in (i := 70) 115 (by rfl) (by show (115 : Nat) < 120; decide) _ (by decide +kernel) (by decide)
          obtain ⟨_, _, _, f70, _⟩ := hd 70 (by decide)
          replace f70 : x 70 = .bool true := f70
          rw [f70] at e115
          have e117 : A.tmps[117]? = some (x 72) := by rw [← hA]; exact putsA_in (i := 72) 117 (by rfl) (by show (117 : Nat) < 120; decide) _ (by decide +kernel) (by decide)
          obtain ⟨_, _, _, f72, _⟩ := hd 72 (by decide)
          replace f72 : x 72 = .string ⟨#[78, 85, 76, 76]⟩ := f72
          rw [f72] at e117
          clear hA hd
          refine wpOp_step rfl (fun K' hK' => ?_)
          go_simp
          exact hK' _ _ (hK _ _ ⟨0, 0, 0, rfl, al0⟩ (Below.refl _ _) no_al)
        · generalize hA : putsA _ _ x (0 :: 1 :: 2 :: 3 :: 4 :: 5 :: 6 :: 7 :: 8 :: 9 :: 10 :: 11 :: 12 :: 13 :: 14 :: 15 :: 16 :: 17 :: 18 :: 19 :: 20 :: 21 :: 22 :: 23 :: 24 :: 25 :: 26 :: 27 :: 28 :: 29 :: 30 :: 31 :: 32 :: 33 :: 34 :: 35 :: 36 :: 37 :: 38 :: 39 :: 40 :: 41 :: 42 :: 43 :: 44 :: 45 :: 46 :: 47 :: 48 :: 49 :: 50 :: 51 :: 52 :: 53 :: 54 :: 55 :: 56 :: 57 :: 58 :: 59 :: 60 :: 61 :: 62 :: 63 :: 64 :: 65 :: 66 :: 67 :: 68 :: 69 :: 70 :: 71 :: 72 :: 73 :: 74 :: 75 :: []) = A at *
          have e115 : A.tmps[115]? = some (x 70) := by rw [← hA]; exact putsA_in (i := 70) 115 (by rfl) (by show (115 : Nat) < 120; decide) _ (by decide +kernel) (by decide)
          obtain ⟨_, _, _, f70, _⟩ := hd 70 (by decide)
          replace f70 : x 70 = .bool true := f70
          rw [f70] at e115
          have e118 : A.tmps[118]? = some (x 73) := by rw [← hA]; exact putsA_in (i := 73) 118 (by rfl) (by show (118 : Nat) < 120; decide) _ (by decide +kernel) (by decide)
          obtain ⟨_, _, _, f73, _⟩ := hd 73 (by decide)
          replace f73 : x 73 = .bool true := f73
          rw [f73] at e118
          clear hA hd
          refine wpOp_step rfl (fun K' hK' => ?_)
          go_simp
          exact hK' _ _ (hK _ _ ⟨0, 0, 0, rfl, al0⟩ (Below.refl _ _) no_al)
        · generalize hA : putsA _ _ x (0 :: 1 :: 2 :: 3 :: 4 :: 5 :: 6 :: 7 :: 8 :: 9 :: 10 :: 11 :: 12 :: 13 :: 14 :: 15 :: 16 :: 17 :: 18 :: 19 :: 20 :: 21 :: 22 :: 23 :: 24 :: 25 :: 26 :: 27 :: 28 :: 29 :: 30 :: 31 :: 32 :: 33 :: 34 :: 35 :: 36 :: 37 :: 38 :: 39 :: 40 :: 41 :: 42 :: 43 :: 44 :: 45 :: 46 :: 47 :: 48 :: 49 :: 50 :: 51 :: 52 :: 53 :: 54 :: 55 :: 56 :: 57 :: 58 :: 59 :: 60 :: 61 :: 62 :: 63 :: 64 :: 65 :: 66 :: 67 :: 68 :: 69 :: 70 :: 71 :: 72 :: 73 :: 74 :: 75 :: []) = A at *
          have e119 : A.tmps[119]? = some (x 74) := by rw [← hA]; exact putsA_in (i := 74) 119 (by rfl) (by show (119 : Nat) < 120; decide) _ (by decide +kernel) (by decide)
          obtain ⟨_, _, _, f74, _⟩ := hd 74 (by decide)
          replace f74 : x 74 = .bool true := f74
          rw [f74] at e119
          clear hA hd
          refine wpOp_step rfl (fun K' hK' => ?_)
          go_simp
          exact hK' _ _ (hK _ _ ⟨0, 0, 0, rfl, al0⟩ (Below.refl _ _) no_al)
      case hend =>
        intro x W hf hg hb
        have HBX := Lib.hid (bs_below HBS.out hb).2.2
        have hl : x 75 = .bool true := by
          obtain ⟨_, _, _, h, _⟩ := hf 75 (by decide)
          exact h
        rw [putsA_lit _ _ (0 :: 1 :: 2 :: 3 :: 4 :: 5 :: 6 :: 7 :: 8 :: 9 :: 10 :: 11 :: 12 :: 13 :: 14 :: 15 :: 16 :: 17 :: 18 :: 19 :: 20 :: 21 :: 22 :: 23 :: 24 :: 25 :: 26 :: 27 :: 28 :: 29 :: 30 :: 31 :: 32 :: 33 :: 34 :: 35 :: 36 :: 37 :: 38 :: 39 :: 40 :: 41 :: 42 :: 43 :: 44 :: 45 :: 46 :: 47 :: 48 :: 49 :: 50 :: 51 :: 52 :: 53 :: 54 :: 55 :: 56 :: 57 :: 58 :: 59 :: 60 :: 61 :: 62 :: 63 :: 64 :: 65 :: 66 :: 67 :: 68 :: 69 :: 70 :: 71 :: 72 :: 73 :: 74 :: 75 :: []) ((0, 75) :: (45, 0) :: (46, 1) :: (47, 2) :: (48, 3) :: (49, 4) :: (50, 5) :: (51, 6) :: (52, 7) :: (53, 8) :: (54, 9) :: (55, 10) :: (56, 11) :: (57, 12) :: (58, 13) :: (59, 14) :: (60, 15) :: (61, 16) :: (62, 17) :: (63, 18) :: (64, 19) :: (65, 20) :: (66, 21) :: (67, 22) :: (68, 23) :: (69, 24) :: (70, 25) :: (71, 26) :: (72, 27) :: (73, 28) :: (74, 29) :: (75, 30) :: (76, 31) :: (77, 32) :: (78, 33) :: (79, 34) :: (80, 35) :: (81, 36) :: (82, 37) :: (83, 38) :: (84, 39) :: (85, 40) :: (86, 41) :: (87, 42) :: (88, 43) :: (89, 44) :: (90, 45) :: (91, 46) :: (92, 47) :: (93, 48) :: (94, 49) :: (95, 50) :: (96, 51) :: (97, 52) :: (98, 53) :: (99, 54) :: (100, 55) :: (101, 56) :: (102, 57) :: (103, 58) :: (104, 59) :: (105, 60) :: (106, 61) :: (107, 62) :: (108, 63) :: (109, 64) :: (110, 65) :: (111, 66) :: (112, 67) :: (113, 68) :: (114, 69) :: (115, 70) :: (116, 71) :: (117, 72) :: (118, 73) :: (119, 74) :: []) (by kernel_rfl)]
        simp only [setAll, ↓reduceIte, Nat.reduceAdd, Nat.reduceEqDiff]
        rw [hl]
        clear hf hl hg hb HBS
        refine wpAny_done (by kernel_rfl) ?_ _
        refine NoPanic.normal ?_
        go_wp2
        go_ret
        exact ⟨rfl, HBX.out⟩
end Go.Proofs.YthacdfdnbhfooaaDoor
