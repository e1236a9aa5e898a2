/- The writer's state beside other blocks; (*writer).put. Conditions: those of each lemma. -/
import Derived.Test.YticpenbebokjdaaDoorBu2N
import Derived.Test.YticpenbebokjdaaDoorNd4
import Derived.Deep.RegionWith
namespace Go.Proofs.YticpenbebokjdaaDoor
open Go.RowKit Go
set_option linter.unusedVariables false
set_option linter.unusedSimpArgs false
/-- the writer at b holds the bytes L; the blocks X stand beside it -/
def Wk (B b : Nat) (L : List Nat) (X : BL) (W : World) : Prop := ∃ v, Bu B b v (Lib.strCells (bstr L)) W ∧ (∀ x ∈ X, Blk W x.1 x.2.1 x.2.2 ∧ x.1 ≠ b ∧ v.ownBlock ≠ some x.1) ∧ B ≤ W.heap.size
theorem wk_lt {B b : Nat} {L : List Nat} {X : BL} {W : World} (h : Wk B b L X W) : b < W.heap.size := by
  obtain ⟨v, h1, _⟩ := h
  exact h1.lt
theorem wk_get {B b : Nat} {L : List Nat} {X : BL} {W : World} {g : Nat} {t : TypeId} {cs : Array Value} (h : Wk B b L X W) (hm : (g, t, cs) ∈ X) : Blk W g t cs := by
  obtain ⟨v, _, h2, _⟩ := h
  exact (h2 _ hm).1
theorem wk_drop {B b : Nat} {L : List Nat} {X Y : BL} {W : World} (h : Wk B b L X W) (hY : ∀ x ∈ Y, x ∈ X) : Wk B b L Y W := by
  obtain ⟨v, h1, h2, h3⟩ := h
  exact ⟨v, h1, fun x hx => h2 x (hY x hx), h3⟩
theorem wk_below {B b : Nat} {L : List Nat} {X : BL} {W W' : World} (h : Wk B b L X W) (hb : Below W.heap.size W W') : Wk B b L X W' := by
  obtain ⟨v, h1, h2, h3⟩ := h
  refine ⟨v, h1.keep hb.os hb.tape hb.output hb.size (fun k hk _ => hb.block k hk), fun x hx => ?_, Nat.le_trans h3 hb.size⟩
  obtain ⟨k1, k2, k3⟩ := h2 x hx
  exact ⟨blk_step k1 hb, k2, k3⟩
theorem wk_alloc {B b : Nat} {L : List Nat} {X : BL} {W : World} (h : Wk B b L X W) (cs : Array Value) (t : TypeId) : Wk B b L ((W.heap.size, t, cs) :: X) (W.alloc (.cells cs t)) := by
  have hl := wk_lt h
  obtain ⟨v, h1, h2, h3⟩ := h
  have hb : Below W.heap.size W (W.alloc (.cells cs t)) := one_alloc
  refine ⟨v, h1.keep hb.os hb.tape hb.output hb.size (fun k hk _ => hb.block k hk), fun x hx => ?_, Nat.le_trans h3 hb.size⟩
  rcases List.mem_cons.1 hx with rfl | hx
  · exact ⟨Blk.new _ _ _, Nat.ne_of_gt hl, fun e => Nat.lt_irrefl _ (h1.rowlt _ e).2⟩
  · obtain ⟨k1, k2, k3⟩ := h2 x hx
    exact ⟨blk_step k1 hb, k2, k3⟩
theorem wk_drew {B b : Nat} {L : List Nat} {X : BL} {W : World} (h : Wk B b L X W) : Wk B b L X W.drew := h
theorem wk_new {W : World} {X : BL} (B : Nat) (hB : B ≤ W.heap.size) (hX : ∀ x ∈ X, Blk W x.1 x.2.1 x.2.2) : Wk B W.heap.size [] X (W.alloc (.cells #[.pointer none, .slice none 0 0] 45)) := by
  refine ⟨.slice none 0 0, bu_new B W hB, fun x hx => ⟨(hX x hx).alloc _, Nat.ne_of_lt (hX x hx).lt, by simp [Value.ownBlock]⟩, by simp; omega⟩
theorem wk_write {B b : Nat} {L M : List Nat} {X : BL} {W W' : World} {v v' : Value} (h1 : Bu B b v (Lib.strCells (bstr L)) W) (h2 : ∀ x ∈ X, Blk W x.1 x.2.1 x.2.2 ∧ x.1 ≠ b ∧ v.ownBlock ≠ some x.1) (h3 : B ≤ W.heap.size)
    (k1 : Bu B b v' (Lib.strCells (bstr M)) W') (k2 : Fr b v W W') (k4 : v'.ownBlock = v.ownBlock ∨ ∃ k, W.heap.size ≤ k ∧ v'.ownBlock = some k) : Wk B b M X W' := by
  refine ⟨v', k1, fun x hx => ?_, Nat.le_trans h3 k2.1⟩
  obtain ⟨g1, g2, g3⟩ := h2 x hx
  refine ⟨(k2.2 x.1 g1.lt g2 g3).trans g1, g2, ?_⟩
  rcases k4 with e | ⟨k, hk, e⟩
  · rw [e]; exact g3
  · rw [e]
    intro e'
    have := g1.lt
    have := Option.some.inj e'
    omega
theorem wk_str {B b : Nat} {L : List Nat} {X : BL} {W : World} (s : ByteArray) (h : Wk B b L X W) (hlen : L.length + s.size ≤ 100000) :
    Calls Tryd.prog 21 #[.pointer (some ⟨b, 0, none⟩), .string s] W fun e w' => e = .returned (.tuple #[.int .i64 s.size, .nilIface]) ∧ Wk B b (L ++ bts s) X w' ∧ Below B W w' := by
  obtain ⟨v, h1, h2, h3⟩ := h
  refine (bu_writeString B b v _ s W h1 (by rw [Lib.strCells_length, bstr_size]; omega) h3).mono ?_
  rintro e w' ⟨rfl, v', k1, k2, k3, k4⟩
  rw [strCells_app] at k1
  exact ⟨rfl, wk_write h1 h2 h3 k1 k2 k4, k3⟩
theorem wk_byte {B b : Nat} {L : List Nat} {X : BL} {W : World} (x : Nat) (h : Wk B b L X W) (hx : x < 256) (hlen : L.length + 1 ≤ 100000) :
    Calls Tryd.prog 39 #[.pointer (some ⟨b, 0, none⟩), .int .u8 x] W fun e w' => e = .returned .nilIface ∧ Wk B b (L ++ [x]) X w' ∧ Below B W w' := by
  obtain ⟨v, h1, h2, h3⟩ := h
  refine (bu_writeByte B b v _ x W h1 (by rw [Lib.strCells_length, bstr_size]; omega) h3).mono ?_
  rintro e w' ⟨rfl, v', k1, k2, k3, k4⟩
  have e1 : Lib.strCells (bstr L) ++ [Value.int .u8 (x : Int)] = Lib.strCells (bstr (L ++ [x])) := by
    rw [← bstr_append]
    have e2 : (UInt8.ofNat x).toNat = x := by rw [UInt8.toNat_ofNat']; omega
    simp [Lib.strCells, bstr, e2]
  rw [e1] at k1
  exact ⟨rfl, wk_write h1 h2 h3 k1 k2 k4, k3⟩
/-- a number's bytes, the highest first -/
def numL (n : Nat) : Nat → List Nat
  | 0 => []
  | k + 1 => n / 256 ^ k % 256 :: numL n k
theorem numL_length (n : Nat) : ∀ k, (numL n k).length = k
  | 0 => rfl
  | k + 1 => by simp [numL, numL_length n k]
theorem numL_lt (n : Nat) : ∀ k, ∀ x ∈ numL n k, x < 256
  | 0 => fun x hx => by cases hx
  | k + 1 => fun x hx => by
    rcases List.mem_cons.1 hx with rfl | hx
    · exact Nat.mod_lt _ (by omega)
    · exact numL_lt n k x hx
theorem wrap_8j {j : Nat} (h : (j : Int) ≤ 3) : IntKind.i64.wrap (8 * (j : Int)) = 8 * (j : Int) := by rw [IntKind.wrap_i64]; omega
theorem pow_8j (j : Nat) : (2 : Int) ^ (8 * j) = ((256 ^ j : Nat) : Int) := by
  rw [Int.pow_mul]
  norm_cast
theorem shr_8j (n j : Nat) (h : (j : Int) ≤ 3) : Op.shift .shr .i64 (n : Int) .i64 (8 * (j : Int)) = pure (.int .i64 ((n / 256 ^ j : Nat) : Int)) := by
  rw [shift_shr .i64 .i64 _ _ (by omega) (by show 8 * (j : Int) ≤ 64; omega), show (8 * (j : Int)).toNat = 8 * j by omega, pow_8j, ← Int.natCast_ediv]
theorem u8_n (n j q : Nat) (h : (j : Int) ≤ 3) (hq : n / 256 ^ j = q) : IntKind.u8.wrap ((n : Int) / 2 ^ (8 * (j : Int)).toNat) = ((q % 256 : Nat) : Int) := by
  rw [show (8 * (j : Int)).toNat = 8 * j by omega, pow_8j, ← Int.natCast_ediv, hq, IntKind.wrap_u8]
  omega
theorem u8_q (q : Nat) : IntKind.u8.wrap (q : Int) = ((q % 256 : Nat) : Int) := by rw [IntKind.wrap_u8]; omega
set_option maxRecDepth 100000 in
set_option maxHeartbeats 8000000 in
theorem put_any (B b : Nat) (L : List Nat) (X : BL) (n k : Nat) (w : World) (h : Wk B b L X w) (hn : n ≤ 4294967295) (hk : k ≤ 4) (hlen : L.length + k ≤ 90000) :
    Calls Tryd.prog 20 #[.pointer (some ⟨b, 0, none⟩), .int .i64 n, .int .i64 k] w fun e w' => e = .returned (.tuple #[]) ∧ Wk B b (L ++ numL n k) X w' ∧ Below B w w' := by
  have HW := Lib.hid h
  have hkI : (k : Int) ≤ 4 := by omega
  have hnI : (n : Int) ≤ 4294967295 := by omega
  clear h
  go_enter Tryd.func20, Tryd.ntmps20
  go_wp2
  go_loopw [2] (fun i wr => ∃ j : Nat, ∃ M, j ≤ k ∧ i = .int .i64 ((j : Int) - 1) ∧ M ++ numL n j = L ++ numL n k ∧ M.length + j = L.length + k ∧ Wk B b M X wr ∧ Below B w wr) (fun i _ => (intOf i + 1).toNat)
  case atStart => exact ⟨k, L, by omega, rfl, rfl, rfl, HW.out, Below.refl _ _⟩
  case round =>
    obtain ⟨j, M, hj, rfl, hM, hlM, hW, hB⟩ := hrel
    cases j with
    | zero =>
      have HM := Lib.hid (show M = L ++ numL n k by simpa [numL] using hM)
      have HWB := Lib.hid (And.intro hW hB)
      clear hM hW hB hlM
      go_wp2
      go_end0
      exact ⟨rfl, by rw [← HM.out]; exact HWB.out.1, HWB.out.2⟩
    | succ j =>
      have hji : ((j + 1 : Nat) : Int) - 1 = (j : Int) := by omega
      rw [hji]
      have HM := Lib.hid hM
      have HL := Lib.hid hlM
      have HWB := Lib.hid (And.intro hW hB)
      have hj3 : (j : Int) ≤ 3 := by omega
      have hw8 := wrap_8j hj3
      obtain ⟨q, hq⟩ : ∃ q : Nat, n / 256 ^ j = q := ⟨_, rfl⟩
      have HQ := Lib.hid (u8_n n j q hj3 hq)
      have HN : Hid (numL n (j + 1) = q % 256 :: numL n j) := Lib.hid (by simp only [numL, hq])
      have HBY : Hid (∀ (W' : World) (v : Int), W' = wr.drew → v = ((q % 256 : Nat) : Int) → Calls Tryd.prog 39 #[.pointer (some ⟨b, 0, none⟩), .int .u8 v] W' fun e w' => e = .returned .nilIface ∧ Wk B b (M ++ [q % 256]) X w' ∧ Below B W' w') := Lib.hid (fun W' v h hv => by
        subst h hv
        exact wk_byte (q % 256) (wk_drew HWB.out.1) (Nat.mod_lt _ (by omega)) (by have := HL.out; omega))
      clear hM hlM hW hB hji hq
      go_wp2_with fail
      go_region_with (go_at_call 39; (refine (HBY.out _ _ (by rfl) (by exact HQ.out)).mono ?_); rintro e w5 ⟨rfl, hw5, hb5⟩)
      have HW5 := Lib.hid (And.intro hw5 (HWB.out.2.drew.trans hb5))
      clear hw5 hb5 HBY hw8
      go_wp2
      go_roundw
      case rel =>
        refine ⟨j, M ++ [q % 256], by omega, by go_num, ?_, ?_, HW5.out.1, HW5.out.2⟩
        · rw [← HM.out, HN.out, List.append_assoc, List.singleton_append]
        · have := HL.out
          rw [List.length_append, List.length_singleton]
          omega
      case measure => simp [intOf]
end Go.Proofs.YticpenbebokjdaaDoor
