/- The reader: number. Conditions: those of each lemma. -/
import Derived.Test.YticpenbebokjdaaDoorNd7
import Derived.Laws.IdiomStrings
namespace Go.Proofs.YticpenbebokjdaaDoor
open Go.RowKit Go
set_option linter.unusedVariables false
set_option linter.unusedSimpArgs false
theorem or_i64_nat (a b : Nat) (ha : a < 4611686018427387904) (hb : b < 4611686018427387904) : bits .or .i64 (a : Int) (b : Int) = ((a ||| b : Nat) : Int) := by
  have hx : a ||| b < 2 ^ 62 := Nat.or_lt_two_pow (by omega) (by omega)
  have h1 : (BitVec.ofInt 64 (a : Int)).toNat = a := by
    rw [BitVec.ofInt_natCast, BitVec.toNat_ofNat]; exact Nat.mod_eq_of_lt (by omega)
  have h2 : (BitVec.ofInt 64 (b : Int)).toNat = b := by
    rw [BitVec.ofInt_natCast, BitVec.toNat_ofNat]; exact Nat.mod_eq_of_lt (by omega)
  show IntKind.i64.wrap ((BitVec.ofInt 64 (a : Int) ||| BitVec.ofInt 64 (b : Int)).toNat : Int) = _
  rw [BitVec.toNat_or, h1, h2, IntKind.wrap_i64]
  omega
theorem or256 (a c : Nat) (h : c < 256) (ha : a ≤ 4294967295) : bits .or .i64 ((a : Int) * 256) (c : Int) = ((a * 256 + c : Nat) : Int) := by
  have h1 := or_i64_nat (a * 256) c (by omega) (by omega)
  have h2 : a * 256 ||| c = a * 256 + c := by
    rw [show a * 256 = 2 ^ 8 * a by omega, ← Nat.two_pow_add_eq_or_of_lt (by omega : c < 2 ^ 8)]
  rw [h2] at h1
  rw [← h1]
  simp
def valL (l : List Nat) : Nat := l.foldl (fun a b => a * 256 + b) 0
theorem valL_snoc (l : List Nat) (x : Nat) : valL (l ++ [x]) = valL l * 256 + x := by simp [valL]
theorem valL_lt (L : List Nat) (hx : ∀ x ∈ L, x < 256) : ∀ j : Nat, valL (L.take j) < 256 ^ j := by
  intro j
  induction j with
  | zero => simp [valL]
  | succ j ih =>
    rw [Nat.pow_succ]
    by_cases h : j < L.length
    · rw [List.take_succ_eq_append_getElem h, valL_snoc]
      have h2 := hx _ (List.getElem_mem h)
      omega
    · rw [List.take_of_length_le (by omega), ← List.take_of_length_le (l := L) (i := j) (by omega)]
      omega
theorem conv_str (T : ByteArray) (W : World) : ∃ cap W', (convert 9 41 (.string T)).run Tryd.prog W = .ok (.slice (some ⟨W.heap.size, 0, none⟩) T.size cap) W' ∧ (∀ j, (h : j < (bts T).length) → W'.cell? ⟨W.heap.size, j, none⟩ = some (.int .u8 ((bts T)[j] : Nat))) ∧ Below W.heap.size W W' := by
  refine ⟨_, _, run_bytes_of_string W _ _ 5 T (by kernel_rfl) (by kernel_rfl) (by kernel_rfl), fun j h => ?_, ?_⟩
  · rw [show W.heap.size = W.drew.heap.size from rfl, World.cell?_alloc_mark]
    have hj : j < T.data.size := by simpa [bts] using h
    rw [bytesRow_at _ _ _ hj]
    simp [bts]
  · exact (Below.refl W.heap.size W).drew.alloc (Nat.le_refl _) _
set_option maxRecDepth 100000 in
set_option maxHeartbeats 4000000 in
theorem number_any (B r : Nat) (left : ByteArray) (well : Bool) (X : BL) (n : Nat) (w : World) (h : Rk B r left well X w) (hl : left.size ≤ 100000) (hn : n ≤ 4) :
    Calls Tryd.prog 27 #[.pointer (some ⟨r, 0, none⟩), .int .i64 n] w fun e w' => e = .returned (.int .i64 (valL (bts (textZ left well n).1) : Nat)) ∧ Rk B r (textZ left well n).2.1 (textZ left well n).2.2 X w' ∧ Below B w w' := by
  have HT := Lib.hid (text_any B r left well X n w h hl)
  have hts : (textZ left well n).1.size ≤ 4 := by
    unfold textZ
    split
    · show (0 : Nat) ≤ 4; omega
    · simp only [ByteArray.size_extract]; omega
  have HB0 : Hid (B ≤ w.heap.size) := Lib.hid (Nat.le_trans h.2.2 (Nat.le_of_lt h.1.lt))
  generalize textZ left well n = tz at *
  obtain ⟨T, left', well'⟩ := tz
  simp only at HT hts ⊢
  have htI : (T.size : Int) ≤ 4 := by omega
  clear h
  go_enter Tryd.func27, Tryd.ntmps27
  go_wp2_with fail
  refine (HT.out).mono ?_
  rintro e w2 ⟨rfl, hr2, hb2⟩
  obtain ⟨cap, w3, hcv, hcc, hb3⟩ := conv_str T w2
  have HR := Lib.hid (rk_below hr2 hb3)
  have HB := Lib.hid (hb2.trans (hb3.mono (Nat.le_trans HB0.out hb2.size)))
  have HCC := Lib.hid hcc
  clear hr2 hb2 hb3 hcc HT HB0
  go_wp2
  go_loop [5, 13] (fun s i => ∃ j : Nat, j ≤ T.size ∧ i = .int .i64 j ∧ s = .int .i64 (valL ((bts T).take j) : Nat)) (fun _ i => T.size - (intOf i).toNat)
  case atStart => exact ⟨0, by omega, rfl, rfl⟩
  case round =>
    obtain ⟨j, hj, rfl, rfl⟩ := hrel
    by_cases hjn : j < T.size
    · have hlt : j < (bts T).length := by rw [bts_length]; exact hjn
      have hc := HCC.out j hlt
      have hx : (bts T)[j] < 256 := bts_lt T _ (List.getElem_mem hlt)
      have hsn : (bts T).take (j + 1) = (bts T).take j ++ [(bts T)[j]] := by rw [List.take_succ_eq_append_getElem hlt]
      have hvl := valL_lt (bts T) (bts_lt T) j
      have hp : 256 ^ j ≤ 256 ^ 3 := Nat.pow_le_pow_right (by omega) (by omega)
      have HSN : Hid (valL ((bts T).take (j + 1)) = valL ((bts T).take j) * 256 + (bts T)[j]) := Lib.hid (by rw [hsn, valL_snoc])
      generalize (bts T)[j] = x at *
      generalize valL ((bts T).take j) = v at *
      have hvI : (v : Int) ≤ 16777215 := by omega
      have hxI : (x : Int) < 256 := by omega
      have ho := or256 v x hx (by omega)
      have hjI : (j : Int) < T.size := by omega
      clear hsn hvl hp hx hlt
      go_wp2
      go_round
      case rel => exact ⟨j + 1, by omega, by go_num, by rw [HSN.out]; exact congrArg (Value.int .i64) (by omega)⟩
      case measure => simp [intOf]; omega
    · obtain rfl : j = T.size := by omega
      have HV : Hid ((bts T).take T.size = bts T) := Lib.hid (List.take_of_length_le (by rw [bts_length]; omega))
      rw [HV.out]
      go_wp2
      go_ret
      exact ⟨rfl, HR.out, HB.out⟩
end Go.Proofs.YticpenbebokjdaaDoor
