/- Layer 3: an operation's bytes; a file's bytes as far as they are looked at. Conditions: those of each lemma. -/
import Derived.Test.YtffojihhjiogpaaFi24
namespace Go.Proofs.Ytffojihhjiogpaa
open Go.RowKit Go Go.Maps
set_option linter.unusedVariables false
set_option linter.unusedSimpArgs false
theorem builderAt_below {T e : TypeId} {B b : Nat} {p : Value} {bs : List Value} {W W' : World} (h : Lib.BuilderAt T e B b p bs W) (hb : Below W.heap.size W W') : Lib.BuilderAt T e B b p bs W' := by
  have hlt := h.lt
  obtain ⟨hB, v, hc, hown, hne⟩ := h
  refine ⟨hB, v, (hb.block b hlt).trans hc, hown.kept (row := none) ⟨hb.os, hb.tape, hb.output, hb.size, fun i hi _ => hb.block i hi⟩ ?_, hne⟩
  by_cases hv : v.ownBlock = none
  · exact .inl hv
  · exact .inr hv
theorem builder_below {T e : TypeId} {B b : Nat} {bs : List Value} {W W' : World} (h : Lib.IsBuilder T e B b bs W) (hb : Below W.heap.size W W') : Lib.IsBuilder T e B b bs W' := by
  rcases h with h | h
  · exact .inl (builderAt_below h hb)
  · exact .inr (builderAt_below h hb)
theorem builder_new (w : World) (T e : TypeId) : Lib.IsBuilder T e w.heap.size w.heap.size [] (w.alloc (.cells #[.pointer none, .slice none 0 0] T)) :=
  .inl ⟨Nat.le_refl _, .slice none 0 0, heap_alloc_new w _, World.ownsRow_nil _ _ _ _, by simp [Value.ownBlock]⟩
theorem bws (B b : Nat) (L : List Nat) (s : ByteArray) (w : World) (h : Lib.IsBuilder 81 5 B b (Lib.strCells (bstr L)) w) (hlen : L.length + s.size ≤ 140737488355328) (hBw : B ≤ w.heap.size) :
    Calls Try.prog 53 #[.pointer (some ⟨b, 0, none⟩), .string s] w fun e w' => e = .returned (.tuple #[.int .i64 s.size, .nilIface]) ∧ Lib.IsBuilder 81 5 B b (Lib.strCells (bstr (L ++ bts s))) w' ∧ Below B w w' := by
  have hc := Any.Builder_WriteString { Try.lays105 with } Try.Builder_Extra_105 B b (Lib.strCells (bstr L)) s w h (by rw [Lib.strCells_length, bstr_size]; exact hlen) hBw
  refine hc.mono fun e w' he => ⟨he.1, ?_, he.2.2⟩
  have e : Lib.strCells (bstr L) ++ Lib.strCells s = Lib.strCells (bstr (L ++ bts s)) := by
    rw [← bstr_append, bstr_bts]
    simp [Lib.strCells]
  rw [← e]
  exact .inr he.2.1
theorem bstring (B b : Nat) (L : List Nat) (w : World) (h : Lib.IsBuilder 81 5 B b (Lib.strCells (bstr L)) w) (hBw : B ≤ w.heap.size) :
    Calls Try.prog 45 #[.pointer (some ⟨b, 0, none⟩)] w fun e w' => e = .returned (.string (bstr L)) ∧ Below B w w' := by
  have hc := Try.Builder_String_any B b (bstr L).data.toList w h hBw
  exact hc
/-- the byte of an operation's sector -/
def byF (c : Int) (i : Nat) : Nat := (c.toNat + i) % 256
def bysL (c : Int) (m : Nat) : List Nat := (List.range m).flatMap fun i => List.replicate 64 (byF c i)
theorem bysL_length (c : Int) (m : Nat) : (bysL c m).length = 64 * m := by
  induction m with
  | zero => rfl
  | succ m ih => unfold bysL at ih ⊢; rw [List.range_succ, List.flatMap_append, List.length_append, ih]; simp; omega
theorem bysL_succ (c : Int) (m : Nat) : bysL c (m + 1) = bysL c m ++ List.replicate 64 (byF c m) := by
  unfold bysL; rw [List.range_succ, List.flatMap_append]; simp
def cntF (x : Fop) : Nat := (min (max x.n 0) 64).toNat
def bytesF (x : Fop) : ByteArray := if x.kd = 0 then bstr (bysL x.c (cntF x)) else x.s
theorem bytesF_size {x : Fop} (hl : Light x) : (bytesF x).size ≤ 16384 := by
  unfold bytesF
  split
  · rw [bstr_size, bysL_length]; unfold cntF; omega
  · exact hl.1
theorem bts_secS {c : Nat} (h : c < 256) : bts (secS c) = List.replicate 64 c := by
  unfold secS
  exact bts_bstr _ (fun x hx => by rw [(List.mem_replicate.1 hx).2]; exact h)
set_option maxRecDepth 100000 in
set_option maxHeartbeats 8000000 in
theorem bytes_any (x : Fop) (w : World) (hf : FitP x) : Calls Try.prog 35 #[fopV x] w fun e w' => e = .returned (.string (bytesF x)) ∧ Below w.heap.size w w' := by
  obtain ⟨xk, xf, xp, xn, xc, xs, xA, xkc, xks⟩ := x
  obtain ⟨_, _, _, _, h1, h2, _⟩ := hf
  simp only at h1 h2
  unfold bytesF
  simp only
  by_cases hk : xk = 0
  · subst hk
    rw [if_pos rfl]
    obtain ⟨X, hX⟩ : ∃ X, max xn 0 = X := ⟨_, rfl⟩
    obtain ⟨Y, hY⟩ : ∃ Y, min X 64 = Y := ⟨_, rfl⟩
    have hY0 : 0 ≤ Y ∧ Y ≤ 64 := by omega
    obtain ⟨m, rfl⟩ := Int.eq_ofNat_of_zero_le hY0.1
    have HM := Lib.hid (show cntF ⟨0, xf, xp, xn, xc, xs, xA, xkc, xks⟩ = m by unfold cntF; simp only; rw [hX, hY]; rfl)
    have hm64 : m ≤ 64 := by omega
    have hb0 := builder_new (w.alloc (.cells (fopC ⟨0, xf, xp, xn, xc, xs, xA, xkc, xks⟩) 42)) 81 5
    have HB0 := Lib.hid (show Below w.heap.size w ((w.alloc (.cells (fopC ⟨0, xf, xp, xn, xc, xs, xA, xkc, xks⟩) 42)).alloc (.cells #[.pointer none, .slice none 0 0] 81)) from bj one_alloc one_alloc)
    have HX := Lib.hid (show ((w.alloc (.cells (fopC ⟨0, xf, xp, xn, xc, xs, xA, xkc, xks⟩) 42)).alloc (.cells #[.pointer none, .slice none 0 0] 81)).cell? ⟨w.heap.size, 4, none⟩ = some (.int .u8 xc) from by rw [(blk_step (Blk.new w 42 (fopC ⟨0, xf, xp, xn, xc, xs, xA, xkc, xks⟩)) one_alloc).cell]; rfl)
    have H12 := Lib.hid (And.intro h1 h2)
    have hsz : (w.alloc (.cells (fopC ⟨0, xf, xp, xn, xc, xs, xA, xkc, xks⟩) 42)).heap.size = w.heap.size + 1 := by show (w.heap.push _).size = _; rw [Array.size_push]
    clear h1 h2 hY0
    go_enter Try.func35, Try.ntmps35
    go_wp2
    go_loopw [14] (fun v wr => ∃ j : Nat, j ≤ m ∧ v = .int .i64 j ∧ Lib.IsBuilder 81 5 (w.heap.size + 1) (w.heap.size + 1) (Lib.strCells (bstr (bysL xc j))) wr ∧ Below w.heap.size w wr ∧ wr.cell? ⟨w.heap.size, 4, none⟩ = some (.int .u8 xc) ∧ w.heap.size + 1 < wr.heap.size) (fun v _ => m - (intOf v).toNat)
    case atStart => exact ⟨0, by omega, rfl, by rw [hsz] at hb0; exact hb0, HB0.out, HX.out, by show _ < ((w.heap.push _).push _).size; rw [Array.size_push, Array.size_push]; omega⟩
    case round =>
      obtain ⟨j, hj, rfl, hI, hbw, hcx, hlt⟩ := hrel
      by_cases hjm : j < m
      · have hj64 : (j : Int) < 64 := by omega
        have hjm2 : (j : Int) < m := by omega
        have hwc : IntKind.u8.wrap (j : Int) = j := by rw [IntKind.wrap_u8]; omega
        obtain ⟨v, hv⟩ : ∃ v, IntKind.u8.wrap (xc + (j : Int)) = v := ⟨_, rfl⟩
        have hvk : v = ((byF xc j : Nat) : Int) := by
          have := H12.out
          rw [IntKind.wrap_u8] at hv
          unfold byF
          omega
        have hk8 : byF xc j < 256 := by unfold byF; omega
        have HS := Lib.hid (show ∀ W, Calls Try.prog 11 #[.int .u8 v] W fun e w' => e = .returned (.string (secS (byF xc j))) ∧ Below W.heap.size W w' from fun W => by rw [hvk]; exact sector_any _ W hk8)
        have HSU := Lib.hid (show bysL xc (j + 1) = bysL xc j ++ bts (secS (byF xc j)) from by rw [bysL_succ, bts_secS hk8])
        have hls : (bysL xc j).length ≤ 4096 := by rw [bysL_length]; omega
        have hss : (secS (byF xc j)).size = 64 := secS_size _
        have HI := Lib.hid hI
        have HLS := Lib.hid hls
        have HSS := Lib.hid hss
        have HBW := Lib.hid (And.intro hbw hlt)
        have HCX := Lib.hid hcx
        clear hI hb0 hvk hk8 hls hss hbw hlt
        go_wp2_with fail
        refine (HS.out _).mono ?_
        rintro e w1 ⟨rfl, hb1⟩
        have HB1 := Lib.hid hb1
        clear hb1
        go_wp2_with fail
        refine (bws _ _ _ _ w1 (builder_below HI.out HB1.out) (by rw [HSS.out]; have := HLS.out; omega) (by have := HB1.out.size; have := HBW.out.2; omega)).mono ?_
        rintro e w2 ⟨rfl, hI2, hb2⟩
        have HE := Lib.hid (show Lib.IsBuilder 81 5 (w.heap.size + 1) (w.heap.size + 1) (Lib.strCells (bstr (bysL xc (j + 1)))) w2 ∧ Below w.heap.size w w2 ∧ w2.cell? ⟨w.heap.size, 4, none⟩ = some (.int .u8 xc) ∧ w.heap.size + 1 < w2.heap.size from by
          have hs1 := HB1.out.size
          have hs2 := hb2.size
          have hlt := HBW.out.2
          refine ⟨by rw [HSU.out]; exact hI2, (bj HBW.out.1 HB1.out).trans (hb2.mono (Nat.le_succ _)), ?_, by omega⟩
          rw [hb2.cell (p := ⟨w.heap.size, 4, none⟩) (by show w.heap.size < w.heap.size + 1; omega), HB1.out.cell (p := ⟨w.heap.size, 4, none⟩) (by show w.heap.size < wr.heap.size; omega)]
          exact HCX.out)
        clear hI2 hb2 hcx hv hwc
        go_wp2
        go_roundw
        case rel => exact ⟨j + 1, by omega, by go_num, HE.out.1, HE.out.2.1, HE.out.2.2.1, HE.out.2.2.2⟩
        case measure => simp [intOf]; omega
      · obtain rfl : j = m := by omega
        have HI := Lib.hid hI
        have HBW := Lib.hid (And.intro hbw hlt)
        clear hI hb0 hbw hlt hcx
        go_wp2_with fail
        refine (bstring _ _ _ _ HI.out (by have := HBW.out.2; omega)).mono ?_
        rintro e w1 ⟨rfl, hb1⟩
        have HB1 := Lib.hid hb1
        clear hb1
        go_wp2
        go_ret
        exact ⟨by rw [HM.out]; rfl, HBW.out.1.trans (HB1.out.mono (Nat.le_succ _))⟩
  · have hkb : (xk == 0) = false := by simpa using hk
    rw [if_neg hk]
    go_enter Try.func35, Try.ntmps35
    go_wp2
    go_ret
    exact ⟨rfl, one_alloc⟩
/-- a file's bytes, as far as they are looked at -/
def allF (d : Dk) (f : Int) : ByteArray := (readD d f 0 (min (sizeD d f) 300)).1
set_option maxRecDepth 100000 in
set_option maxHeartbeats 4000000 in
theorem all_any {w0 W : World} {g : Nat} {d : Dk} {N : Nat} (h : Kd w0 g d N W) (f : Int) : Calls Try.prog 38 #[.pointer (some ⟨g, 0, none⟩), .int .i64 f] W fun e w' => e = .returned (.string (allF d f)) ∧ Below W.heap.size W w' := by
  have HZ := Lib.hid (kd_size h f)
  obtain ⟨M, hM⟩ : ∃ M, min (sizeD d f) 300 = M := ⟨_, rfl⟩
  have HR := Lib.hid (kd_read h f 0 M (by omega))
  obtain ⟨R, hR⟩ : ∃ R, readD d f 0 M = R := ⟨_, rfl⟩
  have HA := Lib.hid (show allF d f = R.1 by unfold allF; rw [hM, hR])
  rw [hR] at HR
  clear hR
  go_enter Try.func38, Try.ntmps38
  go_wp2_with fail
  refine (HZ.out).mono ?_
  rintro e w1 ⟨rfl, rfl⟩
  go_wp2_with fail
  refine (HR.out).mono ?_
  rintro e w2 ⟨rfl, hb⟩
  go_wp2
  go_ret
  exact ⟨by rw [HA.out]; rfl, hb⟩
end Go.Proofs.Ytffojihhjiogpaa
