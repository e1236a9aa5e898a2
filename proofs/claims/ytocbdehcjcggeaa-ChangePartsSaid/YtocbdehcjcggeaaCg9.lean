/- Layer 22: change.rowOf. Conditions: those of each lemma. -/
import Derived.Test.YtocbdehcjcggeaaCg8
import Derived.Test.YtocbdehcjcggeaaBu2
import Derived.Test.YtocbdehcjcggeaaNumFix2
import Derived.Test.YtocbdehcjcggeaaFactsSt
import Derived.Deep.RegionWith
namespace Go.Proofs.Ytocbdehcjcggeaa
open Go.RowKit Go
set_option linter.unusedVariables false
set_option linter.unusedSimpArgs false
/-- the eight bytes of a whole number -/
def e8 (z : Int) : List Nat := eightL (IntKind.u64.wrap z).toNat
/-- a value, as the bytes that tell of which row a change is -/
def kbV (x : Val) : List Nat := x.1.toNat :: (e8 x.2.1 ++ e8 x.2.2.size ++ bts x.2.2)
def kbL (l : List Val) : List Nat := l.flatMap kbV
theorem kbL_take (l : List Val) (j : Nat) (h : j < l.length) : kbL (l.take (j + 1)) = kbL (l.take j) ++ kbV l[j] := by
  unfold kbL
  rw [take_snocC h, List.flatMap_append]
  simp
theorem fourL_len (n : Nat) : (fourL n).length = 4 := rfl
theorem e8_len (z : Int) : (e8 z).length = 8 := rfl
theorem kbV_len (x : Val) : (kbV x).length = 17 + x.2.2.size := by simp [kbV, e8_len, bts_length]; omega
theorem kbL_len (l : List Val) (h : ∀ x ∈ l, x.2.2.size ≤ 1000) : (kbL l).length ≤ 1017 * l.length := by
  induction l with
  | nil => simp [kbL]
  | cons a l ih =>
    have h1 := ih (fun x hx => h x (List.mem_cons_of_mem _ hx))
    have h2 := h a (List.mem_cons_self ..)
    have h3 := kbV_len a
    simp only [kbL, List.flatMap_cons, List.length_append, List.length_cons] at h1 ⊢
    omega
/-- what stands in memory in the midst of rowOf -/
structure Rw (w : World) (X : Cg) (L : List Nat) (W : World) : Prop where
  p : Blk W w.heap.size 33 (cgC X)
  r : Blk W (w.heap.size + 1) 63 #[.string ⟨#[]⟩, .string ⟨#[]⟩]
  b : ∃ v, Bu w.heap.size (w.heap.size + 2) v (Lib.strCells (bstr L)) W
  w : Below w.heap.size w W
theorem rw_step {w W W' : World} {X : Cg} {L : List Nat} (h : Rw w X L W) (hb : Below W.heap.size W W') : Rw w X L W' :=
  ⟨blk_step h.p hb, blk_step h.r hb, h.b.elim fun v hv => ⟨v, hv.keep hb.os hb.tape hb.output hb.size (fun k hk _ => hb.block k hk)⟩, bj h.w hb⟩
theorem rw_new (w : World) (X : Cg) : Rw w X [] (((w.alloc (.cells (cgC X) 33)).alloc (.cells #[.string ⟨#[]⟩, .string ⟨#[]⟩] 63)).alloc (.cells #[.pointer none, .slice none 0 0] 47)) := by
  have hz : (w.alloc (.cells (cgC X) 33)).heap.size = w.heap.size + 1 := by simp
  have hz2 : ((w.alloc (.cells (cgC X) 33)).alloc (.cells #[.string ⟨#[]⟩, .string ⟨#[]⟩] 63)).heap.size = w.heap.size + 2 := by simp
  refine ⟨((Blk.new w _ _).alloc _).alloc _, (blk_new _ _ _ _ hz).alloc _, ⟨.slice none 0 0, ?_⟩, ((one_allocC).alloc (by omega) _).alloc (by omega) _⟩
  have := bu_new w.heap.size ((w.alloc (.cells (cgC X) 33)).alloc (.cells #[.string ⟨#[]⟩, .string ⟨#[]⟩] 63)) (by omega)
  rw [hz2] at this
  exact this
theorem rw_cells {w W : World} {X : Cg} {L : List Nat} (h : Rw w X L W) : W.cell? ⟨w.heap.size, 0, none⟩ = some (.string X.t) ∧ W.cell? ⟨w.heap.size, 1, none⟩ = some (.slice X.kA X.k.length X.kc) ∧ W.cell? ⟨w.heap.size + 1, 0, none⟩ = some (.string ⟨#[]⟩) ∧ W.cell? ⟨w.heap.size + 1, 1, none⟩ = some (.string ⟨#[]⟩) ∧ W.frozen? ⟨w.heap.size + 1, 0, none⟩ = false ∧ W.frozen? ⟨w.heap.size + 1, 1, none⟩ = false :=
  ⟨h.p.cell 0, h.p.cell 1, h.r.cell 0, h.r.cell 1, h.r.frozen 0, h.r.frozen 1⟩
theorem rw_ws {w W : World} {X : Cg} {L : List Nat} (s : ByteArray) (h : Rw w X L W) (hlen : L.length + s.size ≤ 140737488355328) :
    Calls Try.prog 23 #[.pointer (some ⟨w.heap.size + 2, 0, none⟩), .string s] W fun e w' => e = .returned (.tuple #[.int .i64 s.size, .nilIface]) ∧ Rw w X (L ++ bts s) w' ∧ Oth W w' := by
  obtain ⟨v, hv⟩ := h.b
  refine (bu_writeString w.heap.size _ v _ s W hv (by rw [Lib.strCells_length, bstr_size]; exact hlen) h.w.size).mono ?_
  rintro e w' ⟨rfl, v', h1', hfr, hb, hat⟩
  rw [strCells_app] at h1'
  have ho := bu_oth hv hfr
  exact ⟨rfl, ⟨ho _ _ _ (by decide) (by decide) h.p, ho _ _ _ (by decide) (by decide) h.r, ⟨v', h1'⟩, h.w.trans hb⟩, ho⟩
theorem rw_wb {w W : World} {X : Cg} {L : List Nat} (z : Int) (h : Rw w X L W) (h0 : 0 ≤ z) (h1 : z < 256) (hlen : L.length + 1 ≤ 140737488355328) :
    Calls Try.prog 50 #[.pointer (some ⟨w.heap.size + 2, 0, none⟩), .int .u8 z] W fun e w' => e = .returned .nilIface ∧ Rw w X (L ++ [z.toNat]) w' ∧ Oth W w' := by
  obtain ⟨v, hv⟩ := h.b
  refine (bu_writeByte w.heap.size _ v _ z W hv (by rw [Lib.strCells_length, bstr_size]; exact hlen) h.w.size).mono ?_
  rintro e w' ⟨rfl, v', h1', hfr, hb, hat⟩
  have e1 : Lib.strCells (bstr L) ++ [Value.int .u8 z] = Lib.strCells (bstr (L ++ [z.toNat])) := by
    rw [← bstr_append]
    obtain ⟨x, rfl⟩ := Int.eq_ofNat_of_zero_le h0
    have e2 : (UInt8.ofNat x).toNat = x := by rw [UInt8.toNat_ofNat']; omega
    simp [Lib.strCells, bstr, e2]
  rw [e1] at h1'
  have ho := bu_oth hv hfr
  exact ⟨rfl, ⟨ho _ _ _ (by decide) (by decide) h.p, ho _ _ _ (by decide) (by decide) h.r, ⟨v', h1'⟩, h.w.trans hb⟩, ho⟩
/-- its two blocks, when all is written -/
def Rf (w : World) (X : Cg) (W : World) : Prop := Blk W w.heap.size 33 (cgC X) ∧ Blk W (w.heap.size + 1) 63 #[.string ⟨#[]⟩, .string ⟨#[]⟩] ∧ Below w.heap.size w W
theorem Fr_of {b : Nat} {v : Value} {W W' : World} (hs : W'.heap.size = W.heap.size) (hk : ∀ k, k < W.heap.size → v.ownBlock ≠ some k → W'.heap[k]? = W.heap[k]?) : Fr b v W W' := ⟨by omega, fun k h1 _ h2 => hk k h1 h2⟩
theorem rw_str {w W : World} {X : Cg} {L : List Nat} (h : Rw w X L W) (h0 : L ≠ []) :
    Calls Try.prog 27 #[.pointer (some ⟨w.heap.size + 2, 0, none⟩)] W fun e w' => e = .returned (.string (bstr L)) ∧ Rf w X w' := by
  obtain ⟨v, hv⟩ := h.b
  refine (bu_string w.heap.size _ v (bstr L).data.toList W hv (by rw [bstr_toList]; simpa using h0)).mono ?_
  rintro e w' ⟨rfl, hs, hk, hb⟩
  have ho := bu_oth hv (Fr_of hs hk)
  exact ⟨rfl, ho _ _ _ (by decide) (by decide) h.p, ho _ _ _ (by decide) (by decide) h.r, h.w.trans hb⟩
theorem rf_cells {w W : World} {X : Cg} (h : Rf w X W) : W.cell? ⟨w.heap.size, 0, none⟩ = some (.string X.t) ∧ W.cell? ⟨w.heap.size + 1, 0, none⟩ = some (.string ⟨#[]⟩) ∧ W.cell? ⟨w.heap.size + 1, 1, none⟩ = some (.string ⟨#[]⟩) ∧ W.frozen? ⟨w.heap.size + 1, 0, none⟩ = false ∧ W.frozen? ⟨w.heap.size + 1, 1, none⟩ = false :=
  ⟨h.1.cell 0, h.2.1.cell 0, h.2.1.cell 1, h.2.1.frozen 0, h.2.1.frozen 1⟩
/-- and the value that is gone through -/
def Rv (w : World) (X : Cg) (L : List Nat) (g : Nat) (x : Val) (W : World) : Prop := Rw w X L W ∧ Blk W g 56 (valC x)
theorem rv_step {w W W' : World} {X : Cg} {L : List Nat} {g : Nat} {x : Val} (h : Rv w X L g x W) (hb : Below W.heap.size W W') : Rv w X L g x W' := ⟨rw_step h.1 hb, blk_step h.2 hb⟩
theorem rv_ws {w W : World} {X : Cg} {L : List Nat} {g : Nat} {x : Val} (s : ByteArray) (h : Rv w X L g x W) (hlen : L.length + s.size ≤ 140737488355328) :
    Calls Try.prog 23 #[.pointer (some ⟨w.heap.size + 2, 0, none⟩), .string s] W fun e w' => e = .returned (.tuple #[.int .i64 s.size, .nilIface]) ∧ Rv w X (L ++ bts s) g x w' :=
  (rw_ws s h.1 hlen).mono fun e w' he => ⟨he.1, he.2.1, he.2.2 _ _ _ (by decide) (by decide) h.2⟩
theorem rv_wb {w W : World} {X : Cg} {L : List Nat} {g : Nat} {x : Val} (z : Int) (h : Rv w X L g x W) (h0 : 0 ≤ z) (h1 : z < 256) (hlen : L.length + 1 ≤ 140737488355328) :
    Calls Try.prog 50 #[.pointer (some ⟨w.heap.size + 2, 0, none⟩), .int .u8 z] W fun e w' => e = .returned .nilIface ∧ Rv w X (L ++ [z.toNat]) g x w' :=
  (rw_wb z h.1 h0 h1 hlen).mono fun e w' he => ⟨he.1, he.2.1, he.2.2 _ _ _ (by decide) (by decide) h.2⟩
theorem rv_cells {w W : World} {X : Cg} {L : List Nat} {g : Nat} {x : Val} (h : Rv w X L g x W) : W.cell? ⟨g, 0, none⟩ = some (.int .u8 x.1) ∧ W.cell? ⟨g, 1, none⟩ = some (.int .i64 x.2.1) ∧ W.cell? ⟨g, 2, none⟩ = some (.string x.2.2) := ⟨h.2.cell 0, h.2.cell 1, h.2.cell 2⟩
theorem u64_pos (z : Int) : 0 ≤ IntKind.u64.wrap z ∧ IntKind.u64.wrap z < 18446744073709551616 := by rw [IntKind.wrap_u64]; omega
theorem kbV_bts (q : Int) (S : ByteArray) : bts (bstr (e8 q) ++ bstr (e8 S.size) ++ S) = e8 q ++ e8 S.size ++ bts S := by
  have h8 : ∀ z, ∀ y ∈ e8 z, y < 256 := fun z y hy => by
    simp only [e8, eightL, fourL, List.mem_append, List.mem_cons, List.not_mem_nil, or_false] at hy
    omega
  have ha : ∀ a b : ByteArray, bts (a ++ b) = bts a ++ bts b := fun a b => by simp [bts]
  rw [ha, ha, bts_bstr _ (h8 _), bts_bstr _ (h8 _)]
set_option maxRecDepth 100000 in
set_option maxHeartbeats 8000000 in
theorem rowOf_any (X : Cg) (w : World) (hI : CgIn w w.heap.size X) (h16 : X.k.length ≤ 16) (hne : X.k ≠ []) (hf : ∀ x ∈ X.k, Fits x ∧ x.2.2.size ≤ 1000) :
    Calls Try.prog 29 #[.agg (cgC X)] w fun e w' => e = .returned (.agg #[.string X.t, .string (bstr (kbL X.k))]) ∧ Below w.heap.size w w' := by
  have hV := hI.1
  obtain ⟨b, ofs, hkA, hbl, hcs⟩ := vals_get hV hne
  obtain ⟨n, hn⟩ : ∃ n, X.k.length = n := ⟨_, rfl⟩
  have HNW := Lib.hid (rw_new w X)
  have HCS := Lib.hid hcs
  have HF := Lib.hid hf
  have HN := Lib.hid hn
  have HNE := Lib.hid hne
  have HBL := Lib.hid hbl
  have hnI : (n : Int) ≤ 16 := by omega
  have HKA := Lib.hid hkA
  obtain ⟨c0, c1, c2, c3, c4, c5⟩ := rw_cells HNW.out
  rw [hn, hkA] at c1
  have hE := fun (W : World) (z : Int) (h0 : 0 ≤ z) (h1 : z < 18446744073709551616) => eight_int z W h0 h1
  have HE := Lib.hid hE
  clear hI h16 hne hf hV hcs hbl hE c2 c3 c4 c5
  go_enter Try.func29, Try.ntmps29
  go_wp2
  go_loopw [9] (fun i wr => ∃ j : Nat, j ≤ n ∧ i = .int .i64 j ∧ Rw w X (kbL (X.k.take j)) wr) (fun i _ => n - (intOf i).toNat)
  case atStart => exact ⟨0, by omega, rfl, HNW.out⟩
  case round =>
    obtain ⟨j, hj, rfl, hrw⟩ := hrel
    by_cases hjn : j < n
    · have hlt : j < X.k.length := by have := HN.out; omega
      obtain ⟨d0, d1, d2⟩ := HCS.out j X.k[j] (List.getElem?_eq_getElem hlt)
      have d0 := (hrw.w.cell (p := ⟨b, ofs + j * 3, none⟩) HBL.out).trans d0
      have d1 := (hrw.w.cell (p := ⟨b, ofs + j * 3 + 1, none⟩) HBL.out).trans d1
      have d2 := (hrw.w.cell (p := ⟨b, ofs + j * 3 + 2, none⟩) HBL.out).trans d2
      have HFX := Lib.hid (HF.out X.k[j] (List.getElem_mem hlt))
      have HTK := Lib.hid (kbL_take X.k j hlt)
      have HLN := Lib.hid (show (kbL (X.k.take j)).length ≤ 20000 from by
        have h1 := kbL_len (X.k.take j) (fun x hx => (HF.out x (List.mem_of_mem_take hx)).2)
        rw [List.length_take] at h1
        have := HN.out
        omega)
      generalize X.k[j] = x at *
      obtain ⟨p, q, S⟩ := x
      simp only at d0 d1 d2
      have hjI : (j : Int) < n := by omega
      have h0j : (0 : Int) ≤ j := by omega
      generalize kbL (X.k.take j) = L at *
      have HX := Lib.hid (show Rv w X L wr.heap.size (p, q, S) (wr.alloc (.cells #[.int .u8 p, .int .i64 q, .string S] 56)) from ⟨rw_step hrw one_allocC, Blk.new _ _ _⟩)
      have hwb := rv_wb p HX.out HFX.out.1.1 HFX.out.1.2.1 (by have := HLN.out; omega)
      have HWB := Lib.hid hwb
      have hS1 : (S.size : Int) ≤ 1000 := by have : S.size ≤ 1000 := HFX.out.2; omega
      clear hrw hlt hwb
      go_wp2_with fail
      refine (HWB.out).mono ?_
      rintro e w2 ⟨rfl, hv2⟩
      obtain ⟨L1, hL1⟩ : ∃ L1, L ++ [p.toNat] = L1 := ⟨_, rfl⟩
      rw [hL1] at hv2
      obtain ⟨uq, huq⟩ : ∃ uq, IntKind.u64.wrap q = uq := ⟨_, rfl⟩
      obtain ⟨E1, hE1⟩ : ∃ E1, bstr (e8 q) = E1 := ⟨_, rfl⟩
      obtain ⟨E2, hE2⟩ : ∃ E2, bstr (e8 S.size) = E2 := ⟨_, rfl⟩
      have hE1s : E1.size = 8 := by rw [← hE1, bstr_size]; rfl
      have hE2s : E2.size = 8 := by rw [← hE2, bstr_size]; rfl
      have hws : IntKind.u64.wrap (S.size : Int) = S.size := by rw [IntKind.wrap_u64]; omega
      have hub := u64_pos q
      rw [huq] at hub
      obtain ⟨hu0, hu1⟩ := hub
      have hs0 : (0 : Int) ≤ S.size := by omega
      have hs1 : (S.size : Int) < 18446744073709551616 := by omega
      obtain ⟨L2, hL2⟩ : ∃ L2, L1 ++ bts (E1 ++ E2 ++ S) = L2 := ⟨_, rfl⟩
      have HL2 := Lib.hid (show L2 = kbL (X.k.take (j + 1)) from by
        rw [HTK.out, ← hL2, ← hL1, ← hE1, ← hE2, kbV_bts]
        simp [kbV])
      have HW := Lib.hid (fun (W : World) (h : Rv w X L1 wr.heap.size (p, q, S) W) => (show Calls Try.prog 23 #[.pointer (some ⟨w.heap.size + 2, 0, none⟩), .string (E1 ++ E2 ++ S)] W fun e w' => e = .returned (.tuple #[.int .i64 (E1 ++ E2 ++ S).size, .nilIface]) ∧ Rv w X L2 wr.heap.size (p, q, S) w' from by
        rw [← hL2]
        exact rv_ws _ h (by
          rw [← hL1]
          have := HLN.out
          have : S.size ≤ 1000 := HFX.out.2
          simp only [ByteArray.size_append, List.length_append, List.length_cons, List.length_nil, hE1s, hE2s]
          omega)))
      have HE1 := Lib.hid (show bstr (eightL uq.toNat) = E1 from by rw [← huq]; exact hE1)
      have HE2 := Lib.hid (show bstr (eightL (S.size : Int).toNat) = E2 from by rw [← hE2, e8, hws])
      have HEQ := Lib.hid (fun (W : World) => (HE1.out ▸ HE.out W uq hu0 hu1 : Calls Try.prog 55 #[.int .u64 uq] W fun e w' => e = .returned (.string E1) ∧ Below W.heap.size W w'))
      have HES := Lib.hid (fun (W : World) => (HE2.out ▸ HE.out W (S.size : Int) hs0 hs1 : Calls Try.prog 55 #[.int .u64 (S.size : Int)] W fun e w' => e = .returned (.string E2) ∧ Below W.heap.size W w'))
      have g1 : E1.size + E2.size ≤ 9223372036854775807 := by omega
      have g2 : ¬ (9223372036854775807 < E1.size + E2.size) := by omega
      have g3 : (E1.size : Int) + E2.size ≤ 9223372036854775807 := by omega
      have g4 : E1.size + E2.size + S.size ≤ 9223372036854775807 := by omega
      have g5 : ¬ (9223372036854775807 < E1.size + E2.size + S.size) := by omega
      have g6 : (E1.size : Int) + E2.size + S.size ≤ 9223372036854775807 := by omega
      have HSB := Lib.hid (fun (b : Bool) (W W' : World) (h : Rv w X (if b = true then L1 else L2) wr.heap.size (p, q, S) W) (hb : Below W.heap.size W W') => rv_step h hb)
      have HV := Lib.hid (fun (b : Bool) (W : World) (h : Rv w X (if b = true then L1 else L2) wr.heap.size (p, q, S) W) => rv_cells h)
      have HS := Lib.hid (show Rv w X (if true = true then L1 else L2) wr.heap.size (p, q, S) w2.drew from rv_step hv2 (Below.refl _ _).drew)
      clear hv2 hL1 hE1 hE2 hE1s hE2s hL2 d0 d1 d2 c0 c1 HX HWB
      clear hu0 hu1 hs0 hs1 hS1
      go_upto_region 6 with fail
      refine wp_region_noPanic ?_
      refine wp_region_any (by kernel_rfl) ?_
      refine facts_st (0 :: 1 :: 2 :: 3 :: 4 :: 5 :: 6 :: 7 :: 8 :: 9 :: 10 :: 11 :: 12 :: 13 :: []) (fun i => match i with | 1 => [0] | 2 => [1] | 3 => [2] | 5 => [4] | 6 => [5] | 7 => [6] | 8 => [7] | 9 => [3, 8] | 11 => [10] | 12 => [9, 11] | 13 => [12] | _ => []) 13 99 (fun i => match i with | 0 => (.pointer (some ⟨wr.heap.size, 1, none⟩) : Value) | 1 => (.int .i64 q : Value) | 2 => (.int .u64 uq : Value) | 3 => (.string E1 : Value) | 4 => (.pointer (some ⟨wr.heap.size, 2, none⟩) : Value) | 5 => (.string S : Value) | 6 => (.int .i64 (S.size : Int) : Value) | 7 => (.int .u64 (S.size : Int) : Value) | 8 => (.string E2 : Value) | 9 => (.string (E1 ++ E2) : Value) | 10 => (.pointer (some ⟨wr.heap.size, 2, none⟩) : Value) | 11 => (.string S : Value) | 12 => (.string (E1 ++ E2 ++ S) : Value) | 13 => (.tuple #[.int .i64 ((E1 ++ E2 ++ S).size : Int), .nilIface] : Value) | _ => undef) (fun b c W => Rv w X (if b then L1 else L2) wr.heap.size (p, q, S) W) _ _ _ 0 _ #[true, true, true, true, true, true, true, true, true, true, true, true, true, true] (by kernel_rfl) (by rfl) (HS.out) ?hstep ?hend
      case hstep =>
        intro i hi b c hbp hcq x W hd hI K hK
        obtain ⟨v0, v1, v2⟩ := HV.out b W hI
        simp only [List.mem_cons, List.not_mem_nil, or_false] at hi
        rcases hi with rfl | rfl | rfl | rfl | rfl | rfl | rfl | rfl | rfl | rfl | rfl | rfl | rfl | rfl
        · generalize hA : putsA _ _ x (0 :: 1 :: 2 :: 3 :: 4 :: 5 :: 6 :: 7 :: 8 :: 9 :: 10 :: 11 :: 12 :: 13 :: []) = A at *
          have e5 : A.tmps[5]? = some (.pointer (some ⟨wr.heap.size, 0, none⟩)) := by rw [← hA]; exact putsA_at 5 _ (by decide +kernel)
          clear hA hd
          refine wpOp_step rfl (fun K' hK' => ?_)
          go_simp
          exact hK' _ _ (hK _ hI)
        · generalize hA : putsA _ _ x (0 :: 1 :: 2 :: 3 :: 4 :: 5 :: 6 :: 7 :: 8 :: 9 :: 10 :: 11 :: 12 :: 13 :: []) = A at *
          have e16 : A.tmps[16]? = some (x 0) := by rw [← hA]; exact putsA_in (i := 0) 16 (by rfl) (by show (16 : Nat) < 35; decide) _ (by decide +kernel) (by decide)
          have f0 : x 0 = .pointer (some ⟨wr.heap.size, 1, none⟩) := hd 0 (by decide)
          rw [f0] at e16
          clear hA hd
          refine wpOp_step rfl (fun K' hK' => ?_)
          go_simp
          exact hK' _ _ (hK _ hI)
        · generalize hA : putsA _ _ x (0 :: 1 :: 2 :: 3 :: 4 :: 5 :: 6 :: 7 :: 8 :: 9 :: 10 :: 11 :: 12 :: 13 :: []) = A at *
          have e17 : A.tmps[17]? = some (x 1) := by rw [← hA]; exact putsA_in (i := 1) 17 (by rfl) (by show (17 : Nat) < 35; decide) _ (by decide +kernel) (by decide)
          have f1 : x 1 = .int .i64 q := hd 1 (by decide)
          rw [f1] at e17
          clear hA hd
          refine wpOp_step rfl (fun K' hK' => ?_)
          go_simp
          exact hK' _ _ (hK _ hI)
        · generalize hA : putsA _ _ x (0 :: 1 :: 2 :: 3 :: 4 :: 5 :: 6 :: 7 :: 8 :: 9 :: 10 :: 11 :: 12 :: 13 :: []) = A at *
          have e18 : A.tmps[18]? = some (x 2) := by rw [← hA]; exact putsA_in (i := 2) 18 (by rfl) (by show (18 : Nat) < 35; decide) _ (by decide +kernel) (by decide)
          have f2 : x 2 = .int .u64 uq := hd 2 (by decide)
          rw [f2] at e18
          clear hA hd
          refine wpOp_step rfl (fun K' hK' => ?_)
          go_simp
          refine (HEQ.out W).mono ?_
          rintro e w6 ⟨rfl, hb6⟩
          exact hK' _ _ (hK _ (HSB.out b _ _ hI hb6))
        · generalize hA : putsA _ _ x (0 :: 1 :: 2 :: 3 :: 4 :: 5 :: 6 :: 7 :: 8 :: 9 :: 10 :: 11 :: 12 :: 13 :: []) = A at *
          have e5 : A.tmps[5]? = some (.pointer (some ⟨wr.heap.size, 0, none⟩)) := by rw [← hA]; exact putsA_at 5 _ (by decide +kernel)
          clear hA hd
          refine wpOp_step rfl (fun K' hK' => ?_)
          go_simp
          exact hK' _ _ (hK _ hI)
        · generalize hA : putsA _ _ x (0 :: 1 :: 2 :: 3 :: 4 :: 5 :: 6 :: 7 :: 8 :: 9 :: 10 :: 11 :: 12 :: 13 :: []) = A at *
          have e20 : A.tmps[20]? = some (x 4) := by rw [← hA]; exact putsA_in (i := 4) 20 (by rfl) (by show (20 : Nat) < 35; decide) _ (by decide +kernel) (by decide)
          have f4 : x 4 = .pointer (some ⟨wr.heap.size, 2, none⟩) := hd 4 (by decide)
          rw [f4] at e20
          clear hA hd
          refine wpOp_step rfl (fun K' hK' => ?_)
          go_simp
          exact hK' _ _ (hK _ hI)
        · generalize hA : putsA _ _ x (0 :: 1 :: 2 :: 3 :: 4 :: 5 :: 6 :: 7 :: 8 :: 9 :: 10 :: 11 :: 12 :: 13 :: []) = A at *
          have e21 : A.tmps[21]? = some (x 5) := by rw [← hA]; exact putsA_in (i := 5) 21 (by rfl) (by show (21 : Nat) < 35; decide) _ (by decide +kernel) (by decide)
          have f5 : x 5 = .string S := hd 5 (by decide)
          rw [f5] at e21
          clear hA hd
          refine wpOp_step rfl (fun K' hK' => ?_)
          go_simp
          exact hK' _ _ (hK _ hI)
        · generalize hA : putsA _ _ x (0 :: 1 :: 2 :: 3 :: 4 :: 5 :: 6 :: 7 :: 8 :: 9 :: 10 :: 11 :: 12 :: 13 :: []) = A at *
          have e22 : A.tmps[22]? = some (x 6) := by rw [← hA]; exact putsA_in (i := 6) 22 (by rfl) (by show (22 : Nat) < 35; decide) _ (by decide +kernel) (by decide)
          have f6 : x 6 = .int .i64 (S.size : Int) := hd 6 (by decide)
          rw [f6] at e22
          clear hA hd
          refine wpOp_step rfl (fun K' hK' => ?_)
          go_simp
          exact hK' _ _ (hK _ hI)
        · generalize hA : putsA _ _ x (0 :: 1 :: 2 :: 3 :: 4 :: 5 :: 6 :: 7 :: 8 :: 9 :: 10 :: 11 :: 12 :: 13 :: []) = A at *
          have e23 : A.tmps[23]? = some (x 7) := by rw [← hA]; exact putsA_in (i := 7) 23 (by rfl) (by show (23 : Nat) < 35; decide) _ (by decide +kernel) (by decide)
          have f7 : x 7 = .int .u64 (S.size : Int) := hd 7 (by decide)
          rw [f7] at e23
          clear hA hd
          refine wpOp_step rfl (fun K' hK' => ?_)
          go_simp
          refine (HES.out W).mono ?_
          rintro e w6 ⟨rfl, hb6⟩
          exact hK' _ _ (hK _ (HSB.out b _ _ hI hb6))
        · generalize hA : putsA _ _ x (0 :: 1 :: 2 :: 3 :: 4 :: 5 :: 6 :: 7 :: 8 :: 9 :: 10 :: 11 :: 12 :: 13 :: []) = A at *
          have e19 : A.tmps[19]? = some (x 3) := by rw [← hA]; exact putsA_in (i := 3) 19 (by rfl) (by show (19 : Nat) < 35; decide) _ (by decide +kernel) (by decide)
          have f3 : x 3 = .string E1 := hd 3 (by decide)
          rw [f3] at e19
          have e24 : A.tmps[24]? = some (x 8) := by rw [← hA]; exact putsA_in (i := 8) 24 (by rfl) (by show (24 : Nat) < 35; decide) _ (by decide +kernel) (by decide)
          have f8 : x 8 = .string E2 := hd 8 (by decide)
          rw [f8] at e24
          clear hA hd
          refine wpOp_step rfl (fun K' hK' => ?_)
          go_simp
          exact hK' _ _ (hK _ hI)
        · generalize hA : putsA _ _ x (0 :: 1 :: 2 :: 3 :: 4 :: 5 :: 6 :: 7 :: 8 :: 9 :: 10 :: 11 :: 12 :: 13 :: []) = A at *
          have e5 : A.tmps[5]? = some (.pointer (some ⟨wr.heap.size, 0, none⟩)) := by rw [← hA]; exact putsA_at 5 _ (by decide +kernel)
          clear hA hd
          refine wpOp_step rfl (fun K' hK' => ?_)
          go_simp
          exact hK' _ _ (hK _ hI)
        · generalize hA : putsA _ _ x (0 :: 1 :: 2 :: 3 :: 4 :: 5 :: 6 :: 7 :: 8 :: 9 :: 10 :: 11 :: 12 :: 13 :: []) = A at *
          have e26 : A.tmps[26]? = some (x 10) := by rw [← hA]; exact putsA_in (i := 10) 26 (by rfl) (by show (26 : Nat) < 35; decide) _ (by decide +kernel) (by decide)
          have f10 : x 10 = .pointer (some ⟨wr.heap.size, 2, none⟩) := hd 10 (by decide)
          rw [f10] at e26
          clear hA hd
          refine wpOp_step rfl (fun K' hK' => ?_)
          go_simp
          exact hK' _ _ (hK _ hI)
        · generalize hA : putsA _ _ x (0 :: 1 :: 2 :: 3 :: 4 :: 5 :: 6 :: 7 :: 8 :: 9 :: 10 :: 11 :: 12 :: 13 :: []) = A at *
          have e25 : A.tmps[25]? = some (x 9) := by rw [← hA]; exact putsA_in (i := 9) 25 (by rfl) (by show (25 : Nat) < 35; decide) _ (by decide +kernel) (by decide)
          have f9 : x 9 = .string (E1 ++ E2) := hd 9 (by decide)
          rw [f9] at e25
          have e27 : A.tmps[27]? = some (x 11) := by rw [← hA]; exact putsA_in (i := 11) 27 (by rfl) (by show (27 : Nat) < 35; decide) _ (by decide +kernel) (by decide)
          have f11 : x 11 = .string S := hd 11 (by decide)
          rw [f11] at e27
          clear hA hd
          refine wpOp_step rfl (fun K' hK' => ?_)
          go_simp
          exact hK' _ _ (hK _ hI)
        · generalize hA : putsA _ _ x (0 :: 1 :: 2 :: 3 :: 4 :: 5 :: 6 :: 7 :: 8 :: 9 :: 10 :: 11 :: 12 :: 13 :: []) = A at *
          have e3 : A.tmps[3]? = some (.pointer (some ⟨w.heap.size + 2, 0, none⟩)) := by rw [← hA]; exact putsA_at 3 _ (by decide +kernel)
          have e28 : A.tmps[28]? = some (x 12) := by rw [← hA]; exact putsA_in (i := 12) 28 (by rfl) (by show (28 : Nat) < 35; decide) _ (by decide +kernel) (by decide)
          have f12 : x 12 = .string (E1 ++ E2 ++ S) := hd 12 (by decide)
          rw [f12] at e28
          clear hA hd
          have hbt := hbp rfl
          subst hbt
          refine wpOp_step rfl (fun K' hK' => ?_)
          go_simp
          refine (HW.out W hI).mono ?_
          rintro e w6 ⟨rfl, hI6⟩
          exact hK' _ _ (hK _ hI6)
      case hend =>
        intro x W b c hf hpf hqf hI
        obtain rfl : b = false := hpf (by decide)
        rw [putsA_lit _ _ (0 :: 1 :: 2 :: 3 :: 4 :: 5 :: 6 :: 7 :: 8 :: 9 :: 10 :: 11 :: 12 :: 13 :: []) ((16, 0) :: (17, 1) :: (18, 2) :: (19, 3) :: (20, 4) :: (21, 5) :: (22, 6) :: (23, 7) :: (24, 8) :: (25, 9) :: (26, 10) :: (27, 11) :: (28, 12) :: (29, 13) :: []) (by kernel_rfl)]
        simp only [setAll, ↓reduceIte, Nat.reduceAdd, Nat.reduceEqDiff]
        clear hf hpf hqf 
        have HSE := Lib.hid (show Rv w X L2 wr.heap.size (p, q, S) W from hI)
        clear hI HV HW HE HSB HS
        refine wpAny_done (by kernel_rfl) ?_ _
        refine NoPanic.normal ?_
        go_wp2
        go_roundw
        case rel => exact ⟨j + 1, by omega, by go_num, HL2.out ▸ HSE.out.1⟩
        case measure => simp [intOf]; omega
    · obtain rfl : j = n := by omega
      have hfull : X.k.take j = X.k := by rw [← HN.out, List.take_length]
      rw [hfull] at hrw
      have hst : Calls Try.prog 27 #[.pointer (some ⟨w.heap.size + 1 + 1, 0, none⟩)] wr.drew _ := rw_str (rw_step hrw (Below.refl _ _).drew) (by
        obtain ⟨a, l, hal⟩ := List.exists_cons_of_ne_nil HNE.out
        rw [hal]
        simp [kbL, kbV])
      obtain ⟨c0, c1, c2, c3, c4, c5⟩ := rw_cells (rw_step hrw (Below.refl _ _).drew)
      have HST := Lib.hid hst
      clear hrw hst hfull c1
      go_wp2_with fail
      go_region_with ((go_at_call 27; (with_reducible refine (HST.out).mono ?_); rintro e w3 ⟨rfl, hf3⟩; obtain ⟨r0, r1, r2, r3, r4⟩ := rf_cells hf3))
      all_goals
        have e0 := ((hf3.2.1.set_ 0 (.string X.t)).set_ 1 (.string (bstr (kbL X.k)))).cell 0
        have e1 := ((hf3.2.1.set_ 0 (.string X.t)).set_ 1 (.string (bstr (kbL X.k)))).cell 1
        have HB9 := Lib.hid ((hf3.2.2.setCell (p := ⟨w.heap.size + 1, 0, none⟩) (by simp) (.string X.t)).setCell (p := ⟨w.heap.size + 1, 1, none⟩) (by simp) (.string (bstr (kbL X.k))))
        clear hf3 r0 r1 r2 r3 r4 c0 c2 c3 c4 c5
        go_wp2
        exact bodyPost_ret (v := .agg #[.string X.t, .string (bstr (kbL X.k))]) (by simp [results, Try.results29, go_sem, e0, e1]) rfl ⟨rfl, HB9.out⟩
end Go.Proofs.Ytocbdehcjcggeaa
