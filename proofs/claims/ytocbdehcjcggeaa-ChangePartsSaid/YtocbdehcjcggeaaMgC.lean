/- Layer 22: what takes changes out of bytes. Conditions: those of each lemma. -/
import Derived.Test.YtocbdehcjcggeaaMgB
import Derived.Test.YtocbdehcjcggeaaRecT3
import Derived.BigRegion
import Derived.Test.YtocbdehcjcggeaaRec5
import Derived.Deep.RegionWith
import Derived.Test.YtocbdehcjcggeaaRecR1
namespace Go.Proofs.Ytocbdehcjcggeaa
open Go.RowKit Go
set_option linter.unusedVariables false
set_option linter.unusedSimpArgs false
/-- all blocks that were there stand, but g -/
structure Bt (g : Nat) (w w' : World) : Prop where
  os : w'.os = w.os
  tape : w'.tape = w.tape
  output : w'.output = w.output
  size : w.heap.size ≤ w'.heap.size
  block : ∀ k, k < w.heap.size → k ≠ g → w'.heap[k]? = w.heap[k]?
theorem bt_refl (g : Nat) (w : World) : Bt g w w := ⟨rfl, rfl, rfl, Nat.le_refl _, fun _ _ _ => rfl⟩
theorem bt_trans {g : Nat} {u v w : World} (h : Bt g u v) (k : Bt g v w) : Bt g u w := ⟨k.os.trans h.os, k.tape.trans h.tape, k.output.trans h.output, Nat.le_trans h.size k.size, fun i hi ha => (k.block i (Nat.lt_of_lt_of_le hi h.size) ha).trans (h.block i hi ha)⟩
theorem bt_of {g : Nat} {w w' : World} (h : Below w.heap.size w w') : Bt g w w' := ⟨h.os, h.tape, h.output, h.size, fun k hk _ => h.block k hk⟩
theorem bt_set {g i : Nat} {w : World} (u : Value) : Bt g w (w.setCell ⟨g, i, none⟩ u) := ⟨rfl, rfl, rfl, by simp [World.setCell], fun k _ ha => Below.heap_setCell _ _ _ _ ha⟩
theorem bt_below {g B : Nat} {w w' : World} (h : Bt g w w') (hg : B ≤ g) (hB : B ≤ w.heap.size) : Below B w w' := ⟨h.os, h.tape, h.output, h.size, fun k hk => h.block k (by omega) (by omega)⟩
theorem bt_blk {g k : Nat} {w w' : World} {t : TypeId} {cs : Array Value} (h : Bt g w w') (hk : Blk w k t cs) (hne : k ≠ g) : Blk w' k t cs := (h.block k hk.lt hne).trans hk
/-- a reader at a block: what is left, whether all is well -/
def Rd (W : World) (g : Nat) (L : List Nat) (b : Bool) : Prop := ∃ x : ByteArray, bts x = L ∧ x.size ≤ 1000000000 ∧ Blk W g 75 #[.string x, .bool b]
theorem rd_step {W W' : World} {g : Nat} {L : List Nat} {b : Bool} (h : Rd W g L b) (hb : Below W.heap.size W W') : Rd W' g L b := h.elim fun x hx => ⟨x, hx.1, hx.2.1, hx.2.2.below hb hx.2.2.lt⟩
theorem rd_bt {W W' : World} {g k : Nat} {L : List Nat} {b : Bool} (h : Rd W g L b) (hb : Bt k W W') (hne : g ≠ k) : Rd W' g L b := h.elim fun x hx => ⟨x, hx.1, hx.2.1, bt_blk hb hx.2.2 hne⟩
theorem rd_lt {W : World} {g : Nat} {L : List Nat} {b : Bool} (h : Rd W g L b) : ∀ y ∈ L, y < 256 := h.elim fun x hx => hx.1 ▸ bts_lt x
theorem rd_cells {W : World} {g : Nat} {x : ByteArray} {b : Bool} (h : Blk W g 75 #[.string x, .bool b]) : W.cell? ⟨g, 0, none⟩ = some (.string x) ∧ W.cell? ⟨g, 1, none⟩ = some (.bool b) ∧ W.frozen? ⟨g, 0, none⟩ = false ∧ W.frozen? ⟨g, 1, none⟩ = false := ⟨h.cell 0, h.cell 1, h.frozen 0, h.frozen 1⟩
/-- what a number taken tells: if all is still well, it stood there; and where one stands it is taken -/
def NumP (L : List Nat) (b : Bool) (n : Nat) (L' : List Nat) (b' : Bool) : Prop :=
  n < 18446744073709551616 ∧ L'.length ≤ L.length ∧ (b' = true → b = true ∧ L = putL n ++ L') ∧ (b = true → ∀ m R, m < 18446744073709551616 → L = putL m ++ R → n = m ∧ L' = R ∧ b' = true)
def NumQ (g : Nat) (L : List Nat) (b : Bool) (w : World) (e : Ending) (w' : World) : Prop := ∃ n L' b', e = .returned (.int .u64 (n : Nat)) ∧ NumP L b n L' b' ∧ Rd w' g L' b' ∧ Bt g w w'
theorem numP_of {L : List Nat} {b : Bool} (hl : ∀ y ∈ L, y < 256) : NumP L b (takeS L).1 (L.drop (takeS L).2.1) (b && decide ((takeS L).2.2 = 0)) := by
  have h1 := takeS_le hl
  refine ⟨h1.2, by rw [List.length_drop]; omega, fun h => ?_, fun hb m R hm hL => ?_⟩
  · simp only [Bool.and_eq_true, decide_eq_true_eq] at h
    obtain ⟨e1, e2, e3⟩ := takeS_some hl h.2
    exact ⟨h.1, by rw [e2, List.take_append_drop]⟩
  · subst hL
    rw [takeS_put m R hm]
    refine ⟨rfl, ?_, by simp [hb]⟩
    show (putL m ++ R).drop (sz m) = R
    rw [← putL_length, List.drop_left]
set_option maxRecDepth 100000 in
set_option maxHeartbeats 8000000 in
theorem rnumber_det (g : Nat) (L : List Nat) (b : Bool) (w : World) (h : Rd w g L b) :
    Calls Try.prog 40 #[.pointer (some ⟨g, 0, none⟩)] w fun e w' => e = .returned (.int .u64 ((takeS L).1 : Nat)) ∧ Rd w' g (L.drop (takeS L).2.1) (b && decide ((takeS L).2.2 = 0)) ∧ Bt g w w' := by
  obtain ⟨x, rfl, hx, hblk⟩ := h
  have hT := take_any x w (by unfold maxLen; omega)
  have HP := Lib.hid (numP_of (b := b) (bts_lt x))
  have hle := takeS_le (bts_lt x)
  have hcut := bts_cutr x (takeS (bts x)).2.1
  have hes := takeS_e (bts x)
  unfold Took at hT
  obtain ⟨n, hn⟩ : ∃ n, (takeS (bts x)).1 = n := ⟨_, rfl⟩
  obtain ⟨k, hk⟩ : ∃ k, (takeS (bts x)).2.1 = k := ⟨_, rfl⟩
  obtain ⟨e, he⟩ : ∃ e, (takeS (bts x)).2.2 = e := ⟨_, rfl⟩
  rw [hn, hk, he] at HP hT
  rw [hn, hk, he]
  rw [hk] at hcut hle
  rw [he] at hes
  rw [bts_length] at hle
  have HT := Lib.hid hT
  have HCUT := Lib.hid hcut
  have HBLK := Lib.hid hblk
  have HX := Lib.hid hx
  have hkI : (k : Int) ≤ x.size := by omega
  have h0k : (0 : Int) ≤ k := by omega
  clear hT hcut hblk hn hk he hle hx
  obtain ⟨c0, c1, f0, f1⟩ := rd_cells HBLK.out
  go_enter Try.func40, Try.ntmps40
  go_wp2_with fail
  refine (HT.out).mono ?_
  rintro er w1 ⟨rfl, hb1⟩
  have hblk1 := HBLK.out.below hb1 HBLK.out.lt
  have HB1 := Lib.hid hb1
  have HBL1 := Lib.hid hblk1
  obtain ⟨d0, d1, e0, e1⟩ := rd_cells hblk1
  clear c0 c1 f0 f1 hb1 hblk1
  have hsx : (x.extract k x.size).size ≤ 1000000000 := by rw [ByteArray.size_extract]; have := HX.out; omega
  have HSX := Lib.hid hsx
  clear hsx
  have he3 : e = 0 ∨ e = 10 ∨ e = 11 := by omega
  clear hes
  rcases b with _ | _ <;> rcases he3 with rfl | rfl | rfl
  all_goals
    go_wp2_with fail
    go_ret
    exact ⟨rfl, ⟨_, HCUT.out, HSX.out, ((HBL1.out.set_ 1 _).set_ 0 _)⟩, bt_trans (bt_trans (bt_of HB1.out) (bt_set _)) (bt_set _)⟩
theorem rnumber_any (g : Nat) (L : List Nat) (b : Bool) (w : World) (h : Rd w g L b) :
    Calls Try.prog 40 #[.pointer (some ⟨g, 0, none⟩)] w (NumQ g L b w) :=
  (rnumber_det g L b w h).mono fun e w' he => ⟨_, _, _, he.1, numP_of (rd_lt h), he.2.1, he.2.2⟩
/-- what a text taken tells -/
def TexP (L : List Nat) (b : Bool) (n : Nat) (s : ByteArray) (L' : List Nat) (b' : Bool) : Prop :=
  L'.length ≤ L.length ∧ s.size ≤ 1000000000 ∧ (b' = true → b = true ∧ s.size = n ∧ L = bts s ++ L') ∧ (b = true → ∀ S R, S.length = n → L = S ++ R → bts s = S ∧ L' = R ∧ b' = true) ∧ (s.size = n ∧ L = bts s ++ L' ∧ b' = b ∨ s = ⟨#[]⟩ ∧ L' = L ∧ b' = false ∧ L.length < n)
/-- a text taken: it, what is left, whether all is well -/
def txF (L : List Nat) (n : Nat) (b : Bool) : ByteArray × List Nat × Bool := if L.length < n then (⟨#[]⟩, L, false) else (bstr (L.take n), L.drop n, b)
def TexQ (g : Nat) (L : List Nat) (b : Bool) (n : Nat) (w : World) (e : Ending) (w' : World) : Prop := ∃ s L' b', e = .returned (.string s) ∧ TexP L b n s L' b' ∧ Rd w' g L' b' ∧ Bt g w w'
set_option maxRecDepth 100000 in
set_option maxHeartbeats 8000000 in
theorem rtext_det (g n : Nat) (L : List Nat) (b : Bool) (w : World) (h : Rd w g L b) (hn : n < 18446744073709551616) :
    Calls Try.prog 67 #[.pointer (some ⟨g, 0, none⟩), .int .u64 n] w fun e w' => e = .returned (.string (txF L n b).1) ∧ TexP L b n (txF L n b).1 (txF L n b).2.1 (txF L n b).2.2 ∧ Rd w' g (txF L n b).2.1 (txF L n b).2.2 ∧ Bt g w w' := by
  obtain ⟨x, rfl, hx, hblk⟩ := h
  have HBLK := Lib.hid hblk
  have HX := Lib.hid hx
  have hwx : IntKind.u64.wrap (x.size : Int) = x.size := by rw [IntKind.wrap_u64]; omega
  obtain ⟨c0, c1, f0, f1⟩ := rd_cells hblk
  by_cases hgt : x.size < n
  · have hgI : (x.size : Int) < n := by omega
    have HP := Lib.hid (show TexP (bts x) b n ⟨#[]⟩ (bts x) false from ⟨Nat.le_refl _, by decide, fun h => (by cases h), fun _ S R hS hL => absurd (congrArg List.length hL) (by rw [bts_length, List.length_append]; omega), .inr ⟨rfl, rfl, rfl, by rw [bts_length]; exact hgt⟩⟩)
    have htx : txF (bts x) n b = (⟨#[]⟩, bts x, false) := by unfold txF; rw [if_pos (by rw [bts_length]; exact hgt)]
    rw [htx]
    clear htx
    clear hblk hx hgt hn
    go_enter Try.func67, Try.ntmps67
    go_wp2_with fail
    go_ret
    exact ⟨rfl, HP.out, ⟨x, rfl, HX.out, HBLK.out.set_ 1 _⟩, bt_set _⟩
  · have hgI : ¬ ((x.size : Int) < n) := by omega
    have hle : (n : Int) ≤ x.size := by omega
    have h0n : (0 : Int) ≤ n := by omega
    have hc0 : bts (x.extract 0 n) = (bts x).take n := by
      have := bts_cutn x 0 n
      rw [Nat.zero_add, List.drop_zero] at this
      exact this
    have hc1 := bts_cutr x n
    have hsz : (x.extract 0 n).size = n := by rw [ByteArray.size_extract]; omega
    have HP := Lib.hid (show TexP (bts x) b n (x.extract 0 n) ((bts x).drop n) b from by
      refine ⟨by rw [List.length_drop]; omega, by omega, fun h => ⟨h, hsz, by rw [hc0, List.take_append_drop]⟩, fun hb S R hS hL => ?_, .inl ⟨hsz, by rw [hc0, List.take_append_drop], rfl⟩⟩
      rw [hc0, hL, ← hS, List.take_left, List.drop_left]
      exact ⟨rfl, rfl, hb⟩)
    have HC1 := Lib.hid hc1
    have HSX := Lib.hid (show (x.extract n x.size).size ≤ 1000000000 from by rw [ByteArray.size_extract]; omega)
    have htx : txF (bts x) n b = (x.extract 0 n, (bts x).drop n, b) := by unfold txF; rw [if_neg (by rw [bts_length]; exact hgt), ← hc0, bstr_bts]
    rw [htx]
    clear htx
    clear hblk hx hgt hn hc0 hc1 hsz
    go_enter Try.func67, Try.ntmps67
    go_wp2_with fail
    go_ret
    exact ⟨rfl, HP.out, ⟨_, HC1.out, HSX.out, HBLK.out.set_ 0 _⟩, bt_set _⟩
theorem rtext_any (g n : Nat) (L : List Nat) (b : Bool) (w : World) (h : Rd w g L b) (hn : n < 18446744073709551616) :
    Calls Try.prog 67 #[.pointer (some ⟨g, 0, none⟩), .int .u64 n] w (TexQ g L b n w) :=
  (rtext_det g n L b w h hn).mono fun e w' he => ⟨_, _, _, he.1, he.2.1, he.2.2.1, he.2.2.2⟩
end Go.Proofs.Ytocbdehcjcggeaa
namespace Go.Proofs.Ytocbdehcjcggeaa
open Go.RowKit Go
set_option linter.unusedVariables false
set_option linter.unusedSimpArgs false
def RowP (L : List Nat) (b : Bool) (l : List Val) (L' : List Nat) (b' : Bool) : Prop :=
  L'.length ≤ L.length ∧ (b' = true → b = true ∧ chkR l = 0 ∧ (recL l).length ≤ 4000 ∧ L = textL (recL l) ++ L') ∧
    (b = true → ∀ l0 R, chkR l0 = 0 → (recL l0).length ≤ 4000 → (∀ x ∈ l0, Fits x) → L = textL (recL l0) ++ R → l = l0 ∧ L' = R ∧ b' = true)
theorem rowP_of {L L1 L2 : List Nat} {b b1 b2 b' : Bool} {n : Nat} {s : ByteArray} {l : List Val} {er : Int} (hn : NumP L b n L1 b1) (ht : TexP L1 b1 n s L2 b2) (hk : (takeR (bts s) = none ∧ l = [] ∧ er = 7) ∨ (takeR (bts s) = some l ∧ er = 0)) (hb' : b' = (b2 && decide (er = 0))) : RowP L b l L2 b' := by
  refine ⟨Nat.le_trans ht.1 hn.2.1, fun h => ?_, fun hb l0 R hc h4 hf hL => ?_⟩
  · rw [hb'] at h
    simp only [Bool.and_eq_true, decide_eq_true_eq] at h
    rcases hk with ⟨_, _, he⟩ | ⟨hk, _⟩
    · omega
    · obtain ⟨e1, e2, e3, e4⟩ := takeR_some (bts_lt s) hk
      obtain ⟨t1, t2, t3⟩ := ht.2.2.1 h.1
      obtain ⟨n1, n2⟩ := hn.2.2.1 t1
      refine ⟨n1, e2, by rw [e1]; exact e3, ?_⟩
      rw [n2, t3, textL, e1, bts_length, t2, List.append_assoc]
  · unfold textL at hL
    rw [List.append_assoc] at hL
    obtain ⟨n1, n2, n3⟩ := hn.2.2.2 hb _ _ (by omega) hL
    obtain ⟨t1, t2, t3⟩ := ht.2.2.2.1 n3 (recL l0) R n1.symm n2
    have htk := takeR_put l0 hf hc h4
    rw [t1, htk] at hk
    rcases hk with ⟨hk, _⟩ | ⟨hk, he⟩
    · cases hk
    · exact ⟨(Option.some.inj hk).symm, t2, by rw [hb', t3, he]; rfl⟩
/-- what is answered where a row is taken -/
def RowQ (g : Nat) (L : List Nat) (b : Bool) (w : World) (e : Ending) (w' : World) : Prop := ∃ A n c l L' b', e = .returned (.slice A n c) ∧ Vals w' w'.heap.size A l ∧ n = l.length ∧ n ≤ 16 ∧ (∀ x ∈ l, Fits x) ∧ RowP L b l L' b' ∧ Rd w' g L' b' ∧ Bt g w w' ∧ ValT w' A l
/-- the box that holds where the reader is -/
def Bx (W : World) (q g : Nat) : Prop := Blk W q 102 #[.pointer (some ⟨g, 0, none⟩)]
theorem bx_ne {W : World} {q g : Nat} {L : List Nat} {b : Bool} (h : Bx W q g) (hr : Rd W g L b) : q ≠ g := by
  rintro rfl
  obtain ⟨x, _, _, hb⟩ := hr
  unfold Bx Blk at h
  unfold Blk at hb
  rw [h] at hb
  simp only [Option.some.injEq, Obj.cells.injEq] at hb
  exact absurd hb.2.1 (by decide)
theorem bx_bt {W W' : World} {q g : Nat} (h : Bx W q g) (hb : Bt g W W') (hne : q ≠ g) : Bx W' q g := bt_blk hb h hne
theorem vals_bt {W W' : World} {g B : Nat} {A : Option Addr} {l : List Val} {L : List Nat} {b : Bool} (h : Vals W B A l) (hr : Rd W g L b) (hB : B ≤ W.heap.size) (hb : Bt g W W') : Vals W' B A l := by
  rcases h with h | ⟨bb, o, hA, hlt, hc⟩
  · exact .inl h
  · by_cases hl : l = []
    · exact .inl hl
    · have hne : bb ≠ g := by
        rintro rfl
        obtain ⟨x, _, _, hblk⟩ := hr
        obtain ⟨y, l', hy⟩ := List.exists_cons_of_ne_nil hl
        have h0 := (hc 0 y (by rw [hy]; rfl)).1
        rw [hblk.cell] at h0
        match o, h0 with
        | 0, h0 => simp at h0
        | 1, h0 => simp at h0
        | o + 2, h0 => simp at h0
      refine .inr ⟨bb, o, hA, hlt, fun j x hx => ?_⟩
      obtain ⟨c0, c1, c2⟩ := hc j x hx
      have hbk := hb.block bb (by omega) hne
      exact ⟨(World.cell?_of_block (a := ⟨bb, o + j * 3, none⟩) hbk).trans c0, (World.cell?_of_block (a := ⟨bb, o + j * 3 + 1, none⟩) hbk).trans c1, (World.cell?_of_block (a := ⟨bb, o + j * 3 + 2, none⟩) hbk).trans c2⟩
theorem valT_bt {W W' : World} {g : Nat} {A : Option Addr} {l : List Val} {L : List Nat} {b : Bool} (h : ValT W A l) (hr : Rd W g L b) (hb : Bt g W W') : ValT W' A l := by
  rcases h with h | ⟨bb, o, cs, hA, hblk⟩
  · exact .inl h
  · have hne : bb ≠ g := by
      rintro rfl
      obtain ⟨x, _, _, hk⟩ := hr
      unfold Blk at hblk hk
      rw [hblk] at hk
      simp only [Option.some.injEq, Obj.cells.injEq] at hk
      exact absurd hk.2.1 (by decide)
    exact .inr ⟨bb, o, cs, hA, bt_blk hb hblk hne⟩
theorem valT_own {W : World} {base n c : Nat} {A : Option Addr} {l : List Val} (h : W.ownsRow base 56 3 (.slice A n c) n (valCs l)) (hl : l.length = n) : ValT W A l := by
  rcases h.2 with ⟨_, h0⟩ | ⟨g, cap, cur, hv, _, hk, _⟩
  · exact .inl (List.eq_nil_of_length_eq_zero (by omega))
  · simp only [Value.slice.injEq] at hv
    exact .inr ⟨g, 0, cur, hv.1, hk⟩
set_option maxRecDepth 100000 in
set_option maxHeartbeats 16000000 in
theorem rrow_any (g q : Nat) (L : List Nat) (b : Bool) (w : World) (h : Rd w g L b) (hq : Bx w q g) :
    Calls Try.prog 65 #[.pointer (some ⟨q, 0, none⟩)] w (RowQ g L b w) := by
  have hne := bx_ne hq h
  have HQ := Lib.hid hq
  have HNE := Lib.hid hne
  have HRN := Lib.hid (show Calls Try.prog 40 #[.pointer (some ⟨g, 0, none⟩)] w.drew (NumQ g L b w.drew) from rnumber_any g L b w.drew h)
  have c0 : w.drew.cell? ⟨q, 0, none⟩ = some (.pointer (some ⟨g, 0, none⟩)) := hq.cell 0
  have d0 : w.cell? ⟨q, 0, none⟩ = some (.pointer (some ⟨g, 0, none⟩)) := hq.cell 0
  clear h hq hne
  go_enter Try.func65, Try.ntmps65
  go_wp2_with fail
  go_region_with (first
    | (go_at_call 40; (with_reducible refine (HRN.out).mono ?_); rintro e w1 ⟨n1, L1, b1, rfl, hp1, hr1, hbt1⟩; (have x1 := (bx_bt HQ.out (bt_trans (bt_of (Below.refl _ _).drew) hbt1) HNE.out).cell 0); (have HP1 := Lib.hid hp1); (have HR1 := Lib.hid hr1); (have HBT1 := Lib.hid hbt1); clear hp1 hr1 hbt1)
    | (go_at_call 67; go_loud (refine (rtext_any g n1 L1 b1 w1 HR1.out HP1.out.1).mono ?_); rintro e w2 ⟨s2, L2, b2, rfl, hp2, hr2, hbt2⟩; (have x2 := (bx_bt (bx_bt HQ.out (bt_trans (bt_of (Below.refl _ _).drew) HBT1.out) HNE.out) hbt2 HNE.out).cell 0); (have HP2 := Lib.hid hp2); (have HR2 := Lib.hid hr2); (have HBT2 := Lib.hid hbt2); clear hp2 hr2 hbt2)
    | (go_at_call 66; (with_reducible refine (rtake_t s2 w2).mono ?_); rintro e w3 ⟨A3, n3, c3, e3, l3, rfl, hv3, hn3, h16, hf3, hb3, hk3, ht3⟩; (have HT3 := Lib.hid ht3); (have HV3 := Lib.hid hv3); (have HN3 := Lib.hid (And.intro hn3 h16)); (have HF3 := Lib.hid hf3); (have HB3 := Lib.hid hb3); (have HK3 := Lib.hid hk3); clear hv3 hn3 h16 hf3 hb3 hk3 ht3))
  all_goals
    obtain ⟨x, hx, hxs, hblk⟩ := rd_step HR2.out HB3.out
    have hq3 := bx_bt (bx_bt (bx_bt HQ.out (bt_trans (bt_of (Below.refl _ _).drew) HBT1.out) HNE.out) HBT2.out HNE.out) (bt_of HB3.out) HNE.out
    have y0 : w3.cell? ⟨q, 0, none⟩ = some (.pointer (some ⟨g, 0, none⟩)) := hq3.cell 0
    have y1 : w3.cell? ⟨g, 1, none⟩ = some (.bool b2) := hblk.cell 1
    have y2 : w3.frozen? ⟨g, 1, none⟩ = false := hblk.frozen 1
    have z0 : w3.drew.cell? ⟨q, 0, none⟩ = some (.pointer (some ⟨g, 0, none⟩)) := y0
    have z1 : w3.drew.cell? ⟨g, 1, none⟩ = some (.bool b2) := y1
    have z2 : w3.drew.frozen? ⟨g, 1, none⟩ = false := y2
    have hrp := rowP_of (b' := b2 && decide (e3 = 0)) HP1.out HP2.out HK3.out rfl
    have HRP := Lib.hid hrp
    have HBLK := Lib.hid hblk
    have HXX := Lib.hid (And.intro hx hxs)
    have HBF := Lib.hid (bt_trans (bt_trans (bt_trans (bt_of (Below.refl _ _).drew) HBT1.out) HBT2.out) (bt_of HB3.out))
    have HE := Lib.hid (show e3 = 0 ∨ e3 = 7 from by rcases HK3.out with ⟨_, _, h⟩ | ⟨_, h⟩; exact .inr h; exact .inl h)
    have HRD3 := Lib.hid (rd_step HR2.out HB3.out)
    clear hx hxs hblk hq3 hrp x1 x2 c0 d0
    rcases b2 with _ | _ <;> rcases HE.out with rfl | rfl
    all_goals
      go_wp2_with fail
      go_region
      all_goals
        by_cases hn0 : n3 = 0
        · have hl3 : l3 = [] := List.eq_nil_of_length_eq_zero (by have := HN3.out.1; omega)
          have HL3 := Lib.hid hl3
          subst hn0
          clear hl3
          go_wp2
          go_ret
          refine ⟨_, _, _, l3, _, _, rfl, .inl HL3.out, HN3.out.1, by omega, HF3.out, HRP.out, ⟨x, HXX.out.1, HXX.out.2, HBLK.out.drew.set_ 1 _⟩, bt_trans (bt_trans HBF.out (bt_of (Below.refl _ _).drew)) (bt_set _), .inl HL3.out⟩
        · have hnb : ((n3 : Int) == 0) = false := int_zero hn0
          have HN0 := Lib.hid hn0
          clear hn0
          go_wp2
          go_ret
          refine ⟨_, _, _, l3, _, _, rfl, ?_, HN3.out.1, HN3.out.2, HF3.out, HRP.out, ⟨x, HXX.out.1, HXX.out.2, HBLK.out.drew.set_ 1 _⟩, bt_trans (bt_trans HBF.out (bt_of (Below.refl _ _).drew)) (bt_set _), valT_bt HT3.out HRD3.out (bt_trans (bt_of (Below.refl _ _).drew) (bt_set _))⟩
          exact vals_mono (vals_bt HV3.out HRD3.out (Nat.le_refl _) (bt_trans (bt_of (Below.refl _ _).drew) (bt_set _))) (by simp [World.setCell])
end Go.Proofs.Ytocbdehcjcggeaa
namespace Go.Proofs.Ytocbdehcjcggeaa
open Go.RowKit Go
set_option linter.unusedVariables false
set_option linter.unusedSimpArgs false
theorem bt_far {g : Nat} {u w : World} (h : Bt g u w) {p : Addr} (hp : u.heap.size ≤ p.block) (x : Value) : Bt g u (w.setCell p x) := ⟨h.os, h.tape, h.output, by simpa [World.setCell] using h.size, fun k hk ha => (Below.heap_setCell _ _ _ _ (by omega)).trans (h.block k hk ha)⟩
/-- what of a value's bytes was taken -/
def BodP (L : List Nat) (b : Bool) (tag : Nat) (B L1 : List Nat) (b1 : Bool) : Prop :=
  L1.length ≤ L.length ∧ (b1 = true → b = true ∧ L = B ++ L1) ∧ (b = true → ∀ v0 R, Fits v0 → chk v0 = 0 → tagN v0 = tag → L = bodyL v0 ++ R → B = bodyL v0 ∧ L1 = R ∧ b1 = true) ∧ (∀ y ∈ B, y < 256) ∧ B.length ≤ 1000000000
def ValP (L : List Nat) (b : Bool) (tag : Nat) (v : Val) (L' : List Nat) (b' : Bool) : Prop :=
  L'.length ≤ L.length ∧ (b' = true → b = true ∧ chk v = 0 ∧ tagN v = tag ∧ L = bodyL v ++ L') ∧ (b = true → ∀ v0 R, Fits v0 → chk v0 = 0 → tagN v0 = tag → L = bodyL v0 ++ R → v = v0 ∧ L' = R ∧ b' = true)
theorem tag_cases {v : Val} (h : chk v = 0) (hf : Fits v) : (v.1 = 0 ∧ tagN v = 0 ∧ bodyL v = []) ∨ (v.1 = 1 ∧ tagN v = 1 ∧ bodyL v = putL (foldN v.2.1)) ∨ (2 ≤ tagN v ∧ bodyL v = bts v.2.2 ∧ tagN v / 2 - 1 = v.2.2.size) := by
  obtain ⟨h1, h2, h3, h4⟩ := chk_of h
  obtain ⟨p, q, s⟩ := v
  simp only at h1 h2 h3
  have h0 := hf.1
  simp only at h0
  unfold tagN bodyL
  simp only
  by_cases e0 : p = 0
  · refine .inl ⟨e0, by rw [if_pos e0], ?_⟩
    rw [if_neg (by omega)]
    exact List.eq_nil_of_length_eq_zero (by rw [bts_length]; exact h3 (by omega))
  · by_cases e1 : p = 1
    · exact .inr (.inl ⟨e1, by rw [if_neg e0, if_pos e1], by rw [if_pos e1]⟩)
    · refine .inr (.inr ?_)
      rw [if_neg e0, if_neg e1, if_neg e1]
      by_cases e2 : p = 2
      · rw [if_pos e2]; exact ⟨by omega, rfl, by omega⟩
      · rw [if_neg e2]; exact ⟨by omega, rfl, by omega⟩
theorem bod_0 (L : List Nat) (b : Bool) : BodP L b 0 [] L b := ⟨Nat.le_refl _, fun h => ⟨h, rfl⟩, fun hb v0 R hf hc ht hL => by
  rcases tag_cases hc hf with ⟨_, _, h⟩ | ⟨_, h, _⟩ | ⟨h, _, _⟩
  · rw [h] at hL ⊢; exact ⟨rfl, hL, hb⟩
  · omega
  · omega, fun y hy => (by cases hy), by simp⟩
theorem bod_1 {L L1 : List Nat} {b b1 : Bool} {n : Nat} (h : NumP L b n L1 b1) : BodP L b 1 (putL n) L1 b1 := ⟨h.2.1, h.2.2.1, fun hb v0 R hf hc ht hL => by
  rcases tag_cases hc hf with ⟨_, h', _⟩ | ⟨_, _, h'⟩ | ⟨h', _, _⟩
  · omega
  · rw [h'] at hL ⊢
    obtain ⟨e1, e2, e3⟩ := h.2.2.2 hb _ R (foldN_lt hf.2.2.1 hf.2.2.2) hL
    exact ⟨by rw [e1], e2, e3⟩
  · omega, putL_lt n, by rw [putL_length]; have := (sz_le n).2; omega⟩
theorem bod_2 {L L1 : List Nat} {b b1 : Bool} {tag : Nat} {s : ByteArray} (ht2 : 2 ≤ tag) (h : TexP L b (tag / 2 - 1) s L1 b1) : BodP L b tag (bts s) L1 b1 := ⟨h.1, fun hb => by
  obtain ⟨e1, _, e3⟩ := h.2.2.1 hb
  exact ⟨e1, e3⟩, fun hb v0 R hf hc ht hL => by
  rcases tag_cases hc hf with ⟨_, h', _⟩ | ⟨_, h', _⟩ | ⟨_, h', h''⟩
  · omega
  · omega
  · rw [h'] at hL ⊢
    rw [ht] at h''
    exact h.2.2.2.1 hb (bts v0.2.2) R (by rw [bts_length]; omega) hL, bts_lt s, by rw [bts_length]; exact h.2.1⟩
theorem take_one {tag : Nat} {B : List Nat} {row : List Val} (ht : tag < 18446744073709551616) (hB : ∀ y ∈ B, y < 256) (h : takeR (1 :: (putL tag ++ B)) = some row) : ∃ v, row = [v] ∧ tagN v = tag ∧ bodyL v = B ∧ chk v = 0 ∧ Fits v := by
  obtain ⟨e1, e2, e3, e4⟩ := takeR_some (by
    intro y hy
    rcases List.mem_cons.1 hy with rfl | hy
    · omega
    · rcases List.mem_append.1 hy with hy | hy
      · exact putL_lt _ _ hy
      · exact hB y hy) h
  have hlen : row.length = 1 := by
    unfold recL at e1
    exact (List.cons.inj e1).1
  match row, hlen with
  | [v], _ =>
    rw [rec_one] at e1
    have e5 := (List.cons.inj e1).2
    have hfv := e4 v (List.mem_singleton.2 rfl)
    have hcv : chk v = 0 := chkL_mem (chkR_chkL e2) v (List.mem_singleton.2 rfl)
    have htv : tagN v < 18446744073709551616 := tagN_lt (by have := (chk_of hcv).2.2.2; omega)
    have e6 := congrArg takeS e5
    rw [takeS_put _ _ htv, takeS_put _ _ ht] at e6
    have e7 : tagN v = tag := (Prod.mk.inj e6).1
    rw [e7] at e5
    exact ⟨v, rfl, e7, List.append_cancel_left e5, hcv, hfv⟩
theorem valP_of {L B L1 : List Nat} {b b1 b' : Bool} {tag : Nat} {l : List Val} {er : Int} {v : Val} (ht : tag < 18446744073709551616) (hB : BodP L b tag B L1 b1) (hk : (takeR (1 :: (putL tag ++ B)) = none ∧ l = [] ∧ er = 7) ∨ (takeR (1 :: (putL tag ++ B)) = some l ∧ er = 0)) (hv : er = 0 → l = [v]) (hb' : b' = (b1 && decide (er = 0))) : ValP L b tag v L1 b' := by
  refine ⟨hB.1, fun h => ?_, fun hb v0 R hf hc htg hL => ?_⟩
  · rw [hb'] at h
    simp only [Bool.and_eq_true, decide_eq_true_eq] at h
    obtain ⟨h1, h2⟩ := hB.2.1 h.1
    rcases hk with ⟨_, _, he⟩ | ⟨hk, he⟩
    · omega
    · obtain ⟨v', hv', e1, e2, e3, e4⟩ := take_one ht hB.2.2.2.1 hk
      rw [hv he] at hv'
      obtain rfl := (List.cons.inj hv').1
      exact ⟨h1, e3, e1, by rw [e2]; exact h2⟩
  · obtain ⟨e1, e2, e3⟩ := hB.2.2.1 hb v0 R hf hc htg hL
    have hrec : 1 :: (putL tag ++ B) = recL [v0] := by rw [rec_one, htg, e1]
    have htk := takeR_put [v0] (fun y hy => by rw [List.mem_singleton.1 hy]; exact hf) (chk_one hc) (by have := (rec_one_len hc).2; omega)
    rw [hrec, htk] at hk
    rcases hk with ⟨hk, _⟩ | ⟨hk, he⟩
    · cases hk
    · have h1 := hv he
      rw [← Option.some.inj hk] at h1
      exact ⟨((List.cons.inj h1).1).symm, e2, by rw [hb', e3, he]; rfl⟩
def ValQ (g : Nat) (L : List Nat) (b : Bool) (tag : Nat) (w : World) (e : Ending) (w' : World) : Prop := ∃ v L' b', e = .returned (valV v) ∧ Fits v ∧ ValP L b tag v L' b' ∧ Rd w' g L' b' ∧ Bt g w w'
/-- the zero value that waits for its answer -/
def Zv (w : World) (W : World) : Prop := Blk W w.heap.size 56 #[.int .u8 0, .int .i64 0, .string ⟨#[]⟩]
theorem one_bts (X : ByteArray) (L : List Nat) (h : bts X = L) : bts ((⟨#[1]⟩ : ByteArray) ++ X) = 1 :: L := by
  have ha : ∀ a b : ByteArray, bts (a ++ b) = bts a ++ bts b := fun a b => by simp [bts]
  rw [ha, h]; rfl
theorem app_bts (X Y : ByteArray) : bts (X ++ Y) = bts X ++ bts Y := by simp [bts]
/-- from record.Take on -/
def TailH (g : Nat) (L : List Nat) (b : Bool) (tag : Nat) (w : World) (S : ByteArray) (b1 : Bool) (W : World) : Prop := ∃ B L1, bts S = 1 :: (putL tag ++ B) ∧ BodP L b tag B L1 b1 ∧ Rd W g L1 b1 ∧ Zv w W ∧ Bt g w W ∧ g < w.heap.size
set_option maxRecDepth 100000 in
set_option maxHeartbeats 16000000 in
theorem rvalue_any (g tag : Nat) (L : List Nat) (b : Bool) (w : World) (h : Rd w g L b) (ht : tag < 18446744073709551616) :
    Calls Try.prog 93 #[.pointer (some ⟨g, 0, none⟩), .int .u64 tag] w (ValQ g L b tag w) := by
  have hgl : g < w.heap.size := h.elim fun x hx => hx.2.2.lt
  have HR0 := Lib.hid (rd_step h (one_allocC (o := .cells #[.int .u8 0, .int .i64 0, .string ⟨#[]⟩] 56)))
  have HZ0 := Lib.hid (show Zv w (w.alloc (.cells #[.int .u8 0, .int .i64 0, .string ⟨#[]⟩] 56)) from Blk.new _ _ _)
  have HGL := Lib.hid hgl
  have HT := Lib.hid ht
  obtain ⟨PT, hPT⟩ : ∃ PT, bstr (putL tag) = PT := ⟨_, rfl⟩
  have hPTz : PT.size ≤ 9 := by rw [← hPT, bstr_size, putL_length]; exact (sz_le _).2
  have hPTb : bts PT = putL tag := by rw [← hPT, bts_bstr _ (putL_lt _)]
  have hpt := put_any tag (w.alloc (.cells #[.int .u8 0, .int .i64 0, .string ⟨#[]⟩] 56)) ht
  rw [hPT] at hpt
  have HPT := Lib.hid hpt
  obtain ⟨S1, hS1⟩ : ∃ S1, (⟨#[1]⟩ : ByteArray) ++ PT = S1 := ⟨_, rfl⟩
  have hS1b : bts S1 = 1 :: putL tag := by rw [← hS1]; exact one_bts _ _ hPTb
  have hS1z : S1.size ≤ 10 := by rw [← bts_length, hS1b, List.length_cons, putL_length]; have := (sz_le tag).2; omega
  have k1 : (⟨#[1]⟩ : ByteArray).size + PT.size ≤ 9223372036854775807 := by show 1 + PT.size ≤ _; omega
  have k2 : ¬ (9223372036854775807 < (⟨#[1]⟩ : ByteArray).size + PT.size) := by show ¬ (_ < 1 + PT.size); omega
  have k3 : ((⟨#[1]⟩ : ByteArray).size : Int) + PT.size ≤ 9223372036854775807 := by show (1 : Int) + PT.size ≤ _; omega
  have k4 : 1 + PT.size ≤ 9223372036854775807 := by omega
  have k5 : ¬ (9223372036854775807 < 1 + PT.size) := by omega
  have k6 : (1 : Int) + PT.size ≤ 9223372036854775807 := by omega
  have HS1 := Lib.hid (And.intro hS1b hS1z)
  clear h hgl ht hPT hPTb hpt hS1b hPTz hS1z
  go_enter Try.func93, Try.ntmps93
  go_wp2_with fail
  refine (HPT.out).mono ?_
  rintro e w1 ⟨rfl, hb1⟩
  have HR1 := Lib.hid (rd_step HR0.out hb1)
  have HZ1 := Lib.hid (show Zv w w1 from HZ0.out.below hb1 HZ0.out.lt)
  have HB1 := Lib.hid (bt_of (g := g) (bj (one_allocC (w := w) (o := .cells #[.int .u8 0, .int .i64 0, .string ⟨#[]⟩] 56)) hb1))
  clear hb1
  have htI : (0 : Int) ≤ tag := by omega
  by_cases t0 : tag = 0
  · subst t0
    have HTL := Lib.hid (show TailH g L b 0 w S1 b w1 from ⟨[], L, by rw [HS1.out.1, List.append_nil], bod_0 L b, HR1.out, HZ1.out, HB1.out, HGL.out⟩)
    have HSZ := Lib.hid (show S1.size ≤ 2000000000 from by have := HS1.out.2; omega)
    clear HPT
    go_wp2_with fail
    refine (rtake_any S1 _).mono ?_
    rintro e w9 ⟨A9, n9, c9, e9, l9, rfl, hv9, hn9, h169, hf9, hb9, hk9⟩
    obtain ⟨B, L1, hSb, hbod, hrd, hzv, hbt, _⟩ := HTL.out
    rw [hSb] at hk9
    have hv : ∀ v, e9 = 0 → l9 = [v] → ValP L b 0 v L1 (b && decide (e9 = 0)) := fun v h0 h1 => valP_of HT.out hbod hk9 (fun _ => h1) rfl
    have hr9 := rd_step hrd hb9
    obtain ⟨x, hx, hxs, hblk⟩ := hr9
    have hz9 : Zv w w9 := hzv.below hb9 hzv.lt
    have HBT9 := Lib.hid (bt_trans hbt (bt_of hb9))
    have HX := Lib.hid (And.intro hx hxs)
    have HBL9 := Lib.hid hblk
    have HZ9 := Lib.hid hz9
    have d0 := hz9.cell 0
    have d1 := hz9.cell 1
    have d2 := hz9.cell 2
    have f0 := hz9.frozen 0
    have f1 := hz9.frozen 1
    have f2 := hz9.frozen 2
    have d0 : w9.cell? ⟨w.heap.size, 0, none⟩ = some (.int .u8 0) := d0
    have d1 : w9.cell? ⟨w.heap.size, 1, none⟩ = some (.int .i64 0) := d1
    have d2 : w9.cell? ⟨w.heap.size, 2, none⟩ = some (.string ⟨#[]⟩) := d2
    have hng : w.heap.size ≠ g := by have := HGL.out; omega
    have hgn : g ≠ w.heap.size := Ne.symm hng
    rcases hk9 with ⟨hk9, hl9, rfl⟩ | ⟨hk9, rfl⟩
    · have HVP := Lib.hid (valP_of (v := ((0 : Int), (0 : Int), (⟨#[]⟩ : ByteArray))) HT.out hbod (.inl ⟨hk9, hl9, rfl⟩) (fun h => by omega) (b' := false) (by simp))
      obtain ⟨_, y1, _, y2⟩ := rd_cells hblk
      have hz10 := hz9.far (p := ⟨g, 1, none⟩) hng (.bool false)
      have HE1 := Lib.hid (((hz10.set_ 0 (.int .u8 0)).set_ 1 (.int .i64 0)).set_ 2 (.string ⟨#[]⟩))
      have q0 := HE1.out.cell 0
      have q1 := HE1.out.cell 1
      have q2 := HE1.out.cell 2
      clear hv hx hxs hblk hz9 hbt hbod hrd hzv hb9 hv9 hf9 hk9 hl9 hn9 h169 hz10
      go_wp2_with fail
      exact bodyPost_ret (v := valV ((0 : Int), (0 : Int), (⟨#[]⟩ : ByteArray))) (by simp [results, Try.results93, go_sem, q0, q1, q2]) rfl ⟨_, _, _, rfl, ⟨by show (0 : Int) ≤ 0; omega, by show (0 : Int) < 256; omega, by show (-9223372036854775808 : Int) ≤ 0; omega, by show (0 : Int) ≤ 9223372036854775807; omega⟩, HVP.out, ⟨x, HX.out.1, HX.out.2, (((HBL9.out.set_ 1 _).far hgn _).far hgn _).far hgn _⟩, bt_far (bt_far (bt_far (bt_trans HBT9.out (bt_set _)) (Nat.le_refl _) _) (Nat.le_refl _) _) (Nat.le_refl _) _⟩
    · obtain ⟨v, rfl, hv1, hv2, hv3, hv4⟩ := take_one HT.out hbod.2.2.2.1 hk9
      have HVP := Lib.hid (hv v rfl rfl)
      have HFV := Lib.hid hv4
      obtain rfl : n9 = 1 := hn9
      obtain ⟨rb, ro, rfl, hrl, hrc⟩ := vals_get hv9 (by simp)
      obtain ⟨r0, r1, r2⟩ := hrc 0 v rfl
      rw [Nat.zero_mul, Nat.add_zero] at r0 r1 r2
      have hne9 : rb ≠ w.heap.size ∨ True := .inr trivial
      have HE1 := Lib.hid (((hz9.set_ 0 (.int .u8 v.1)).set_ 1 (.int .i64 v.2.1)).set_ 2 (.string v.2.2))
      have q0 := HE1.out.cell 0
      have q1 := HE1.out.cell 1
      have q2 := HE1.out.cell 2
      clear hv hx hxs hblk hz9 hbt hbod hrd hzv hb9 hv9 hf9 hk9 h169 hv1 hv2 hv3 hv4 hrl hrc hne9
      obtain ⟨vp, vq, vs⟩ := v
      simp only at r0 r1 r2 q0 q1 q2
      go_wp2_with fail
      exact bodyPost_ret (v := valV (vp, vq, vs)) (by simp [results, Try.results93, go_sem, q0, q1, q2]) rfl ⟨_, _, _, rfl, HFV.out, HVP.out, ⟨x, HX.out.1, HX.out.2, by have h := ((HBL9.out.far (p := ⟨w.heap.size, 0, none⟩) hgn (.int .u8 vp)).far (p := ⟨w.heap.size, 1, none⟩) hgn (.int .i64 vq)).far (p := ⟨w.heap.size, 2, none⟩) hgn (.string vs); simpa using h⟩, bt_far (bt_far (bt_far HBT9.out (Nat.le_refl _) _) (Nat.le_refl _) _) (Nat.le_refl _) _⟩
  · by_cases t1 : tag = 1
    · subst t1
      have HN := Lib.hid (rnumber_any g L b w1 HR1.out)
      clear HPT
      go_wp2_with fail
      refine (HN.out).mono ?_
      rintro e w2 ⟨n, L2, b2, rfl, hp2, hr2, hbt2⟩
      obtain ⟨PN, hPN⟩ : ∃ PN, bstr (putL n) = PN := ⟨_, rfl⟩
      have hPNz : PN.size ≤ 9 := by rw [← hPN, bstr_size, putL_length]; exact (sz_le _).2
      have hPNb : bts PN = putL n := by rw [← hPN, bts_bstr _ (putL_lt _)]
      have hpn := put_any n w2 hp2.1
      rw [hPN] at hpn
      have HPN := Lib.hid hpn
      have g1 : S1.size + PN.size ≤ 9223372036854775807 := by have := HS1.out.2; omega
      have g2 : ¬ (9223372036854775807 < S1.size + PN.size) := by have := HS1.out.2; omega
      have g3 : (S1.size : Int) + PN.size ≤ 9223372036854775807 := by have := HS1.out.2; omega
      have HP2 := Lib.hid hp2
      have HR2 := Lib.hid hr2
      have HBT2 := Lib.hid (bt_trans HB1.out hbt2)
      have HZ2 := Lib.hid (show Zv w w2 from bt_blk hbt2 HZ1.out (by have := HGL.out; omega))
      have HPB := Lib.hid (And.intro hPNb hPNz)
      clear hp2 hr2 hbt2 hPN hpn hPNz hPNb
      go_wp2_with fail
      refine (HPN.out).mono ?_
      rintro e w3 ⟨rfl, hb3⟩
      obtain ⟨S2, hS2⟩ : ∃ S2, S1 ++ PN = S2 := ⟨_, rfl⟩
      have HTL := Lib.hid (show TailH g L b 1 w S2 b2 w3 from ⟨putL n, L2, by rw [← hS2, app_bts, HS1.out.1, HPB.out.1]; rfl, bod_1 HP2.out, rd_step HR2.out hb3, HZ2.out.below hb3 HZ2.out.lt, bt_trans HBT2.out (bt_of hb3), HGL.out⟩)
      have HSZ := Lib.hid (show S2.size ≤ 2000000000 from by rw [← hS2, ByteArray.size_append]; have := HS1.out.2; have := HPB.out.2; omega)
      clear hb3
      go_wp2_with fail
      refine (rtake_any S2 _).mono ?_
      rintro e w9 ⟨A9, n9, c9, e9, l9, rfl, hv9, hn9, h169, hf9, hb9, hk9⟩
      obtain ⟨B, L1, hSb, hbod, hrd, hzv, hbt, _⟩ := HTL.out
      rw [hSb] at hk9
      have hv : ∀ v, e9 = 0 → l9 = [v] → ValP L b 1 v L1 (b2 && decide (e9 = 0)) := fun v h0 h1 => valP_of HT.out hbod hk9 (fun _ => h1) rfl
      have hr9 := rd_step hrd hb9
      obtain ⟨x, hx, hxs, hblk⟩ := hr9
      have hz9 : Zv w w9 := hzv.below hb9 hzv.lt
      have HBT9 := Lib.hid (bt_trans hbt (bt_of hb9))
      have HX := Lib.hid (And.intro hx hxs)
      have HBL9 := Lib.hid hblk
      have HZ9 := Lib.hid hz9
      have d0 := hz9.cell 0
      have d1 := hz9.cell 1
      have d2 := hz9.cell 2
      have f0 := hz9.frozen 0
      have f1 := hz9.frozen 1
      have f2 := hz9.frozen 2
      have d0 : w9.cell? ⟨w.heap.size, 0, none⟩ = some (.int .u8 0) := d0
      have d1 : w9.cell? ⟨w.heap.size, 1, none⟩ = some (.int .i64 0) := d1
      have d2 : w9.cell? ⟨w.heap.size, 2, none⟩ = some (.string ⟨#[]⟩) := d2
      have hng : w.heap.size ≠ g := by have := HGL.out; omega
      have hgn : g ≠ w.heap.size := Ne.symm hng
      rcases hk9 with ⟨hk9, hl9, rfl⟩ | ⟨hk9, rfl⟩
      · have HVP := Lib.hid (valP_of (v := ((0 : Int), (0 : Int), (⟨#[]⟩ : ByteArray))) HT.out hbod (.inl ⟨hk9, hl9, rfl⟩) (fun h => by omega) (b' := false) (by simp))
        obtain ⟨_, y1, _, y2⟩ := rd_cells hblk
        have hz10 := hz9.far (p := ⟨g, 1, none⟩) hng (.bool false)
        have HE1 := Lib.hid (((hz10.set_ 0 (.int .u8 0)).set_ 1 (.int .i64 0)).set_ 2 (.string ⟨#[]⟩))
        have q0 := HE1.out.cell 0
        have q1 := HE1.out.cell 1
        have q2 := HE1.out.cell 2
        clear hv hx hxs hblk hz9 hbt hbod hrd hzv hb9 hv9 hf9 hk9 hl9 hn9 h169 hz10
        go_wp2_with fail
        exact bodyPost_ret (v := valV ((0 : Int), (0 : Int), (⟨#[]⟩ : ByteArray))) (by simp [results, Try.results93, go_sem, q0, q1, q2]) rfl ⟨_, _, _, rfl, ⟨by show (0 : Int) ≤ 0; omega, by show (0 : Int) < 256; omega, by show (-9223372036854775808 : Int) ≤ 0; omega, by show (0 : Int) ≤ 9223372036854775807; omega⟩, HVP.out, ⟨x, HX.out.1, HX.out.2, (((HBL9.out.set_ 1 _).far hgn _).far hgn _).far hgn _⟩, bt_far (bt_far (bt_far (bt_trans HBT9.out (bt_set _)) (Nat.le_refl _) _) (Nat.le_refl _) _) (Nat.le_refl _) _⟩
      · obtain ⟨v, rfl, hv1, hv2, hv3, hv4⟩ := take_one HT.out hbod.2.2.2.1 hk9
        have HVP := Lib.hid (hv v rfl rfl)
        have HFV := Lib.hid hv4
        obtain rfl : n9 = 1 := hn9
        obtain ⟨rb, ro, rfl, hrl, hrc⟩ := vals_get hv9 (by simp)
        obtain ⟨r0, r1, r2⟩ := hrc 0 v rfl
        rw [Nat.zero_mul, Nat.add_zero] at r0 r1 r2
        have hne9 : rb ≠ w.heap.size ∨ True := .inr trivial
        have HE1 := Lib.hid (((hz9.set_ 0 (.int .u8 v.1)).set_ 1 (.int .i64 v.2.1)).set_ 2 (.string v.2.2))
        have q0 := HE1.out.cell 0
        have q1 := HE1.out.cell 1
        have q2 := HE1.out.cell 2
        clear hv hx hxs hblk hz9 hbt hbod hrd hzv hb9 hv9 hf9 hk9 h169 hv1 hv2 hv3 hv4 hrl hrc hne9
        obtain ⟨vp, vq, vs⟩ := v
        simp only at r0 r1 r2 q0 q1 q2
        go_wp2_with fail
        exact bodyPost_ret (v := valV (vp, vq, vs)) (by simp [results, Try.results93, go_sem, q0, q1, q2]) rfl ⟨_, _, _, rfl, HFV.out, HVP.out, ⟨x, HX.out.1, HX.out.2, by have h := ((HBL9.out.far (p := ⟨w.heap.size, 0, none⟩) hgn (.int .u8 vp)).far (p := ⟨w.heap.size, 1, none⟩) hgn (.int .i64 vq)).far (p := ⟨w.heap.size, 2, none⟩) hgn (.string vs); simpa using h⟩, bt_far (bt_far (bt_far HBT9.out (Nat.le_refl _) _) (Nat.le_refl _) _) (Nat.le_refl _) _⟩
    · have e0 : ((tag : Int) == 0) = false := int_zero t0
      have e1 : ((tag : Int) == 1) = false := by rw [beq_eq_false_iff_ne]; omega
      have ht2 : 2 ≤ tag := by omega
      have hdiv : (tag : Int).tdiv 2 = ((tag / 2 : Nat) : Int) := rfl
      have HRT := Lib.hid (rtext_any g (tag / 2 - 1) L b w1 HR1.out (by have := HT.out; omega))
      obtain ⟨q, hq⟩ : ∃ q, tag / 2 - 1 = q := ⟨_, rfl⟩
      have hq1 : ((tag : Int) / 2) = ((q + 1 : Nat) : Int) := by omega
      have hq2 : (tag : Int).tdiv 2 = ((q + 1 : Nat) : Int) := by rw [hdiv]; congr 1; omega
      have hql : q < 9223372036854775808 := by have := HT.out; omega
      have hw1 : IntKind.u64.wrap (((q + 1 : Nat) : Int)) = ((q + 1 : Nat) : Int) := by rw [IntKind.wrap_u64]; omega
      have hw2 : IntKind.u64.wrap (((q + 1 : Nat) : Int) - 1) = q := by rw [IntKind.wrap_u64]; omega
      have hw3 : IntKind.u64.wrap ((q : Int) + 1) = (q : Int) + 1 := by rw [IntKind.wrap_u64]; omega
      have hw4 : IntKind.u64.wrap (q : Int) = q := by rw [IntKind.wrap_u64]; omega
      have HT2 := Lib.hid ht2
      rw [hq] at HRT
      have HQ := Lib.hid hq
      clear HPT t0 t1 hdiv hq ht2
      go_wp2_with fail
      refine (HRT.out).mono ?_
      rintro e w2 ⟨s, L2, b2, rfl, hp2, hr2, hbt2⟩
      have hsz := hp2.2.1
      have g1 : S1.size + s.size ≤ 9223372036854775807 := by have := HS1.out.2; omega
      have g2 : ¬ (9223372036854775807 < S1.size + s.size) := by have := HS1.out.2; omega
      have g3 : (S1.size : Int) + s.size ≤ 9223372036854775807 := by have := HS1.out.2; omega
      obtain ⟨S2, hS2⟩ : ∃ S2, S1 ++ s = S2 := ⟨_, rfl⟩
      have HTL := Lib.hid (show TailH g L b tag w S2 b2 w2 from ⟨bts s, L2, by rw [← hS2, app_bts, HS1.out.1]; rfl, bod_2 HT2.out (by rw [HQ.out]; exact hp2), hr2, bt_blk hbt2 HZ1.out (by have := HGL.out; omega), bt_trans HB1.out hbt2, HGL.out⟩)
      have HSZ := Lib.hid (show S2.size ≤ 2000000000 from by rw [← hS2, ByteArray.size_append]; have := HS1.out.2; omega)
      clear hp2 hr2 hbt2 hsz
      go_wp2_with fail
      refine (rtake_any S2 _).mono ?_
      rintro e w9 ⟨A9, n9, c9, e9, l9, rfl, hv9, hn9, h169, hf9, hb9, hk9⟩
      obtain ⟨B, L1, hSb, hbod, hrd, hzv, hbt, _⟩ := HTL.out
      rw [hSb] at hk9
      have hv : ∀ v, e9 = 0 → l9 = [v] → ValP L b tag v L1 (b2 && decide (e9 = 0)) := fun v h0 h1 => valP_of HT.out hbod hk9 (fun _ => h1) rfl
      have hr9 := rd_step hrd hb9
      obtain ⟨x, hx, hxs, hblk⟩ := hr9
      have hz9 : Zv w w9 := hzv.below hb9 hzv.lt
      have HBT9 := Lib.hid (bt_trans hbt (bt_of hb9))
      have HX := Lib.hid (And.intro hx hxs)
      have HBL9 := Lib.hid hblk
      have HZ9 := Lib.hid hz9
      have d0 := hz9.cell 0
      have d1 := hz9.cell 1
      have d2 := hz9.cell 2
      have f0 := hz9.frozen 0
      have f1 := hz9.frozen 1
      have f2 := hz9.frozen 2
      have d0 : w9.cell? ⟨w.heap.size, 0, none⟩ = some (.int .u8 0) := d0
      have d1 : w9.cell? ⟨w.heap.size, 1, none⟩ = some (.int .i64 0) := d1
      have d2 : w9.cell? ⟨w.heap.size, 2, none⟩ = some (.string ⟨#[]⟩) := d2
      have hng : w.heap.size ≠ g := by have := HGL.out; omega
      have hgn : g ≠ w.heap.size := Ne.symm hng
      rcases hk9 with ⟨hk9, hl9, rfl⟩ | ⟨hk9, rfl⟩
      · have HVP := Lib.hid (valP_of (v := ((0 : Int), (0 : Int), (⟨#[]⟩ : ByteArray))) HT.out hbod (.inl ⟨hk9, hl9, rfl⟩) (fun h => by omega) (b' := false) (by simp))
        obtain ⟨_, y1, _, y2⟩ := rd_cells hblk
        have hz10 := hz9.far (p := ⟨g, 1, none⟩) hng (.bool false)
        have HE1 := Lib.hid (((hz10.set_ 0 (.int .u8 0)).set_ 1 (.int .i64 0)).set_ 2 (.string ⟨#[]⟩))
        have q0 := HE1.out.cell 0
        have q1 := HE1.out.cell 1
        have q2 := HE1.out.cell 2
        clear hv hx hxs hblk hz9 hbt hbod hrd hzv hb9 hv9 hf9 hk9 hl9 hn9 h169 hz10
        go_wp2_with fail
        exact bodyPost_ret (v := valV ((0 : Int), (0 : Int), (⟨#[]⟩ : ByteArray))) (by simp [results, Try.results93, go_sem, q0, q1, q2]) rfl ⟨_, _, _, rfl, ⟨by show (0 : Int) ≤ 0; omega, by show (0 : Int) < 256; omega, by show (-9223372036854775808 : Int) ≤ 0; omega, by show (0 : Int) ≤ 9223372036854775807; omega⟩, HVP.out, ⟨x, HX.out.1, HX.out.2, (((HBL9.out.set_ 1 _).far hgn _).far hgn _).far hgn _⟩, bt_far (bt_far (bt_far (bt_trans HBT9.out (bt_set _)) (Nat.le_refl _) _) (Nat.le_refl _) _) (Nat.le_refl _) _⟩
      · obtain ⟨v, rfl, hv1, hv2, hv3, hv4⟩ := take_one HT.out hbod.2.2.2.1 hk9
        have HVP := Lib.hid (hv v rfl rfl)
        have HFV := Lib.hid hv4
        obtain rfl : n9 = 1 := hn9
        obtain ⟨rb, ro, rfl, hrl, hrc⟩ := vals_get hv9 (by simp)
        obtain ⟨r0, r1, r2⟩ := hrc 0 v rfl
        rw [Nat.zero_mul, Nat.add_zero] at r0 r1 r2
        have hne9 : rb ≠ w.heap.size ∨ True := .inr trivial
        have HE1 := Lib.hid (((hz9.set_ 0 (.int .u8 v.1)).set_ 1 (.int .i64 v.2.1)).set_ 2 (.string v.2.2))
        have q0 := HE1.out.cell 0
        have q1 := HE1.out.cell 1
        have q2 := HE1.out.cell 2
        clear hv hx hxs hblk hz9 hbt hbod hrd hzv hb9 hv9 hf9 hk9 h169 hv1 hv2 hv3 hv4 hrl hrc hne9
        obtain ⟨vp, vq, vs⟩ := v
        simp only at r0 r1 r2 q0 q1 q2
        go_wp2_with fail
        exact bodyPost_ret (v := valV (vp, vq, vs)) (by simp [results, Try.results93, go_sem, q0, q1, q2]) rfl ⟨_, _, _, rfl, HFV.out, HVP.out, ⟨x, HX.out.1, HX.out.2, by have h := ((HBL9.out.far (p := ⟨w.heap.size, 0, none⟩) hgn (.int .u8 vp)).far (p := ⟨w.heap.size, 1, none⟩) hgn (.int .i64 vq)).far (p := ⟨w.heap.size, 2, none⟩) hgn (.string vs); simpa using h⟩, bt_far (bt_far (bt_far HBT9.out (Nat.le_refl _) _) (Nat.le_refl _) _) (Nat.le_refl _) _⟩
end Go.Proofs.Ytocbdehcjcggeaa
namespace Go.Proofs.Ytocbdehcjcggeaa
open Go.RowKit Go
set_option linter.unusedVariables false
set_option linter.unusedSimpArgs false
/-- the first j tags -/
def TgP (L : List Nat) (b : Bool) (us : List Nat) (L' : List Nat) (b' : Bool) : Prop :=
  L'.length ≤ L.length ∧ (∀ u ∈ us, u < 18446744073709551616) ∧ (b' = true → b = true ∧ L = us.flatMap putL ++ L') ∧ (b = true → ∀ vs R, (∀ v ∈ vs, v < 18446744073709551616) → vs.length = us.length → L = vs.flatMap putL ++ R → us = vs ∧ L' = R ∧ b' = true)
theorem tgP_nil (L : List Nat) (b : Bool) : TgP L b [] L b := ⟨Nat.le_refl _, fun u hu => (by cases hu), fun h => ⟨h, rfl⟩, fun hb vs R _ hl hL => by
  obtain rfl : vs = [] := List.eq_nil_of_length_eq_zero hl
  exact ⟨rfl, hL, hb⟩⟩
theorem tgP_snoc {L L1 L2 : List Nat} {b b1 b2 : Bool} {us : List Nat} {n : Nat} (h : TgP L b us L1 b1) (k : NumP L1 b1 n L2 b2) : TgP L b (us ++ [n]) L2 b2 := by
  refine ⟨Nat.le_trans k.2.1 h.1, fun u hu => ?_, fun hb => ?_, fun hb vs R hv hl hL => ?_⟩
  · rcases List.mem_append.1 hu with hu | hu
    · exact h.2.1 u hu
    · rw [List.mem_singleton.1 hu]; exact k.1
  · obtain ⟨h1, h2⟩ := k.2.2.1 hb
    obtain ⟨h3, h4⟩ := h.2.2.1 h1
    exact ⟨h3, by rw [h4, h2, List.flatMap_append, List.append_assoc]; simp⟩
  · rw [List.length_append, List.length_singleton] at hl
    obtain ⟨vs', v, rfl⟩ : ∃ vs' v, vs = vs' ++ [v] := by
      rcases List.eq_nil_or_concat vs with h | ⟨vs', v, h⟩
      · rw [h] at hl; simp at hl
      · exact ⟨vs', v, by rw [h, List.concat_eq_append]⟩
    rw [List.length_append, List.length_singleton] at hl
    rw [List.flatMap_append, List.append_assoc] at hL
    obtain ⟨e1, e2, e3⟩ := h.2.2.2 hb vs' _ (fun x hx => hv x (List.mem_append_left _ hx)) (by omega) hL
    obtain ⟨e4, e5, e6⟩ := k.2.2.2 e3 v R (hv v (by simp)) (by rw [e2]; simp)
    exact ⟨by rw [e1, e4], e5, e6⟩
/-- the values of the first tags -/
def BdP (L : List Nat) (b : Bool) (ts : List Nat) (l : List Val) (L' : List Nat) (b' : Bool) : Prop :=
  L'.length ≤ L.length ∧ l.length = ts.length ∧ (∀ x ∈ l, Fits x) ∧ (b' = true → b = true ∧ (∀ x ∈ l, chk x = 0) ∧ l.map tagN = ts ∧ L = bodsL l ++ L') ∧ (b = true → ∀ l0 R, (∀ x ∈ l0, Fits x ∧ chk x = 0) → l0.map tagN = ts → L = bodsL l0 ++ R → l = l0 ∧ L' = R ∧ b' = true)
theorem bdP_nil (L : List Nat) (b : Bool) : BdP L b [] [] L b := ⟨Nat.le_refl _, rfl, fun x hx => (by cases hx), fun h => ⟨h, fun x hx => (by cases hx), rfl, by simp [bodsL]⟩, fun hb l0 R _ hl hL => by
  obtain rfl : l0 = [] := by simpa using hl
  exact ⟨rfl, by simpa [bodsL] using hL, hb⟩⟩
theorem bodsL_snoc (l : List Val) (x : Val) : bodsL (l ++ [x]) = bodsL l ++ bodyL x := by simp [bodsL]
theorem bdP_snoc {L L1 L2 : List Nat} {b b1 b2 : Bool} {ts : List Nat} {l : List Val} {t : Nat} {v : Val} (h : BdP L b ts l L1 b1) (hf : Fits v) (k : ValP L1 b1 t v L2 b2) : BdP L b (ts ++ [t]) (l ++ [v]) L2 b2 := by
  refine ⟨Nat.le_trans k.1 h.1, by simp [h.2.1], fun x hx => ?_, fun hb => ?_, fun hb l0 R hl0 hm hL => ?_⟩
  · rcases List.mem_append.1 hx with hx | hx
    · exact h.2.2.1 x hx
    · rw [List.mem_singleton.1 hx]; exact hf
  · obtain ⟨h1, h2, h3, h4⟩ := k.2.1 hb
    obtain ⟨h5, h6, h7, h8⟩ := h.2.2.2.1 h1
    refine ⟨h5, fun x hx => ?_, by rw [List.map_append, h7]; simp [h3], by rw [h8, h4, bodsL_snoc, List.append_assoc]⟩
    rcases List.mem_append.1 hx with hx | hx
    · exact h6 x hx
    · rw [List.mem_singleton.1 hx]; exact h2
  · have hl : l0.length = ts.length + 1 := by have := congrArg List.length hm; simpa using this
    obtain ⟨l', v0, rfl⟩ : ∃ l' v0, l0 = l' ++ [v0] := by
      rcases List.eq_nil_or_concat l0 with h | ⟨l', v0, h⟩
      · rw [h] at hl; simp at hl
      · exact ⟨l', v0, by rw [h, List.concat_eq_append]⟩
    rw [List.map_append] at hm
    have hm2 := List.append_inj' hm rfl
    rw [bodsL_snoc, List.append_assoc] at hL
    obtain ⟨e1, e2, e3⟩ := h.2.2.2.2 hb l' _ (fun x hx => hl0 x (List.mem_append_left _ hx)) hm2.1 hL
    have hv0 := hl0 v0 (by simp)
    obtain ⟨e4, e5, e6⟩ := k.2.2 e3 v0 R hv0.1 hv0.2 (by simpa using hm2.2) e2
    exact ⟨by rw [e1, e4], e5, e6⟩
/-- a key -/
def KeyP (L : List Nat) (b : Bool) (l : List Val) (b' : Bool) : Prop :=
  (b' = true → b = true ∧ (∀ x ∈ l, chk x = 0) ∧ L = recL l) ∧ (b = true → ∀ l0, (∀ x ∈ l0, Fits x ∧ chk x = 0) → l0.length ≤ 16 → L = recL l0 → l = l0 ∧ b' = true)
theorem keyP_bad {L L1 : List Nat} {b b1 : Bool} {s : ByteArray} (h : TexP L b 1 s L1 b1) (hbad : b1 = false ∨ 16 < (bts s).getD 0 0) : KeyP L b [] false := by
  refine ⟨fun h => (by cases h), fun hb l0 hl h16 hL => ?_⟩
  obtain ⟨e1, e2, e3⟩ := h.2.2.2.1 hb [l0.length] _ rfl (by rw [hL, recL]; rfl)
  rcases hbad with hb1 | hb1
  · rw [hb1] at e3; cases e3
  · rw [e1] at hb1; simp at hb1; omega
theorem keyP_of {L L1 L2 L3 : List Nat} {b b1 b2 b3 b' : Bool} {s : ByteArray} {ts : List Nat} {l : List Val} (h : TexP L b 1 s L1 b1) (hm : (bts s).getD 0 0 = ts.length) (ht : TgP L1 b1 ts L2 b2) (hd : BdP L2 b2 ts l L3 b3) (hb' : b' = (b3 && decide (L3 = []))) : KeyP L b l b' := by
  refine ⟨fun hb => ?_, fun hb l0 hl h16 hL => ?_⟩
  · rw [hb'] at hb
    simp only [Bool.and_eq_true, decide_eq_true_eq] at hb
    obtain ⟨d1, d2, d3, d4⟩ := hd.2.2.2.1 hb.1
    obtain ⟨t1, t2⟩ := ht.2.2.1 d1
    obtain ⟨s1, s2, s3⟩ := h.2.2.1 t1
    refine ⟨s1, d2, ?_⟩
    have hs : bts s = [l.length] := by
      have : (bts s).length = 1 := by rw [bts_length]; exact s2
      match hbs : bts s, this with
      | [c], _ =>
        rw [hbs] at hm
        simp at hm
        rw [hm, hd.2.1]
    rw [s3, hs, t2, d4, hb.2, List.append_nil, recL, ← d3]
    simp [tagsL, List.flatMap_map]
  · obtain ⟨e1, e2, e3⟩ := h.2.2.2.1 hb [l0.length] _ rfl (by rw [hL, recL]; rfl)
    rw [e1] at hm
    have hlen : l0.length = ts.length := by simpa using hm
    have hlt : ∀ v ∈ l0.map tagN, v < 18446744073709551616 := fun v hv => by
      obtain ⟨x, hx, rfl⟩ := List.mem_map.1 hv
      exact tagN_lt (by have := (chk_of (hl x hx).2).2.2.2; omega)
    obtain ⟨t1, t2, t3⟩ := ht.2.2.2 e3 (l0.map tagN) (bodsL l0) hlt (by simpa using hlen) (by rw [e2]; simp [tagsL, List.flatMap_map])
    obtain ⟨d1, d2, d3⟩ := hd.2.2.2.2 t3 l0 [] hl t1.symm (by rw [t2]; simp)
    exact ⟨d1, by rw [hb', d3, d2]; rfl⟩
def KeyQ (g : Nat) (L : List Nat) (b : Bool) (w : World) (e : Ending) (w' : World) : Prop := ∃ A n c l L' b', e = .returned (.slice A n c) ∧ Vals w' w'.heap.size A l ∧ n = l.length ∧ n ≤ 16 ∧ (∀ x ∈ l, Fits x) ∧ KeyP L b l b' ∧ Rd w' g L' b' ∧ Bt g w w' ∧ ValT w' A l
theorem own_bt {W W' : World} {g base : Nat} {e : TypeId} {size n : Nat} {v : Value} {xs : List Value} (h : W.ownsRow base e size v n xs) (hb : Bt g W W') (hg : g < base) : W'.ownsRow base e size v n xs := by
  obtain ⟨hl, h | ⟨k, cap, cur, hv, hbg, hk, hr⟩⟩ := h
  · exact ⟨hl, .inl h⟩
  · exact ⟨hl, .inr ⟨k, cap, cur, hv, hbg, (hb.block k (Array.getElem?_eq_some_iff.1 hk).1 (by omega)).trans hk, hr⟩⟩
end Go.Proofs.Ytocbdehcjcggeaa
namespace Go.Proofs.Ytocbdehcjcggeaa
open Go.RowKit Go
set_option linter.unusedVariables false
set_option linter.unusedSimpArgs false
/-- in the midst of the two loops -/
def Tl (w : World) (g gt m : Nat) (L1 : List Nat) (us : List Nat) (W : World) : Prop := ∃ L2 b2, TgP L1 true us L2 b2 ∧ Rd W g L2 b2 ∧ Bt g w W ∧ Blk W gt 53 (tagC (us ++ List.replicate (m - us.length) 0))
def Vl (w : World) (g gt : Nat) (L2 : List Nat) (b2 : Bool) (us ts : List Nat) (l : List Val) (W : World) : Prop := ∃ L3 b3, BdP L2 b2 ts l L3 b3 ∧ Rd W g L3 b3 ∧ Bt g w W ∧ Blk W gt 53 (tagC us)
set_option maxRecDepth 100000 in
set_option maxHeartbeats 16000000 in
theorem rvalues_any (g : Nat) (L : List Nat) (b : Bool) (w : World) (h : Rd w g L b) :
    Calls Try.prog 68 #[.pointer (some ⟨g, 0, none⟩)] w (KeyQ g L b w) := by
  have hgl : g < w.heap.size := h.elim fun x hx => hx.2.2.lt
  have HGL := Lib.hid hgl
  have HRT := Lib.hid (rtext_any g 1 L b w h (by omega))
  obtain ⟨iu, hu1, hu2, hu3, hu4⟩ := info_parts (show (Try.prog.info? 53).map (fun i => (i.zero, i.size, i.bytes)) = some (some (.int .u64 0), 1, 8) by kernel_rfl)
  obtain ⟨iv, hv1, hv2, hv3, hv4⟩ := info_parts (show (Try.prog.info? 56).map (fun i => (i.zero, i.size, i.bytes)) = some (some (.agg #[.int .u8 0, .int .i64 0, .string ⟨#[]⟩]), 3, 32) by kernel_rfl)
  clear h hgl
  go_enter Try.func68, Try.ntmps68
  go_wp2_with fail
  refine (HRT.out).mono ?_
  rintro e w1 ⟨s, L1, b1, rfl, hp1, hr1, hbt1⟩
  have HP1 := Lib.hid hp1
  have HR1 := Lib.hid hr1
  have HBT1 := Lib.hid hbt1
  obtain ⟨x, hx, hxs, hblk⟩ := hr1
  obtain ⟨c0, c1, f0, f1⟩ := rd_cells hblk
  have HBL := Lib.hid hblk
  have HXX := Lib.hid (And.intro hx hxs)
  clear hp1 hbt1 hblk hx hxs HRT
  rcases b1 with _ | _
  · have HKP := Lib.hid (keyP_bad HP1.out (.inl rfl))
    go_wp2_with fail
    go_ret
    exact ⟨none, 0, 0, [], L1, false, rfl, .inl rfl, rfl, by omega, fun y hy => (by cases hy), HKP.out, ⟨x, HXX.out.1, HXX.out.2, HBL.out.set_ 1 _⟩, bt_trans HBT1.out (bt_set _), .inl rfl⟩
  · obtain ⟨_, hs1, _⟩ := HP1.out.2.2.1 rfl
    have h0s : 0 < s.size := by omega
    have hb0 := byte_at s 0 h0s
    obtain ⟨m, hm⟩ : ∃ m, (bts s).getD 0 0 = m := ⟨_, rfl⟩
    have hm256 : m < 256 := by rw [← hm]; exact bts_getD_lt s 0
    rw [hm] at hb0
    have hs1I : (s.size : Int) = 1 := by omega
    have HM := Lib.hid hm
    have h0sI : (0 : Int) < s.size := by omega
    clear hm
    by_cases h16 : 16 < m
    · have HKP := Lib.hid (keyP_bad HP1.out (.inr (by rw [HM.out]; exact h16)))
      have h16I : (16 : Int) < m := by omega
      have hd16 : decide ((16 : Int) < m) = true := decide_eq_true h16I
      clear h16 hs1
      go_wp2_with fail
      go_ret
      exact ⟨none, 0, 0, [], L1, false, rfl, .inl rfl, rfl, by omega, fun y hy => (by cases hy), HKP.out, ⟨x, HXX.out.1, HXX.out.2, HBL.out.set_ 1 _⟩, bt_trans HBT1.out (bt_set _), .inl rfl⟩
    · have h16I : ¬ ((16 : Int) < m) := by omega
      have hd16 : decide ((16 : Int) < m) = false := decide_eq_false h16I
      have hmI : (m : Int) ≤ 16 := by omega
      have h0m : (0 : Int) ≤ m := by omega
      have hmk1 : ∀ W, (Instr.makeSlice 104 (.int .u8 m) (.int .u8 m)).run Try.prog W = .ok (.slice (some ⟨W.heap.size, 0, none⟩) m m) (W.alloc (.cells (tagC (List.replicate m 0)) 53)) := fun W => by
        have hr := run_make (P := Try.prog) W 104 53 iu (.int .u64 0) Try.underlying104 hu1 hu2 .u8 .u8 m m (by omega) (Int.le_refl _) (by rw [hu4]; omega) (by omega)
        rw [hu3] at hr
        simp only [Int.toNat_natCast, Nat.mul_one] at hr
        rw [hr, show (Value.int .u64 0).cells = #[.int .u64 0] from rfl, tagC_new]
      have hgr := one_allocC (w := w1) (o := .cells (tagC (List.replicate m 0)) 53)
      have HRA := Lib.hid (rd_step HR1.out hgr)
      have HBA := Lib.hid (bt_trans HBT1.out (bt_of hgr))
      have HTA := Lib.hid (Blk.new w1 53 (tagC (List.replicate m 0)))
      obtain ⟨gt, hgt⟩ : ∃ gt, w1.heap.size = gt := ⟨_, rfl⟩
      have HGT := Lib.hid (show w.heap.size ≤ gt from by rw [← hgt]; exact HBT1.out.size)
      have H16 := Lib.hid h16
      rw [hgt] at HTA
      clear hgr h16 hs1 f0 f1 HBL HXX
      go_wp2_with fail
      go_loopw [29] (fun i wr => ∃ (j : Nat) (us : List Nat), j ≤ m ∧ i = .int .i64 j ∧ us.length = j ∧ Tl w g gt m L1 us wr) (fun i _ => m - (intOf i).toNat)
      case atStart => exact ⟨0, [], by omega, rfl, rfl, L1, true, tgP_nil _ _, HRA.out, HBA.out, by simpa using HTA.out⟩
      case round =>
        clear HRA HBA HTA hmk1 hgt c0 c1
        obtain ⟨j, us, hj, rfl, hul, L2, b2, htg, hrd, hbt, hbk⟩ := hrel
        rw [hul] at hbk
        by_cases hjm : j < m
        · have HN := Lib.hid (rnumber_any g L2 b2 wr hrd)
          have HTG := Lib.hid htg
          have HBT := Lib.hid hbt
          have HBK := Lib.hid hbk
          have HUL := Lib.hid hul
          have hjI : (j : Int) < m := by omega
          have h0j : (0 : Int) ≤ j := by omega
          clear hul htg hrd hbt hbk
          go_wp2_with fail
          refine (HN.out).mono ?_
          rintro e w3 ⟨n, L3, b3, rfl, hp3, hr3, hbt3⟩
          have hbk3 := bt_blk hbt3 HBK.out (by have := HGT.out; have := HGL.out; omega)
          have hlen : (us ++ List.replicate (m - j) 0).length = m := by rw [List.length_append, List.length_replicate, HUL.out]; omega
          have hcell : w3.cell? ⟨gt, j, none⟩ = some (.int .u64 (((us ++ List.replicate (m - j) 0)[j]'(by rw [hlen]; exact hjm) : Nat) : Int)) := by rw [hbk3.cell, tagC_get _ j (by rw [hlen]; exact hjm)]
          generalize (us ++ List.replicate (m - j) 0)[j]'(by rw [hlen]; exact hjm) = u0 at hcell
          have hfr := hbk3.frozen j
          have hset := hbk3.set_ j (.int .u64 (n : Int))
          have hrep : List.replicate (m - j) 0 = 0 :: List.replicate (m - (j + 1)) 0 := by rw [show m - j = (m - (j + 1)) + 1 by omega]; rfl
          have hsetl : (us ++ List.replicate (m - j) 0).set j n = (us ++ [n]) ++ List.replicate (m - (j + 1)) 0 := by
            rw [hrep, List.set_append_right _ _ (by have := HUL.out; omega), HUL.out, Nat.sub_self, List.set_cons_zero, List.append_assoc]
            rfl
          rw [tagC_set, hsetl] at hset
          have HSET := Lib.hid hset
          have HP3 := Lib.hid hp3
          have HR3 := Lib.hid (show Rd (w3.setCell ⟨gt, j, none⟩ (.int .u64 (n : Int))) g L3 b3 from hr3.elim fun x hx => ⟨x, hx.1, hx.2.1, hx.2.2.far (by have := HGT.out; have := HGL.out; show g ≠ gt; omega) _⟩)
          have HBT3 := Lib.hid (bt_far (bt_trans HBT.out hbt3) (p := ⟨gt, j, none⟩) HGT.out (.int .u64 (n : Int)))
          clear hp3 hr3 hbt3 hbk3 hlen hset hrep hsetl
          go_wp2_with fail
          go_roundw
          case rel => exact ⟨j + 1, us ++ [n], by omega, by go_num, by simp [HUL.out], L3, b3, tgP_snoc HTG.out HP3.out, HR3.out, HBT3.out, by rw [show (us ++ [n]).length = j + 1 by simp [HUL.out]]; exact HSET.out⟩
          case measure => simp only [intOf]; omega
        · obtain rfl : j = m := by omega
          rw [Nat.sub_self, List.replicate_zero, List.append_nil] at hbk
          have HTG := Lib.hid htg
          have HBT := Lib.hid hbt
          have HBK := Lib.hid hbk
          have HUL := Lib.hid hul
          have HRD := Lib.hid hrd
          clear hul htg hrd hbt hbk
          go_wp2_with fail
          go_loopw [6, 40] (fun vv i wr => ∃ (k : Nat) (l : List Val), k ≤ j ∧ i = .int .i64 k ∧ Vl w g gt L2 b2 us (us.take k) l wr ∧ wr.ownsRow w.heap.size 56 3 vv l.length (valCs l)) (fun _ i _ => j - (intOf i).toNat)
          case atStart => exact ⟨0, [], by omega, rfl, ⟨L2, b2, bdP_nil _ _, HRD.out, HBT.out, HBK.out⟩, World.ownsRow_nil _ _ _ _⟩
          case round =>
            clear HRD HBT HBK
            obtain ⟨k, l, hk, rfl, ⟨L3, b3, hbd, hrd, hbt, hbk⟩, hown⟩ := hrel
            obtain ⟨A1, c1, rfl⟩ := own_form hown
            have hlk : l.length = k := by rw [hbd.2.1, List.length_take, HUL.out]; omega
            by_cases hkj : k < j
            · have hku : k < us.length := by have := HUL.out; omega
              have hcell : wr.cell? ⟨gt, k, none⟩ = some (.int .u64 (us[k] : Nat)) := by rw [hbk.cell, tagC_get _ k hku]
              have htl := HTG.out.2.1 us[k] (List.getElem_mem hku)
              have htk : us.take (k + 1) = us.take k ++ [us[k]] := take_snocC hku
              generalize us[k] = t at *
              have HV := Lib.hid (rvalue_any g t L3 b3 wr hrd htl)
              have HBD := Lib.hid hbd
              have HBT := Lib.hid hbt
              have HBK := Lib.hid hbk
              have HOW := Lib.hid hown
              have HTK := Lib.hid htk
              have HLK := Lib.hid hlk
              have hkI : (k : Int) < j := by omega
              have h0k : (0 : Int) ≤ k := by omega
              have hk16 : k ≤ 16 := by have := H16.out; omega
              clear hbd hrd hbt hbk hown htl htk hlk hku
              go_wp2_with fail
              refine (HV.out).mono ?_
              rintro e w4 ⟨v, L4, b4, rfl, hfv, hvp, hr4, hbt4⟩
              have hal := one_allocC (w := w4) (o := .cells (valC v) 56)
              have HOW4 := Lib.hid (own_below (own_bt HOW.out hbt4 HGL.out) hal)
              have HBK4 := Lib.hid ((bt_blk hbt4 HBK.out (by have := HGT.out; have := HGL.out; omega)).alloc (.cells (valC v) 56))
              have HR4 := Lib.hid (rd_step hr4 hal)
              have HBT4 := Lib.hid (bt_trans (bt_trans HBT.out hbt4) (bt_of hal))
              have HVP := Lib.hid (And.intro hfv hvp)
              have hrd := reads3 w4 v 56
              have hbs := HBT4.out.size
              clear hfv hvp hr4 hbt4 hal hcell
              obtain ⟨vp, vq, vs⟩ := v
              simp only at hrd
              go_wp2_with (at_builtin; refine wpList_append_any _ rfl (.tmp 44) (.tmp 48) 31 rfl w.heap.size 56 iv _ 3 32 Try.underlying31 hv1 hv2 hv3 hv4 rfl (by omega) _ l.length (valCs l) rfl HOW4.out (w4.heap.size + 1) (some ⟨w4.heap.size, 0, none⟩) 1 1 [Value.int .u8 vp, .int .i64 vq, .string vs] rfl hrd (by intro u hu; simp at hu; rcases hu with rfl | rfl | rfl <;> rfl) (by have := HLK.out; simp only [maxLen]; omega) (by have := HLK.out; omega) hbs ?_; intro v1 w6 hown1 hg1 hat1; obtain ⟨A2, c2, rfl⟩ := own_form hown1; (have HW6 := Lib.hid hown1); (have HG6 := Lib.hid hg1); clear hown1 hg1 hat1 hrd)
              go_roundw
              case rel =>
                have hO6 : w6.ownsRow w.heap.size 56 3 (.slice A2 (l.length + 1) c2) (l ++ [(vp, vq, vs)]).length (valCs (l ++ [(vp, vq, vs)])) := by rw [valCs_snoc, List.length_append]; exact HW6.out
                have hge : ∀ z, (Value.slice A1 l.length c1).ownBlock = some z → w.heap.size ≤ z := fun z hz => (HOW4.out.lt z hz).1
                have hneg : some g ≠ (Value.slice A1 l.length c1).ownBlock := fun e => by have := hge g e.symm; have := HGL.out; omega
                have hnet : some gt ≠ (Value.slice A1 l.length c1).ownBlock := fun e => by
                  rcases HOW4.out.2 with ⟨hv, _⟩ | ⟨g', cap', cur, hv, _, hg', _⟩
                  · rw [hv] at e; cases e
                  · rw [hv] at e
                    simp only [Value.ownBlock, Option.some.injEq] at e
                    subst e
                    have h2 := HBK4.out
                    unfold Blk at h2
                    rw [h2] at hg'
                    simp only [Option.some.injEq, Obj.cells.injEq] at hg'
                    exact absurd hg'.2.1 (by decide)
                refine ⟨k + 1, l ++ [(vp, vq, vs)], by omega, by go_num, ⟨L4, b4, by rw [HTK.out]; exact bdP_snoc HBD.out HVP.out.1 HVP.out.2, ?_, ?_, HBK4.out.grown HG6.out hnet⟩, hO6⟩
                · exact HR4.out.elim fun x hx => ⟨x, hx.1, hx.2.1, hx.2.2.grown HG6.out hneg⟩
                · exact ⟨HG6.out.os.trans HBT4.out.os, HG6.out.tape.trans HBT4.out.tape, HG6.out.output.trans HBT4.out.output, Nat.le_trans HBT4.out.size HG6.out.size, fun z hz hzg => (HG6.out.block z (Nat.lt_of_lt_of_le hz HBT4.out.size) (fun e => by have := hge z e.symm; omega)).trans (HBT4.out.block z hz hzg)⟩
              case measure => simp only [intOf]; omega
            · obtain rfl : k = j := by omega
              rw [show us.take k = us from by rw [← HUL.out, List.take_length]] at hbd
              have HV := Lib.hid (vals_of_own hown rfl)
              have HTO := Lib.hid (valT_own hown rfl)
              have HBD := Lib.hid hbd
              have HBT := Lib.hid hbt
              have HRD := Lib.hid hrd
              have HLK := Lib.hid hlk
              obtain ⟨x3, hx3, hxs3, hblk3⟩ := hrd
              obtain ⟨d0, d1, g0, g1⟩ := rd_cells hblk3
              have HBL3 := Lib.hid hblk3
              have HX3 := Lib.hid (And.intro hx3 hxs3)
              have HKP := Lib.hid (keyP_of (b' := b3 && decide (L3 = [])) HP1.out (by rw [HM.out, HUL.out]) HTG.out HBD.out rfl)
              clear hbd hbt hbk hown hx3 hxs3 hblk3 hlk
              by_cases hem : x3.size = 0
              · have hl0 : x3.toList = [] := by rw [empty_of hem, ByteArray.toList_eq]; rfl
                have hL3 : L3 = [] := by rw [← HX3.out.1]; exact List.eq_nil_of_length_eq_zero (by rw [bts_length]; exact hem)
                have HL3 := Lib.hid hL3
                have hx0 : x3 = ⟨#[]⟩ := empty_of hem
                have HX0 := Lib.hid hx0
                have hie : x3.toList.isEmpty = true := by rw [hl0]; rfl
                clear hL3 hem
                rcases b3 with _ | _
                all_goals
                  go_wp2_with fail
                  go_ret
                  exact ⟨A1, l.length, c1, l, L3, _, rfl, vals_mono (vals_bt HV.out HRD.out (Nat.le_refl _) (bt_set _)) (by simp [World.setCell]), rfl, by rw [HLK.out]; have := H16.out; omega, HBD.out.2.2.1, by simpa [HL3.out] using HKP.out, ⟨x3, HX3.out.1, HX3.out.2, HBL3.out.set_ 1 _⟩, bt_trans HBT.out (bt_set _), valT_bt HTO.out HRD.out (bt_set _)⟩
              · have hl0 := str_no hem
                have hL3 : L3 ≠ [] := fun e => by rw [← HX3.out.1] at e; have := congrArg List.length e; rw [bts_length] at this; exact hem (by simpa using this)
                have HL3 := Lib.hid hL3
                have hie : x3.toList.isEmpty = false := str_em hem
                clear hL3 hem
                rcases b3 with _ | _
                all_goals
                  go_wp2_with fail
                  go_ret
                  exact ⟨A1, l.length, c1, l, L3, _, rfl, vals_mono (vals_bt HV.out HRD.out (Nat.le_refl _) (bt_set _)) (by simp [World.setCell]), rfl, by rw [HLK.out]; have := H16.out; omega, HBD.out.2.2.1, by simpa [HL3.out] using HKP.out, ⟨x3, HX3.out.1, HX3.out.2, HBL3.out.set_ 1 _⟩, bt_trans HBT.out (bt_set _), valT_bt HTO.out HRD.out (bt_set _)⟩
end Go.Proofs.Ytocbdehcjcggeaa
namespace Go.Proofs.Ytocbdehcjcggeaa
open Go.RowKit Go
set_option linter.unusedVariables false
set_option linter.unusedSimpArgs false
theorem fit_row {l : List Val} (hf : ∀ x ∈ l, Fits x) (hc : ∀ x ∈ l, chk x = 0) : ∀ y ∈ l, FitsS y := fun y hy => ⟨hf y hy, by have := (chk_of (hc y hy)).2.2.2; omega⟩
theorem chkR_all {l : List Val} (h : chkR l = 0) : ∀ x ∈ l, chk x = 0 := chkL_mem (chkR_chkL h)
/-- what a change taken tells -/
def ChaP (L : List Nat) (b : Bool) (x : Cg) (L' : List Nat) (b' : Bool) : Prop :=
  L'.length ≤ L.length ∧ (b' = true → b = true ∧ L = chgL x ++ L' ∧ FitC x) ∧
    (b = true → ∀ x0 R, mayC x0 = true → FitC x0 → L = chgL x0 ++ R → (x.t = x0.t ∧ x.k = x0.k ∧ x.o = x0.o ∧ x.n = x0.n) ∧ L' = R ∧ b' = true)
/-- the name that a table's row tells, if it does -/
def TabP (lt : List Val) (T : ByteArray) : Prop := (∃ v, lt = [v] ∧ v.1 = 2 ∧ T = v.2.2) ∨ (T = ⟨#[]⟩ ∧ ¬ ∃ v, lt = [v] ∧ v.1 = 2)
theorem chgL_eq (x : Cg) : chgL x = textL (recL [(2, 0, x.t)]) ++ (textL (recL x.k) ++ (textL (recL x.o) ++ textL (recL x.n))) := by simp [chgL, List.append_assoc]
theorem chaP_of {L La L1 L2 L3 L4 : List Nat} {b ba b1 b2 b3 b4 bk bk' b' : Bool} {n : Nat} {s T : ByteArray} {lt : List Val} {x : Cg}
    (ht : RowP L b lt La ba) (hn : NumP La ba n L1 b1) (hs : TexP L1 b1 n s L2 b2) (hbk : bk = ba ∨ bk = b1 ∨ bk = b2) (hk : KeyP (bts s) bk x.k bk') (ho : RowP L2 b2 x.o L3 b3) (hw : RowP L3 b3 x.n L4 b4)
    (hT : TabP lt x.t) (hfk : ∀ y ∈ x.k, Fits y) (hfo : ∀ y ∈ x.o, Fits y) (hfn : ∀ y ∈ x.n, Fits y) (hb' : b' = (b4 && (bk' && decide (x.t.size ≠ 0)))) : ChaP L b x L4 b' := by
  refine ⟨by have := ht.1; have := hn.2.1; have := hs.1; have := ho.1; have := hw.1; omega, fun h => ?_, fun hb x0 R hm hf hL => ?_⟩
  · rw [hb'] at h
    simp only [Bool.and_eq_true, decide_eq_true_eq] at h
    obtain ⟨h4, hk', htz⟩ := h
    obtain ⟨w1, w2, w3, w4⟩ := hw.2.1 h4
    obtain ⟨o1, o2, o3, o4⟩ := ho.2.1 w1
    obtain ⟨s1, s2, s3⟩ := hs.2.2.1 o1
    obtain ⟨n1, n2⟩ := hn.2.2.1 s1
    obtain ⟨t1, t2, t3, t4⟩ := ht.2.1 n1
    obtain ⟨k1, k2, k3⟩ := hk.1 hk'
    rcases hT with ⟨v, rfl, hv1, hv2⟩ | ⟨hT, _⟩
    · have hcv := chkR_all t2 v (List.mem_singleton.2 rfl)
      obtain ⟨_, c2, _, c4⟩ := chk_of hcv
      have hv : v = (2, 0, x.t) := by
        obtain ⟨p, q, z⟩ := v
        simp only at hv1 hv2 c2
        rw [hv1, hv2, c2 (by omega)]
      refine ⟨t1, ?_, ?_⟩
      · rw [t4, hv, n2, s3, o4, w4, chgL_eq, k3]
        have e : putL n = putL (recL x.k).length := by rw [← k3, bts_length, s2]
        rw [e]
        simp [textL, List.append_assoc]
      · have hx1 := chkR_len o2
        have hx2 := chkR_len w2
        have hk16 : x.k.length ≤ 1000000000 := by
          have h1 : (bts s).length = (recL x.k).length := by rw [k3]
          rw [bts_length, recL_len] at h1
          have h2 := hs.2.1
          have h3 : x.k.length ≤ (tagsL x.k).length := by
            clear hk hn hs k1 k2 k3 hfk h1
            induction x.k with
            | nil => simp
            | cons a l ih =>
              have := (sz_le (tagN a)).1
              simp only [tagsL, List.flatMap_cons, List.length_append, List.length_cons, putL_length] at ih ⊢
              omega
          omega
        exact ⟨by rw [hv2]; omega, by unfold maxLen; omega, by unfold maxLen; omega, by unfold maxLen; omega, fit_row hfk k2, fit_row hfo (chkR_all o2), fit_row hfn (chkR_all w2)⟩
    · rw [hT] at htz; exact absurd rfl htz
  · have hko := may_keyOk hm hf
    have hrs := may_rows hm
    have hr1 := row_ok hrs.1
    have hr2 := row_ok hrs.2
    have htab := tab_ok hko.t
    rw [chgL_eq] at hL
    simp only [List.append_assoc] at hL
    obtain ⟨t1, t2, t3⟩ := ht.2.2 hb _ _ htab.1 (by have := htab.2; omega) (fun y hy => by rw [List.mem_singleton.1 hy]; exact ⟨by show (0 : Int) ≤ 2; omega, by show (2 : Int) < 256; omega, by show (-9223372036854775808 : Int) ≤ 0; omega, by show (0 : Int) ≤ 9223372036854775807; omega⟩) hL
    have hLa : La = putL (recL x0.k).length ++ (recL x0.k ++ (textL (recL x0.o) ++ (textL (recL x0.n) ++ R))) := by rw [t2, textL, List.append_assoc]
    have hkl := key_len hko.le (may_key hm).2
    obtain ⟨n1, n2, n3⟩ := hn.2.2.2 t3 _ _ (by omega) hLa
    obtain ⟨s1, s2, s3⟩ := hs.2.2.2.1 n3 _ _ n1.symm n2
    obtain ⟨o1, o2, o3⟩ := ho.2.2 s3 _ _ hr1.1 hr1.2 (fun y hy => (hf.2.2.2.2.2.1 y hy).1) s2
    obtain ⟨w1, w2, w3⟩ := hw.2.2 o3 _ _ hr2.1 hr2.2 (fun y hy => (hf.2.2.2.2.2.2 y hy).1) o2
    have hbkt : bk = true := by
      rcases hbk with h | h | h
      · rw [h, t3]
      · rw [h, n3]
      · rw [h, s3]
    obtain ⟨k1, k2⟩ := hk.2 hbkt x0.k (fun y hy => ⟨(hf.2.2.2.2.1 y hy).1, (may_key hm).2 y hy⟩) hko.le s1
    have hTt : x.t = x0.t := by
      rcases hT with ⟨v, hv, _, hv2⟩ | ⟨_, hno⟩
      · rw [t1] at hv
        rw [hv2, ← (List.cons.inj hv).1]
      · exact absurd ⟨_, t1, rfl⟩ hno
    have htz : x0.t.size ≠ 0 := by
      unfold mayC at hm
      simp only [Bool.and_eq_true, decide_eq_true_eq] at hm
      exact hm.1
    exact ⟨⟨hTt, k1, o1, w1⟩, w2, by rw [hb', w3, k2, hTt]; simp [htz]⟩
/-- its rows lie in blocks of values -/
def CgTy (W : World) (x : Cg) : Prop := ValT W x.kA x.k ∧ ValT W x.oA x.o ∧ ValT W x.nA x.n
def ChaQ (g : Nat) (L : List Nat) (b : Bool) (w : World) (e : Ending) (w' : World) : Prop := ∃ x L' b', e = .returned (.agg (cgC x)) ∧ CgIn w' w'.heap.size x ∧ ChaP L b x L' b' ∧ Rd w' g L' b' ∧ Bt g w w' ∧ CgTy w' x
/-- a block where no row of values lies -/
def Nv (W : World) (q : Nat) : Prop := ∃ t cs, Blk W q t cs ∧ ∀ (i : Nat) p, cs[i]? ≠ some (.int .u8 p)
theorem vals_nv {W W' : World} {B q : Nat} {A : Option Addr} {l : List Val} (h : Vals W B A l) (hq : Nv W q) (hb : ∀ k, k < B → k ≠ q → W'.heap[k]? = W.heap[k]?) : Vals W' B A l := by
  rcases h with h | ⟨bb, o, hA, hlt, hc⟩
  · exact .inl h
  · by_cases hl : l = []
    · exact .inl hl
    · have hne : bb ≠ q := by
        rintro rfl
        obtain ⟨t, cs, hblk, hno⟩ := hq
        obtain ⟨y, l', hy⟩ := List.exists_cons_of_ne_nil hl
        have h0 := (hc 0 y (by rw [hy]; rfl)).1
        rw [hblk.cell] at h0
        exact hno _ _ h0
      refine .inr ⟨bb, o, hA, hlt, fun j x hx => ?_⟩
      obtain ⟨c0, c1, c2⟩ := hc j x hx
      have hbk := hb bb hlt hne
      exact ⟨(World.cell?_of_block (a := ⟨bb, o + j * 3, none⟩) hbk).trans c0, (World.cell?_of_block (a := ⟨bb, o + j * 3 + 1, none⟩) hbk).trans c1, (World.cell?_of_block (a := ⟨bb, o + j * 3 + 2, none⟩) hbk).trans c2⟩
theorem nv_rd {W : World} {g : Nat} {L : List Nat} {b : Bool} (h : Rd W g L b) : Nv W g := h.elim fun x hx => ⟨_, _, hx.2.2, fun i p => by
  match i with
  | 0 => simp
  | 1 => simp
  | i + 2 => simp⟩
theorem nv_cg {W : World} {q : Nat} {t : TypeId} {x : Cg} (h : Blk W q t (cgC x)) : Nv W q := ⟨_, _, h, fun i p => by
  match i with
  | 0 => simp
  | 1 => simp
  | 2 => simp
  | 3 => simp
  | i + 4 => simp⟩
theorem bt_sub {g k : Nat} {u w w' : World} (h : Bt g u w) (hb : Bt k w w') (hk : u.heap.size ≤ k) : Bt g u w' := ⟨hb.os.trans h.os, hb.tape.trans h.tape, hb.output.trans h.output, Nat.le_trans h.size hb.size, fun i hi hne => (hb.block i (Nat.lt_of_lt_of_le hi h.size) (by omega)).trans (h.block i hi hne)⟩
end Go.Proofs.Ytocbdehcjcggeaa
