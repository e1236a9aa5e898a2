/- Layer 3: ref03's In, New, Power, meets. Conditions: those of each lemma. -/
import Derived.Test.YtffojihhjiogpaaFj3
namespace Go.Proofs.Ytffojihhjiogpaa
open Go.RowKit Go Go.Maps
set_option linter.unusedVariables false
set_option linter.unusedSimpArgs false
set_option maxRecDepth 100000 in
set_option maxHeartbeats 4000000 in
theorem rin_any (f : Int) (w : World) : Calls Try.prog 50 #[.int .i64 f] w fun e w' => e = .returned (.bool (inF f)) ∧ w = w' := by
  have HR := Lib.hid (show inF f = (decide (0 ≤ f) && decide (f < 8)) from rfl)
  by_cases h0 : 0 ≤ f
  · have h2 : decide (0 ≤ f) = true := decide_eq_true h0
    go_enter Try.func50, Try.ntmps50
    go_wp2
    go_ret
    exact ⟨by rw [HR.out, h2]; rfl, rfl⟩
  · have h2 : decide (0 ≤ f) = false := decide_eq_false h0
    go_enter Try.func50, Try.ntmps50
    go_wp2
    go_ret
    exact ⟨by rw [HR.out, h2]; rfl, rfl⟩
theorem rkc_power (d : Dk) (al : List (Int × Int)) (m : Rm) (p : Int) : ∀ k, k < 21 → rkCell { d with power := p } al m k = if k = 19 then .int .i64 p else rkCell d al m k := by
  intro k hk
  by_cases e : k = 19
  · subst e; rfl
  · rw [if_neg e]; simp [rkCell, e]
theorem rkc_ops (d : Dk) (al : List (Int × Int)) (m : Rm) : ∀ k, k < 21 → rkCell d.op1 al m k = if k = 18 then .int .i64 ((d.ops : Int) + 1) else rkCell d al m k := by
  intro k hk
  by_cases e : k = 18
  · subst e; rfl
  · rw [if_neg e]; simp [rkCell, e, Dk.op1]
theorem rkc_off (d : Dk) (al : List (Int × Int)) (m : Rm) (b : Bool) : ∀ k, k < 21 → rkCell { d with off := b } al m k = if k = 20 then .bool b else rkCell d al m k := by
  intro k hk
  by_cases e : k = 20
  · subst e; rfl
  · rw [if_neg e]
    unfold rkCell
    have : k = 0 ∨ k = 1 ∨ k = 2 ∨ k = 3 ∨ k = 4 ∨ k = 5 ∨ k = 6 ∨ k = 7 ∨ k = 8 ∨ k = 9 ∨ k = 10 ∨ k = 11 ∨ k = 12 ∨ k = 13 ∨ k = 14 ∨ k = 15 ∨ k = 16 ∨ k = 17 ∨ k = 18 ∨ k = 19 := by omega
    rcases this with h | h | h | h | h | h | h | h | h | h | h | h | h | h | h | h | h | h | h | h <;> subst h <;> rfl
def Rm.arm (m : Rm) (A : Option Addr) (c : Nat) : Rm := { m with A := A, ac := c }
theorem rkc_arm (d : Dk) (al al' : List (Int × Int)) (m : Rm) (A : Option Addr) (n c : Nat) (hn : n = al'.length) : ∀ k, k < 21 → rkCell d al' (m.arm A c) k = if k = 17 then .slice A n c else rkCell d al m k := by
  intro k hk
  subst hn
  by_cases e : k = 17
  · subst e; rfl
  · rw [if_neg e]; simp [rkCell, e, Rm.arm]
set_option maxRecDepth 100000 in
set_option maxHeartbeats 4000000 in
theorem rpower_any (S : Nat → Prop) (g : Nat) (d : Dk) (N : Nat) (n : Int) (w : World) (h : RkS w S g d N) :
    Calls Try.prog 32 #[.pointer (some ⟨g, 0, none⟩), .int .i64 n] w fun e w' => e = .returned (.int .i64 (powerD d n).2) ∧ RkR w S g (powerD d n).1 N w' := by
  unfold powerD
  by_cases h0 : n < 0
  · have h1 : decide (n < 0) = true := decide_eq_true h0
    rw [if_pos (.inl h0)]
    have HE := Lib.hid (rkR_refl h)
    clear h
    go_enter Try.func32, Try.ntmps32
    go_wp2
    go_ret
    exact ⟨rfl, HE.out⟩
  have h1 : decide (n < 0) = false := decide_eq_false h0
  by_cases h2 : 1099511627776 < n
  · have h3 : decide (1099511627776 < n) = true := decide_eq_true h2
    rw [if_pos (.inr h2)]
    have HE := Lib.hid (rkR_refl h)
    clear h
    go_enter Try.func32, Try.ntmps32
    go_wp2
    go_ret
    exact ⟨rfl, HE.out⟩
  have h3 : decide (1099511627776 < n) = false := decide_eq_false h2
  rw [if_neg (by omega)]
  obtain ⟨m, al, hm⟩ := h
  obtain ⟨_, _, c18, c19, _⟩ := rkAt_cells hm
  have z19 := (rkAt_cell hm (show 19 < 21 by omega)).2
  have hN := hm.p.cN
  have hw : IntKind.i64.wrap ((d.ops : Int) + n) = (d.ops : Int) + n := by rw [IntKind.wrap_i64]; omega
  have hP : RkP w S g m { d with power := (d.ops : Int) + n } al N := { hm.p with pw := ⟨by show -1 ≤ (d.ops : Int) + n; omega, by show (d.ops : Int) + n ≤ 2000000000000; omega⟩ }
  have HE := Lib.hid (show RkR w S g { d with power := (d.ops : Int) + n } N (w.setCell ⟨g, 19, none⟩ (.int .i64 ((d.ops : Int) + n))) from
    rkR_of (rk_make hm.blk 19 _ (rkc_power d al m _) hP) (fr_set (p := ⟨g, 19, none⟩) (fr_refl _ _) (.inl hm.p.sg) _) (fun b hb => .inl hb))
  clear hm hN hP
  go_enter Try.func32, Try.ntmps32
  go_wp2
  go_ret
  exact ⟨rfl, HE.out⟩
theorem arm_info : (Try.prog.info? 97).map (fun i => (i.zero, i.size, i.bytes)) = some (some (.agg #[.int .i64 0, .int .i64 0]), 2, 16) := by kernel_rfl
theorem reads_two {W : World} {g : Nat} {t : TypeId} {u v : Value} (h : Blk W g t #[u, v]) : Reads W W.heap.size 2 (some ⟨g, 0, none⟩) 1 [u, v] := by
  refine ⟨rfl, fun _ => ⟨_, rfl, h.lt, fun j x hj => ?_⟩⟩
  have ea : (⟨g, 0, none⟩ : Addr).add j = ⟨g, j, none⟩ := by unfold Addr.add; simp; omega
  rw [ea]
  match j, hj with
  | 0, hj => simp at hj; subst hj; exact h.cell 0
  | 1, hj => simp at hj; subst hj; exact h.cell 1
  | j + 2, hj => simp at hj
/-- a new row of arms is laid -/
theorem rk_arm {W : World} {S : Nat → Prop} {g : Nat} {m : Rm} {d : Dk} {al al' : List (Int × Int)} {N base n c : Nat} {A : Option Addr} (h : RkAt W S g m d al N) (hn : n = al'.length) (ho : W.ownsRow base 97 2 (.slice A n c) n (armL al')) (hb : ∀ b, S b → b < base) (hle : al'.length ≤ N) (hrel : ∀ k : Int, (d.ops : Int) ≤ k → lastE al' k = d.armed k) :
    RkAt (W.setCell ⟨g, 17, none⟩ (.slice A n c)) (fun b => S b ∨ (b < W.heap.size ∧ base ≤ b)) g (m.arm A c) d al' N := by
  have hP := h.p
  have hr : Reads W W.heap.size 2 A n (armL al') := Reads.of_own ho
  refine rk_make h.blk 17 _ (rkc_arm d al al' m A n c hn) ?_
  have hsz : al' ≠ [] → ∀ a, A = some a → base ≤ a.block ∧ a.block < W.heap.size := fun hne a ha => by
    have := ho.lt a.block (by rw [ownBlock_lbk, ha]; rfl)
    exact this
  exact { fl := hP.fl, loo := hP.loo, ard := by rw [← hn]; exact hr, vs := fun i hi hne a ha => ⟨.inl (hP.vs i hi hne a ha).1, (hP.vs i hi hne a ha).2⟩, ars := fun hne a ha => by
            have h1 := hsz hne a ha
            refine ⟨.inr ⟨h1.2, h1.1⟩, fun e => ?_, fun z hz e => ?_⟩
            · have := hb g hP.sg; omega
            · have := hb z (hP.ls z hz).1; omega
          ls := fun z hz => ⟨.inl (hP.ls z hz).1, (hP.ls z hz).2⟩, sg := .inl hP.sg, lt := fun b hb2 => by
            rcases hb2 with h1 | h1
            · exact hP.lt b h1
            · exact h1.1
          rel := hrel, ok := hP.ok, chs := hP.chs, cN := ⟨hP.cN.1, hP.cN.2.1, hle, hP.cN.2.2.2⟩, pw := hP.pw }
theorem rk_armed {W : World} {S : Nat → Prop} {g : Nat} {m : Rm} {d : Dk} {al : List (Int × Int)} {N : Nat} (h : RkAt W S g m d al N) (F : Int → Int) (hF : ∀ k : Int, (d.ops : Int) ≤ k → F k = d.armed k) : RkAt W S g m { d with armed := F } al N :=
  ⟨by
    have e : rkA { d with armed := F } al m = rkA d al m := rfl
    rw [e]; exact h.blk, { h.p with rel := fun k hk => (h.p.rel k hk).trans (hF k hk).symm }⟩
theorem rk_more {W : World} {S : Nat → Prop} {g : Nat} {m : Rm} {d : Dk} {al : List (Int × Int)} {N M : Nat} (h : RkAt W S g m d al N) (hN : N ≤ M) (hM : M ≤ 1000000) : RkAt W S g m d al M :=
  ⟨h.blk, { h.p with cN := ⟨by have := h.p.cN; omega, by have := h.p.cN; omega, by have := h.p.cN; omega, hM⟩ }⟩
set_option maxRecDepth 100000 in
set_option maxHeartbeats 8000000 in
theorem rmeets_any (S : Nat → Prop) (g : Nat) (d : Dk) (N : Nat) (hN : N + 1 ≤ 1000000) (w : World) (h : RkS w S g d N) :
    Calls Try.prog 51 #[.pointer (some ⟨g, 0, none⟩)] w fun e w' => e = .returned (.int .i64 (opD d []).2) ∧ RkR w S g (opD d []).1 (N + 1) w' := by
  obtain ⟨RR, hRR⟩ : ∃ RR, opD d [] = RR := ⟨_, rfl⟩
  rw [hRR]
  have HRR := Lib.hid hRR
  clear hRR
  obtain ⟨m, al, hm⟩ := h
  obtain ⟨iv, hv1, hv2, hv3, hv4⟩ := info_parts arm_info
  obtain ⟨_, c17, c18, c19, _⟩ := rkAt_cells hm
  have z18 := (rkAt_cell hm (show 18 < 21 by omega)).2
  have hcN := hm.p.cN
  have hw1 : IntKind.i64.wrap ((d.ops : Int) + 1) = (d.ops : Int) + 1 := by rw [IntKind.wrap_i64]; omega
  have hP1 : RkP w S g m d.op1 al (N + 1) := { (rk_more hm (Nat.le_succ N) hN).p with rel := fun n hn => hm.p.rel n (by have h2 : ((d.op1.ops : Nat) : Int) = (d.ops : Int) + 1 := rfl; omega), cN := ⟨by show d.ops + 1 ≤ N + 1; omega, by show d.loose.length ≤ _; omega, by omega, hN⟩ }
  have hm1 := rk_make hm.blk 18 (.int .i64 ((d.ops : Int) + 1)) (rkc_ops d al m) hP1
  have hfr := fr_set (p := ⟨g, 18, none⟩) (fr_refl S w) (.inl hm.p.sg) (.int .i64 ((d.ops : Int) + 1))
  have hsz1 : (w.setCell ⟨g, 18, none⟩ (.int .i64 ((d.ops : Int) + 1))).heap.size = w.heap.size := by simp
  have HM1 := Lib.hid hm1
  have HFR := Lib.hid hfr
  have HSZ := Lib.hid hsz1
  have HLT := Lib.hid hm.p.lt
  have HLE := Lib.hid (show lastE al d.ops = d.armed d.ops from hm.p.rel _ (Int.le_refl _))
  have halI : (al.length : Int) ≤ 1000000 := by omega
  clear hm hcN hP1 hm1 hfr hsz1
  go_enter Try.func51, Try.ntmps51
  go_wp2
  go_loopw [4, 5, 6] (fun e v i wr => ∃ (j : Nat) (A' : Option Addr) (k c' : Nat), j ≤ al.length ∧ i = .int .i64 j ∧ e = .int .i64 (lastE (al.take j) d.ops) ∧ k = (offA (al.take j) d.ops).length ∧ v = .slice A' k c' ∧ wr.ownsRow w.heap.size 97 2 (.slice A' k c') k (armL (offA (al.take j) d.ops)) ∧ Below w.heap.size (w.setCell ⟨g, 18, none⟩ (.int .i64 ((d.ops : Int) + 1))) wr) (fun _ _ i _ => al.length - (intOf i).toNat)
  case atStart => exact ⟨0, none, 0, 0, by omega, rfl, rfl, rfl, rfl, World.ownsRow_nil _ _ _ _, Below.refl _ _⟩
  case round =>
    obtain ⟨j, A', k, c', hj, rfl, rfl, hk, rfl, hown, hb⟩ := hrel
    have hmj := rkAt_below HM1.out (by rw [HSZ.out]; exact hb)
    obtain ⟨_, d17, d18, d19, _⟩ := rkAt_cells hmj
    have d19 : wr.cell? ⟨g, 19, none⟩ = some (.int .i64 d.power) := d19
    have h0j : (0 : Int) ≤ j := by omega
    have hwj : IntKind.i64.wrap ((j : Int) + 1) = j + 1 := by rw [IntKind.wrap_i64]; omega
    by_cases hjl : j < al.length
    · have hjI : (j : Int) < al.length := by omega
      obtain ⟨b, o, hA, hcs⟩ := arm_at hmj.p hjl
      rw [hA] at d17
      obtain ⟨a0, a1⟩ := hcs j _ (List.getElem?_eq_getElem hjl)
      have hts : al.take (j + 1) = al.take j ++ [al[j]] := take_snoc (List.getElem?_eq_getElem hjl)
      have hls := lastE_snoc (al.take j) al[j] d.ops
      have hof := offA_snoc (al.take j) al[j] d.ops
      rw [← hts] at hls hof
      have hkl : k ≤ 1000000 := by rw [hk]; have := offA_le (al.take j) d.ops; rw [List.length_take] at this; omega
      generalize al[j] = x at *
      obtain ⟨xo, xe⟩ := x
      simp only at a0 a1 hls hof
      by_cases hxo : xo = d.ops
      · subst hxo
        rw [if_pos rfl] at hls hof
        rw [List.append_nil] at hof
        have HE := Lib.hid (And.intro hls (And.intro hof (And.intro hk (And.intro hown hb))))
        clear hmj hcs hts hls hof hown hb hk hA
        go_wp2
        go_roundw
        case rel => exact ⟨j + 1, A', k, c', by omega, by go_num, by rw [HE.out.1], by rw [HE.out.2.1]; exact HE.out.2.2.1, rfl, by rw [HE.out.2.1]; exact HE.out.2.2.2.1, HE.out.2.2.2.2⟩
        case measure => simp [intOf]; omega
      · have hxb : (xo == (d.ops : Int)) = false := by simpa using hxo
        rw [if_neg hxo] at hls hof
        have HLS := Lib.hid hls
        have HOF := Lib.hid hof
        have HK := Lib.hid hk
        have HO := Lib.hid (own_belowJ hown (one_alloc (o := .cells #[.int .i64 xo, .int .i64 xe] 97)))
        have HB := Lib.hid (hb.alloc (by have := hb.size; rw [HSZ.out] at this; exact this) (.cells #[.int .i64 xo, .int .i64 xe] 97))
        have hrd : Reads (wr.alloc (.cells #[.int .i64 xo, .int .i64 xe] 97)) (wr.alloc (.cells #[.int .i64 xo, .int .i64 xe] 97)).heap.size 2 (some ⟨wr.heap.size, 0, none⟩) 1 [.int .i64 xo, .int .i64 xe] := reads_two (Blk.new wr _ _)
        have HBS := Lib.hid (show w.heap.size ≤ (wr.alloc (.cells #[.int .i64 xo, .int .i64 xe] 97)).heap.size by have h1 := hb.size; rw [HSZ.out] at h1; have h2 := (one_alloc (w := wr) (o := .cells #[.int .i64 xo, .int .i64 xe] 97)).size; omega)
        generalize offA (al.take j) d.ops = oj at *
        clear hmj hcs hts hls hof hown hb hk hA
        go_wp2_with (at_builtin; refine wpList_append_any _ rfl (.tmp 46) (.tmp 54) 54 rfl w.heap.size 97 iv _ 2 16 Try.underlying54 hv1 hv2 hv3 hv4 rfl (by omega) _ k (armL oj) rfl HO.out _ (some ⟨wr.heap.size, 0, none⟩) 1 1 [.int .i64 xo, .int .i64 xe] rfl hrd (by intro u hu; simp at hu; rcases hu with rfl | rfl <;> rfl) (by simp only [maxLen]; omega) (by omega) HBS.out ?_; intro v1 w4 hown1 hg1 hat1; obtain ⟨A1, c2, rfl⟩ := own_form hown1; (have HE := Lib.hid (show w4.ownsRow w.heap.size 97 2 (.slice A1 (k + 1) c2) (k + 1) (armL (offA (al.take (j + 1)) d.ops)) ∧ Below w.heap.size (w.setCell ⟨g, 18, none⟩ (.int .i64 ((d.ops : Int) + 1))) w4 from ⟨by rw [HOF.out, armL_app]; exact hown1, HB.out.grown hg1 HBS.out (fun z hz => (HO.out.lt z hz).1)⟩)); clear hown1 hg1 hat1 hrd)
        go_roundw
        case rel => exact ⟨j + 1, A1, k + 1, c2, by omega, by go_num, by rw [HLS.out], by rw [HOF.out, List.length_append, HK.out]; rfl, rfl, HE.out.1, HE.out.2⟩
        case measure => simp [intOf]; omega
    · obtain rfl : j = al.length := by omega
      have hta : al.take al.length = al := List.take_length
      rw [hta] at hown hk ⊢
      rw [HLE.out]
      have hend := rk_arm (al' := offA al d.ops) hmj hk hown HLT.out (by have := offA_le al d.ops; have := hmj.p.cN; omega) (fun n hn => by
        have h2 : ((d.op1.ops : Nat) : Int) = (d.ops : Int) + 1 := rfl
        rw [lastE_off (by omega)]
        exact hmj.p.rel n hn)
      have z17 := (rkAt_cell hmj (show 17 < 21 by omega)).2
      have d19' := (rkAt_cells hend).2.2.2.1
      have d20 := (rkAt_cells hend).2.2.2.2
      have z20 := (rkAt_cell hend (show 20 < 21 by omega)).2
      have hfe := fr_set (p := ⟨g, 17, none⟩) (fr_trans HFR.out (fr_of (S := S) (by rw [HSZ.out]; exact hb)) (fun b hb => .inl hb)) (.inl (by have := hmj.p.sg; exact this)) (.slice A' k c')
      have hS2 : ∀ b, (S b ∨ (b < wr.heap.size ∧ w.heap.size ≤ b)) → S b ∨ w.heap.size ≤ b := fun b hb => hb.imp id (·.2)
      have d19'' : (wr.setCell ⟨g, 17, none⟩ (.slice A' k c')).cell? ⟨g, 19, none⟩ = some (.int .i64 d.power) := d19'
      have d20' : (wr.setCell ⟨g, 17, none⟩ (.slice A' k c')).cell? ⟨g, 20, none⟩ = some (.bool d.off) := d20
      have HEND := Lib.hid hend
      have HFE := Lib.hid hfe
      have hRR := HRR.out
      unfold opD at hRR
      by_cases hp : (d.ops : Int) = d.power
      · rw [if_pos hp] at hRR
        have HE := Lib.hid (show RkR w S g RR.1 (N + 1) ((wr.setCell ⟨g, 17, none⟩ (.slice A' k c')).setCell ⟨g, 20, none⟩ (.bool true)) from by
          rw [← hRR]
          have hP := HEND.out.p
          have hk2 := rk_make (S := fun b => S b ∨ (b < wr.heap.size ∧ w.heap.size ≤ b)) (d' := d.goes) HEND.out.blk 20 (.bool true) (rkc_off d.op1 _ _ true) ⟨hP.fl, hP.loo, hP.ard, hP.vs, hP.ars, hP.ls, hP.sg, hP.lt, hP.rel, hP.ok, hP.chs, hP.cN, hP.pw⟩
          exact rkR_of hk2 (fr_set (p := ⟨g, 20, none⟩) HFE.out (.inl (by have := hmj.p.sg; exact this)) _) hS2)
        have HE2 := Lib.hid (show RR.2 = 32 from by rw [← hRR])
        have hpb : ((d.ops : Int) == d.power) = true := by simpa using hp
        generalize d.armed d.ops = E at *
        clear hmj hown hb hend hfe hS2 hk hta HM1 d19' hRR HRR
        go_wp2
        go_ret
        exact ⟨by rw [HE2.out]; rfl, HE.out⟩
      · rw [if_neg hp] at hRR
        have hpb : ((d.ops : Int) == d.power) = false := by simpa using hp
        have HE := Lib.hid (show RkR w S g RR.1 (N + 1) (wr.setCell ⟨g, 17, none⟩ (.slice A' k c')) from by
          rw [← hRR]
          split
          · refine rkR_of (rk_armed HEND.out (fun n => if n = d.ops then 0 else d.armed n) (fun n hn => ?_)) HFE.out hS2
            have h2 : ((d.op1.ops : Nat) : Int) = (d.ops : Int) + 1 := rfl
            show (if n = (d.ops : Int) then 0 else d.armed n) = d.armed n
            rw [if_neg (by omega)]
          · rw [List.append_nil]
            exact rkR_of HEND.out HFE.out hS2)
        have HE2 := Lib.hid (show RR.2 = d.armed d.ops from by
          rw [← hRR]
          split
          · rfl
          · rename_i h3; simp at h3; exact h3.symm)
        generalize d.armed d.ops = E at *
        clear hmj hown hb hend hfe hS2 hk hta HM1 d19' hRR HRR
        go_wp2
        go_ret
        exact ⟨by rw [HE2.out]; rfl, HE.out⟩
end Go.Proofs.Ytffojihhjiogpaa
