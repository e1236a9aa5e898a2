/- Layer 3: ref03's Arms. Conditions: those of each lemma. -/
import Derived.Test.YtffojihhjiogpaaFj5
namespace Go.Proofs.Ytffojihhjiogpaa
open Go.RowKit Go Go.Maps
set_option linter.unusedVariables false
set_option linter.unusedSimpArgs false
theorem rk_arm2 {W : World} {S : Nat → Prop} {g : Nat} {m : Rm} {d : Dk} {al al' : List (Int × Int)} {N base n c : Nat} {A : Option Addr} (F : Int → Int) (h : RkAt W S g m d al N) (hn : n = al'.length) (ho : W.ownsRow base 97 2 (.slice A n c) n (armL al')) (hb : ∀ b, S b → b < base) (hN : N + 1 ≤ 1000000) (hle : al'.length ≤ N + 1) (hrel : ∀ k : Int, (d.ops : Int) ≤ k → lastE al' k = F k) :
    RkAt (W.setCell ⟨g, 17, none⟩ (.slice A n c)) (fun b => S b ∨ (b < W.heap.size ∧ base ≤ b)) g (m.arm A c) { d with armed := F } al' (N + 1) := by
  have hP := h.p
  have hr : Reads W W.heap.size 2 A n (armL al') := Reads.of_own ho
  refine rk_make (d := d) (al := al) (m := m) h.blk 17 _ (rkc_arm d al al' m A n c hn) ?_
  have hsz : al' ≠ [] → ∀ a, A = some a → base ≤ a.block ∧ a.block < W.heap.size := fun hne a ha => by
    have := ho.lt a.block (by rw [ownBlock_lbk, ha]; rfl)
    exact this
  exact { fl := hP.fl, loo := hP.loo, ard := by rw [← hn]; exact hr, vs := fun i hi hne a ha => ⟨.inl (hP.vs i hi hne a ha).1, (hP.vs i hi hne a ha).2⟩, ars := fun hne a ha => by
            have h1 := hsz hne a ha
            refine ⟨.inr ⟨h1.2, h1.1⟩, fun e => ?_, fun z hz e => ?_⟩
            · have := hb g hP.sg; omega
            · have := hb z (hP.ls z hz).1; omega
          ls := fun z hz => ⟨.inl (hP.ls z hz).1, (hP.ls z hz).2⟩, sg := .inl hP.sg, lt := fun b hb2 => by
            rcases hb2 with h1 | h1
            · exact hP.lt b h1
            · exact h1.1
          rel := hrel, ok := hP.ok, chs := hP.chs, cN := ⟨by have := hP.cN.1; show d.ops ≤ N + 1; omega, by have := hP.cN.2.1; show d.loose.length ≤ 8192 * (N + 1); omega, hle, hN⟩, pw := hP.pw }
theorem rarm_bad (S : Nat → Prop) (g : Nat) (d : Dk) (N : Nat) (n e0 : Int) (w : World) (h : RkS w S g d N) (hbad : n < 0 ∨ 1099511627776 < n ∨ (e0 ≠ 30 ∧ e0 ≠ 31)) :
    Calls Try.prog 31 #[.pointer (some ⟨g, 0, none⟩), .int .i64 n, .int .i64 e0] w fun e w' => e = .returned (.int .i64 2) ∧ w = w' := by
  clear h
  by_cases h0 : n < 0
  · have b0 : decide (n < 0) = true := decide_eq_true h0
    clear hbad
    go_enter Try.func31, Try.ntmps31
    go_wp2
    go_ret
    exact ⟨rfl, rfl⟩
  have b0 : decide (n < 0) = false := decide_eq_false h0
  by_cases h1 : 1099511627776 < n
  · have b1 : decide (1099511627776 < n) = true := decide_eq_true h1
    clear hbad
    go_enter Try.func31, Try.ntmps31
    go_wp2
    go_ret
    exact ⟨rfl, rfl⟩
  have b1 : decide (1099511627776 < n) = false := decide_eq_false h1
  obtain ⟨h2, h3⟩ : e0 ≠ 30 ∧ e0 ≠ 31 := by rcases hbad with h | h | h; exact absurd h h0; exact absurd h h1; exact h
  have b2 : (e0 == 30) = false := by simpa using h2
  have b3 : (e0 == 31) = false := by simpa using h3
  have b4 : (e0 != 30) = true := by simpa using h2
  have b5 : (e0 != 31) = true := by simpa using h3
  clear hbad
  go_enter Try.func31, Try.ntmps31
  go_wp2
  go_ret
  exact ⟨rfl, rfl⟩
set_option maxRecDepth 100000 in
set_option maxHeartbeats 8000000 in
theorem rarm_good (S : Nat → Prop) (g : Nat) (d : Dk) (N : Nat) (hN : N + 1 ≤ 1000000) (n e0 : Int) (w : World) (h : RkS w S g d N) (h0 : 0 ≤ n) (h1 : n ≤ 1099511627776) (he : e0 = 30 ∨ e0 = 31) :
    Calls Try.prog 31 #[.pointer (some ⟨g, 0, none⟩), .int .i64 n, .int .i64 e0] w fun e w' => e = .returned (.int .i64 0) ∧ RkR w S g { d with armed := fun k => if k = d.ops + n then e0 else d.armed k } (N + 1) w' := by
  obtain ⟨m, al, hm⟩ := h
  obtain ⟨iv, hv1, hv2, hv3, hv4⟩ := info_parts arm_info
  have b0 : decide (n < 0) = false := decide_eq_false (by omega)
  have b1 : decide (1099511627776 < n) = false := decide_eq_false (by omega)
  have hcN := hm.p.cN
  have hwk : IntKind.i64.wrap ((d.ops : Int) + n) = (d.ops : Int) + n := by rw [IntKind.wrap_i64]; omega
  have HLT := Lib.hid hm.p.lt
  have HMM := Lib.hid hm
  have halI : (al.length : Int) ≤ 1000000 := by omega
  clear hm hcN
  have key : ∀ e1, e0 = e1 → Calls Try.prog 31 #[.pointer (some ⟨g, 0, none⟩), .int .i64 n, .int .i64 e1] w fun e w' => e = .returned (.int .i64 0) ∧ RkR w S g { d with armed := fun k => if k = d.ops + n then e0 else d.armed k } (N + 1) w' := by
    intro e1 he1
    rw [he1] at he ⊢
    clear he1
    obtain ⟨K, hK⟩ : ∃ K, (d.ops : Int) + n = K := ⟨_, rfl⟩
    have HK := Lib.hid hK
    rw [hK] at hwk ⊢
    clear hK h0 h1
    rcases he with rfl | rfl
    all_goals
      go_enter Try.func31, Try.ntmps31
      go_wp2
      go_loopw [7, 8] (fun v i wr => ∃ (j : Nat) (A' : Option Addr) (k c' : Nat), j ≤ al.length ∧ i = .int .i64 j ∧ k = (offA (al.take j) K).length ∧ v = .slice A' k c' ∧ wr.ownsRow w.heap.size 97 2 (.slice A' k c') k (armL (offA (al.take j) K)) ∧ Below w.heap.size w wr) (fun _ i _ => al.length - (intOf i).toNat)
      case atStart => exact ⟨0, none, 0, 0, by omega, rfl, rfl, rfl, World.ownsRow_nil _ _ _ _, Below.refl _ _⟩
      case round =>
        obtain ⟨j, A', k, c', hj, rfl, hk, rfl, hown, hb⟩ := hrel
        have hmj := rkAt_below HMM.out hb
        obtain ⟨_, d17, d18, _, _⟩ := rkAt_cells hmj
        have h0j : (0 : Int) ≤ j := by omega
        have hwj : IntKind.i64.wrap ((j : Int) + 1) = j + 1 := by rw [IntKind.wrap_i64]; omega
        have hkl : k ≤ 1000000 := by rw [hk]; have := offA_le (al.take j) K; rw [List.length_take] at this; omega
        have hwk2 : IntKind.i64.wrap ((d.ops : Int) + n) = K := by rw [HK.out]; exact hwk
        by_cases hjl : j < al.length
        · have hjI : (j : Int) < al.length := by omega
          obtain ⟨b, o, hA, hcs⟩ := arm_at hmj.p hjl
          rw [hA] at d17
          obtain ⟨a0, a1⟩ := hcs j _ (List.getElem?_eq_getElem hjl)
          have hts : al.take (j + 1) = al.take j ++ [al[j]] := take_snoc (List.getElem?_eq_getElem hjl)
          have hof := offA_snoc (al.take j) al[j] K
          rw [← hts] at hof
          generalize al[j] = x at *
          obtain ⟨xo, xe⟩ := x
          simp only at a0 a1 hof
          by_cases hxo : xo = K
          · subst hxo
            rw [if_pos rfl, List.append_nil] at hof
            have HE := Lib.hid (And.intro hof (And.intro hk (And.intro hown hb)))
            have HBN := Lib.hid (fun nq => below_drewN hb nq)
            have HON := Lib.hid (fun nq => own_belowJ hown (below_drewN (Below.refl wr.heap.size wr) nq))
            clear hmj hcs hts hof hown hb hk hA
            go_wp2_with fail
            go_big_quiet (fail)
            go_wp2
            go_roundw
            case rel => exact ⟨j + 1, A', k, c', by omega, by go_num, by rw [HE.out.1]; exact HE.out.2.1, rfl, by rw [HE.out.1]; exact HON.out _, HBN.out _⟩
            case measure => simp [intOf]; omega
          · have hxb : (xo == K) = false := by simpa using hxo
            have hxb2 : (xo != K) = true := by simpa using hxo
            rw [if_neg hxo] at hof
            have HOF := Lib.hid hof
            have HK2 := Lib.hid hk
            generalize offA (al.take j) K = oj at *
            have HON := Lib.hid (fun nq => own_belowJ (own_belowJ hown (below_drewN (Below.refl wr.heap.size wr) nq)) (one_alloc (o := .cells #[.int .i64 xo, .int .i64 xe] 97)))
            have HBN := Lib.hid (fun nq => bj (below_drewN hb nq) (one_alloc (o := .cells #[.int .i64 xo, .int .i64 xe] 97)))
            have hrd : ∀ nq, Reads ((wr.drewN nq).alloc (.cells #[.int .i64 xo, .int .i64 xe] 97)) ((wr.drewN nq).alloc (.cells #[.int .i64 xo, .int .i64 xe] 97)).heap.size 2 (some ⟨wr.heap.size, 0, none⟩) 1 [.int .i64 xo, .int .i64 xe] := fun nq => reads_two (Blk.new (wr.drewN nq) _ _)
            have HRD := Lib.hid hrd
            have HLO := Lib.hid (fun z (hz : (Value.slice A' k c').ownBlock = some z) => (hown.lt z hz).1)
            clear hmj hcs hts hof hown hb hk hA hrd
            go_wp2_with fail
            go_big_quiet (fail)
            go_wp2_with (at_builtin; refine wpList_append_any _ rfl (.tmp 47) (.tmp 55) 54 rfl w.heap.size 97 iv _ 2 16 Try.underlying54 hv1 hv2 hv3 hv4 rfl (by omega) _ k (armL oj) rfl (HON.out _) _ (some ⟨wr.heap.size, 0, none⟩) 1 1 [.int .i64 xo, .int .i64 xe] rfl (HRD.out _) (by intro u hu; simp at hu; rcases hu with rfl | rfl <;> rfl) (by simp only [maxLen]; omega) (by omega) (HBN.out _).size ?_; intro v1 w4 hown1 hg1 hat1; obtain ⟨A1, c2, rfl⟩ := own_form hown1; (have HE := Lib.hid (show w4.ownsRow w.heap.size 97 2 (.slice A1 (k + 1) c2) (k + 1) (armL (offA (al.take (j + 1)) K)) ∧ Below w.heap.size w w4 from ⟨by rw [HOF.out, armL_app]; exact hown1, (HBN.out _).grown hg1 (HBN.out _).size HLO.out⟩)); clear hown1 hg1 hat1)
            go_roundw
            case rel => exact ⟨j + 1, A1, k + 1, c2, by omega, by go_num, by rw [HOF.out, List.length_append, HK2.out]; rfl, rfl, HE.out.1, HE.out.2⟩
            case measure => simp [intOf]; omega
        · obtain rfl : j = al.length := by omega
          have hta : al.take al.length = al := List.take_length
          rw [hta] at hown hk
          have HFIN := Lib.hid (fun (ee : Int) (W : World) (A1 : Option Addr) (c2 : Nat) (ho2 : W.ownsRow w.heap.size 97 2 (.slice A1 (k + 1) c2) (k + 1) (armL (offA al K) ++ [.int .i64 K, .int .i64 ee])) (hb2 : Below w.heap.size w W) => (show RkR w S g { d with armed := fun k => if k = K then ee else d.armed k } (N + 1) (W.setCell ⟨g, 17, none⟩ (.slice A1 (k + 1) c2)) from by
            have hmW := rkAt_below HMM.out hb2
            have hk1 : k + 1 = (offA al K ++ [(K, ee)]).length := by rw [List.length_append, hk]; rfl
            refine rkR_of (rk_arm2 (al' := offA al K ++ [(K, ee)]) (fun k => if k = K then ee else d.armed k) hmW hk1 (by rw [armL_app]; exact ho2) HLT.out hN (by have := offA_le al K; have := hmW.p.cN; rw [List.length_append]; simp; omega) (fun q hq => ?_)) (fr_set (p := ⟨g, 17, none⟩) (fr_of (S := S) hb2) (.inl hmW.p.sg) _) (fun b hb => hb.imp id (·.2))
            rw [lastE_snoc]
            show (if K = q then ee else lastE (offA al K) q) = if q = K then ee else d.armed q
            by_cases e : q = K
            · subst e; rw [if_pos rfl, if_pos rfl]
            · rw [if_neg (fun e2 => e e2.symm), if_neg e, lastE_off e]
              exact hmW.p.rel q hq))
          have z17 : ∀ (W : World) (hb2 : Below w.heap.size w W), W.frozen? ⟨g, 17, none⟩ = false ∧ W.cell? ⟨g, 17, none⟩ = some (.slice m.A al.length m.ac) := fun W hb2 => ⟨(rkAt_cell (rkAt_below HMM.out hb2) (show 17 < 21 by omega)).2, (rkAt_cells (rkAt_below HMM.out hb2)).2.1⟩
          have HZ17 := Lib.hid z17
          have HOA := Lib.hid (fun ee => own_belowJ hown (one_alloc (o := .cells #[.int .i64 K, .int .i64 ee] 97)))
          have HBA := Lib.hid (fun ee => bj hb (one_alloc (o := .cells #[.int .i64 K, .int .i64 ee] 97)))
          have HRD := Lib.hid (fun ee => (reads_two (Blk.new wr 97 #[.int .i64 K, .int .i64 ee])))
          have HLO := Lib.hid (fun z (hz : (Value.slice A' k c').ownBlock = some z) => (hown.lt z hz).1)
          generalize offA al K = oa at *
          clear hmj hown hb hk hta z17
          go_wp2_with (at_builtin; refine wpList_append_any _ rfl (.tmp 58) (.tmp 67) 54 rfl w.heap.size 97 iv _ 2 16 Try.underlying54 hv1 hv2 hv3 hv4 rfl (by omega) _ k (armL oa) rfl (HOA.out _) _ (some ⟨wr.heap.size, 0, none⟩) 1 1 _ rfl (HRD.out _) (by intro u hu; simp at hu; rcases hu with rfl | rfl <;> rfl) (by simp only [maxLen]; omega) (by omega) (HBA.out _).size ?_; intro v1 w4 hown1 hg1 hat1; obtain ⟨A1, c2, rfl⟩ := own_form hown1; (have hb4 := (HBA.out _).grown hg1 (HBA.out _).size HLO.out); (have HE := Lib.hid (HFIN.out _ w4 A1 c2 hown1 hb4)); obtain ⟨z1, z2⟩ := HZ17.out _ hb4; clear hown1 hg1 hat1 hb4)
          go_ret
          exact ⟨rfl, HE.out⟩
  exact key e0 rfl
end Go.Proofs.Ytffojihhjiogpaa
