/- The walk of NetPlays. Conditions: the script fits its kinds. -/
import Derived.Test.YtndlcjpkpkfcpaaNt19
import Derived.Deep.RegionHeld3
namespace Go.Proofs.Ytndlcjpkpkfcpaa
open Go.RowKit Go Go.Maps
set_option linter.unusedVariables false
set_option linter.unusedSimpArgs false
theorem beq_noI {a b : Int} (h : a ≠ b) : (a == b) = false := by simp [h]
theorem opsl_step {w W : World} {A : Option Addr} {l : List Opx} (h : Opsl w w.heap.size A l) (hb : Below w.heap.size w W) : Opsl W W.heap.size A l := by
  rcases h with h | ⟨b, o, hA, hlt, hc⟩
  · exact .inl h
  · refine .inr ⟨b, o, hA, Nat.lt_of_lt_of_le hlt hb.size, fun j x hx => ?_⟩
    obtain ⟨h0, h1, h2, h3, h4⟩ := hc j x hx
    exact ⟨(hb.cell (p := ⟨b, o + j * 5, none⟩) hlt).trans h0, (hb.cell (p := ⟨b, o + j * 5 + 1, none⟩) hlt).trans h1, (hb.cell (p := ⟨b, o + j * 5 + 2, none⟩) hlt).trans h2, (hb.cell (p := ⟨b, o + j * 5 + 3, none⟩) hlt).trans h3, (hb.cell (p := ⟨b, o + j * 5 + 4, none⟩) hlt).trans h4⟩
theorem light {l : List Opx} (h : heavyB l = false) : l.length ≤ 300 := by
  unfold heavyB at h
  split at h
  · cases h
  · have := of_decide_eq_false h
    omega
/-- with what r.L is -/
def Pf (w : World) (gn gm gr base : Nat) (L : List Lt) (N : Int) (A : Option Addr) (c : Nat) (W : World) : Prop := Pl w gn gm gr base L L N N W ∧ W.cell? ⟨gr, 0, none⟩ = some (.slice A L.length c) ∧ LtsAt W W.heap.size A L
theorem pf_of {w W : World} {gn gm gr base : Nat} {L : List Lt} {N : Int} (h : Pl w gn gm gr base L L N N W) : ∃ A c, Pf w gn gm gr base L N A c W := by
  obtain ⟨v, h1, h2, _⟩ := h.2.1
  obtain ⟨A, c, rfl, hl⟩ := lts_of_own h2
  exact ⟨A, c, h, h1.cell 0, hl⟩
theorem pf_step {w W W' : World} {gn gm gr base : Nat} {L : List Lt} {N : Int} {A : Option Addr} {c : Nat} (h : Pf w gn gm gr base L N A c W) (hb : Below W.heap.size W W') : Pf w gn gm gr base L N A c W' := by
  obtain ⟨h1, h2, h3⟩ := h
  have hl : gr < W.heap.size := by obtain ⟨_, q, _⟩ := h1.2.1; exact q.lt
  refine ⟨pl_step h1 hb, (hb.cell (p := ⟨gr, 0, none⟩) hl).trans h2, ?_⟩
  rcases lts_step h3 hb with e | ⟨g, o, e, hg, hc⟩
  · exact .inl e
  · exact .inr ⟨g, o, e, Nat.lt_of_lt_of_le hg hb.size, hc⟩
theorem pf_cell {w W : World} {gn gm gr base : Nat} {L : List Lt} {N : Int} {A : Option Addr} {c : Nat} (h : Pf w gn gm gr base L N A c W) : W.cell? ⟨gr, 0, none⟩ = some (.slice A L.length c) := h.2.1
theorem pq_cells {w W : World} {gn gm gr base : Nat} {La Lb : List Lt} {Na Nb : Int} {g : Nat} {k a b y : Int} {s : ByteArray} (h : Pq w gn gm gr base La Lb Na Nb g ⟨k, a, b, s, y⟩ W) : W.cell? ⟨g, 1, none⟩ = some (.int .i64 a) ∧ W.cell? ⟨g, 2, none⟩ = some (.int .i64 b) ∧ W.cell? ⟨g, 4, none⟩ = some (.int .u8 y) := by
  obtain ⟨h0, h1, h2, h3, h4⟩ := cell5 h.2.1
  exact ⟨h1, h2, h4⟩
theorem flight_pf {w : World} {gn gm gr base : Nat} {L : List Lt} {N : Int} {A : Option Addr} {c : Nat} (hN : N ≤ 1000000) (W : World) (h : Pf w gn gm gr base L N A c W) : Calls Try.prog 13 #[.pointer (some ⟨gn, 0, none⟩)] W fun e w' => ∃ Af cf, e = .returned (.slice Af L.length cf) ∧ LtsAt w' w'.heap.size Af L ∧ Pf w gn gm gr base L N A c w' := by
  refine (flight_any gn gm L N W h.1.1 hN).mono ?_
  rintro e wf ⟨vf, rfl, hof, _, hbf⟩
  obtain ⟨Af, cf, rfl, hl⟩ := lts_of_own hof
  exact ⟨Af, cf, rfl, hl, pf_step h hbf⟩
theorem equal_pf {w : World} {gn gm gr base : Nat} {L : List Lt} {N : Int} {A : Option Addr} {c : Nat} (hL : L.length ≤ 64) (W : World) (Af : Option Addr) (cf : Nat) (hf : LtsAt W W.heap.size Af L) (h : Pf w gn gm gr base L N A c W) : Calls Try.prog 20 #[.slice Af L.length cf, .slice A L.length c] W fun e w' => e = .returned (.bool true) ∧ Pf w gn gm gr base L N A c w' := by
  refine (equal_same Af A cf c L W hf h.2.2 hL).mono ?_
  rintro e w' ⟨rfl, hb⟩
  exact ⟨rfl, pf_step h hb⟩
theorem pl_drew {w W : World} {gn gm gr base : Nat} {La Lb : List Lt} {Na Nb : Int} (h : Pl w gn gm gr base La Lb Na Nb W) : Pl w gn gm gr base La Lb Na Nb W.drew := pl_step h (Below.refl _ _).drew
set_option maxRecDepth 100000 in
set_option maxHeartbeats 16000000 in
theorem plays_heavy (A : Option Addr) (l : List Opx) (n c : Nat) (w : World) (hO : Opsl w w.heap.size A l) (hn : n = l.length) (hm : n ≤ maxLen) (hh : heavyB l = true) :
    Calls Try.prog 4 #[.slice A n c] w fun e w' => e = .returned (.bool true) ∧ Below w.heap.size w w' := by
  have HH := Lib.hid (fun (W : World) (hb : Below w.heap.size w W) => (by
    have h := heavy_any A l n c W (opsl_step hO hb) hn hm
    rw [hh] at h
    exact h : Calls Try.prog 15 #[.slice A n c] W fun e w' => e = .returned (.bool true) ∧ Below W.heap.size W w'))
  clear hO hn hm hh
  go_enter Try.func4, Try.ntmps4
  go_wp2_with fail
  refine (works25 _).mono ?_
  rintro e w1 ⟨rfl, hb1⟩
  go_wp2_with fail
  refine (HH.out _ hb1).mono ?_
  rintro e w2 ⟨rfl, hb2⟩
  have HB := Lib.hid (bj hb1 hb2)
  clear hb1 hb2
  go_wp2
  go_ret
  exact ⟨rfl, HB.out⟩
set_option maxRecDepth 100000 in
set_option maxHeartbeats 16000000 in
theorem plays_empty (c : Nat) (A : Option Addr) (w : World) :
    Calls Try.prog 4 #[.slice A 0 c] w fun e w' => e = .returned (.bool true) ∧ Below w.heap.size w w' := by
  have hO : Opsl w w.heap.size A [] := .inl rfl
  have hn : 0 = ([] : List Opx).length := rfl
  have hm : 0 ≤ maxLen := Nat.zero_le _
  have hh : heavyB [] = false := rfl
  have HH := Lib.hid (fun (W : World) (hb : Below w.heap.size w W) => (by
    have h := heavy_any A [] 0 c W (opsl_step hO hb) hn hm
    rw [hh] at h
    exact h : Calls Try.prog 15 #[.slice A 0 c] W fun e w' => e = .returned (.bool false) ∧ Below W.heap.size W w'))
  clear hO hn hm hh
  go_enter Try.func4, Try.ntmps4
  go_wp2_with fail
  refine (works25 _).mono ?_
  rintro e w1 ⟨rfl, hb1⟩
  go_wp2_with fail
  refine (HH.out _ hb1).mono ?_
  rintro e w2 ⟨rfl, hb2⟩
  have HB := Lib.hid (bj hb1 hb2)
  clear hb1 hb2
  go_wp2_with fail
  refine (new_any _).mono ?_
  rintro e w3 ⟨gn, gm, rfl, hn3, h1, h2, hb3⟩
  obtain ⟨gr, hgr⟩ : ∃ gr, w3.heap.size = gr := ⟨_, rfl⟩
  have HTS : Hid (Pl w gn gm gr gr [] [] 0 0 (w3.alloc (.cells #[.slice none 0 0, .int .i64 0] 42))) := Lib.hid (by
    have hl1 := hn3.1.lt
    have hl2 := hn3.2.1.lt
    have hs2 := HB.out.size
    have hs3 := hb3.size
    refine ⟨net_step hn3 one_alloc, ⟨.slice none 0 0, blk_new _ _ _ _ hgr, own_nil _ _, (fun k hk => by simp [Value.ownBlock] at hk), Nat.le_refl _⟩, by omega, by omega, by omega, by omega, bj (bj HB.out hb3) one_alloc⟩)
  clear hn3 h1 h2 hb3 HB HH
  go_wp2
  clear hgr
  go_loopw [28] (fun i wr => i = .int .i64 0 ∧ Pl w gn gm gr gr [] [] 0 0 wr) (fun _ _ => 0)
  case atStart => exact ⟨rfl, HTS.out⟩
  case round =>
    obtain ⟨rfl, hts⟩ := hrel
    go_wp2
    go_ret
    exact ⟨rfl, hts.2.2.2.2.2.2⟩
set_option maxRecDepth 100000 in
set_option maxHeartbeats 16000000 in
theorem plays_main (l : List Opx) (b o n c : Nat) (w : World) (hO : Opsl w w.heap.size (some ⟨b, o, none⟩) l) (hn : n = l.length) (hn0 : 0 < n) (hm : n ≤ maxLen) (hh : heavyB l = false) (hF : ∀ x ∈ l, FitO x) :
    Calls Try.prog 4 #[.slice (some ⟨b, o, none⟩) n c] w fun e w' => e = .returned (.bool true) ∧ Below w.heap.size w w' := by
  have HH := Lib.hid (fun (W : World) (hb : Below w.heap.size w W) => (by
    have h := heavy_any (some ⟨b, o, none⟩) l n c W (opsl_step hO hb) hn hm
    rw [hh] at h
    exact h : Calls Try.prog 15 #[.slice (some ⟨b, o, none⟩) n c] W fun e w' => e = .returned (.bool false) ∧ Below W.heap.size W w'))
  obtain ⟨b', o', hA, hlt, hc⟩ := ops_get hO (fun e => by rw [e] at hn; simp at hn; omega)
  obtain ⟨rfl, rfl⟩ : b = b' ∧ o = o' := by simpa using hA
  have HC := Lib.hid hc
  have HN := Lib.hid hn
  have HF := Lib.hid hF
  have HL := Lib.hid (light hh)
  have HJ : Hid (n ≤ 300) := Lib.hid (by have := light hh; omega)
  clear hO hn hm hh hA hc hF hlt hn0
  go_enter Try.func4, Try.ntmps4
  go_wp2_with fail
  refine (works25 _).mono ?_
  rintro e w1 ⟨rfl, hb1⟩
  go_wp2_with fail
  refine (HH.out _ hb1).mono ?_
  rintro e w2 ⟨rfl, hb2⟩
  have HB := Lib.hid (bj hb1 hb2)
  clear hb1 hb2
  go_wp2_with fail
  refine (new_any _).mono ?_
  rintro e w3 ⟨gn, gm, rfl, hn3, h1, h2, hb3⟩
  obtain ⟨gr, hgr⟩ : ∃ gr, w3.heap.size = gr := ⟨_, rfl⟩
  have HTS : Hid (Pl w gn gm gr gr [] [] 0 0 (w3.alloc (.cells #[.slice none 0 0, .int .i64 0] 42))) := Lib.hid (by
    have hl1 := hn3.1.lt
    have hl2 := hn3.2.1.lt
    have hs2 := HB.out.size
    have hs3 := hb3.size
    refine ⟨net_step hn3 one_alloc, ⟨.slice none 0 0, blk_new _ _ _ _ hgr, own_nil _ _, (fun k hk => by simp [Value.ownBlock] at hk), Nat.le_refl _⟩, by omega, by omega, by omega, by omega, bj (bj HB.out hb3) one_alloc⟩)
  clear hn3 h1 h2 hb3 HB HH
  go_wp2
  clear hgr
  go_loopw [28] (fun i wr => ∃ (j : Nat) (L : List Lt) (N : Int), j ≤ n ∧ i = .int .i64 j ∧ N ≤ j ∧ Sz L ∧ Pl w gn gm gr gr L L N N wr) (fun i _ => n - (intOf i).toNat)
  case atStart => exact ⟨0, [], 0, by omega, rfl, by omega, (fun x hx => by cases hx), HTS.out⟩
  case round =>
    clear HTS
    obtain ⟨j, L, N, hj, rfl, hnj, hsz, hts⟩ := hrel
    have HSZ := Lib.hid hsz
    have HTS := Lib.hid hts
    have HNJ0 := Lib.hid (show N ≤ (j : Int) ∧ (j : Int) ≤ n by omega)
    by_cases hjn : j < n
    · have hjl : j < l.length := by have := HN.out; omega
      obtain ⟨a0, a1, a2, a3, a4⟩ := HC.out _ HTS.out.2.2.2.2.2.2 j l[j] (List.getElem?_eq_getElem hjl)
      have hfit := HF.out l[j] (List.getElem_mem hjl)
      have HT0 := pq_new HTS.out l[j]
      generalize l[j] = xx at *
      obtain ⟨xk, xa, xb, xs, xy⟩ := xx
      simp only at a0 a1 a2 a3 a4
      have HXA := Lib.hid hfit.2.1
      have HXY := Lib.hid (show 0 ≤ xy ∧ xy < 256 from hfit.2.2.2)
      have HN0 : Hid (0 ≤ N ∧ N ≤ 1000) := Lib.hid ⟨HTS.out.1.2.2.2.2.2.2, by have := HNJ0.out; have := HJ.out; omega⟩
      have HU : Hid (Up L ∧ L.length ≤ 64) := Lib.hid ⟨HTS.out.1.2.2.2.1, HTS.out.1.2.2.2.2.2.1⟩
      have HT := Lib.hid HT0
      have hjI : (j : Int) < n := by omega
      have hj3 : (j : Int) < 300 := by have := HJ.out; omega
      clear hts hnj HT0 hfit hsz
      obtain ⟨o0, o1, o2, o3, o4⟩ := cell5 HT.out.2.1
      by_cases hk0 : xk = 0
      · obtain rfl := hk0
        obtain ⟨z1, z2, L2, N2, hs2, hn2, hbo⟩ := send_both xa xb xs L N HSZ.out HN0.out.1 (by have := HN0.out; omega)
        have HS2 := Lib.hid hs2
        have HNJ : Hid (N2 ≤ (j : Int) + 1 ∧ N2 ≤ 1000) := Lib.hid (by have := HNJ0.out; have := HJ.out; omega)
        have HC1 : Hid (∀ W, NetS gn gm L N W → Calls Try.prog 7 #[.pointer (some ⟨gn, 0, none⟩), .int .i64 xa, .int .i64 xb, .string xs] W fun e w' => e = .returned (.tuple #[.int .i64 z1, .int .i64 z2]) ∧ NetS gn gm L2 N2 w' ∧ But gn gm W w') := Lib.hid (hbo.1 gn gm)
        have HC2 : Hid (∀ W, RefS gr gr L N W → Calls Try.prog 16 #[.pointer (some ⟨gr, 0, none⟩), .int .i64 xa, .int .i64 xb, .string xs] W fun e w' => e = .returned (.tuple #[.int .i64 z1, .int .i64 z2]) ∧ RefS gr gr L2 N2 w' ∧ But gr gr W w') := Lib.hid (hbo.2 gr gr)
        clear hs2 hn2 hbo
        go_wp2_with fail
        refine (HC1.out _ HT.out.1.1).mono ?_
        rintro e w3 ⟨rfl, hn3, hb3⟩
        have HT3 := Lib.hid (pq_net HT.out hn3 hb3)
        clear hn3 hb3 HT
        clear o0 o1 o2 o3 o4
        obtain ⟨o0, o1, o2, o3, o4⟩ := cell5 HT3.out.2.1
        go_wp2_with fail
        refine (HC2.out _ HT3.out.1.2.1).mono ?_
        rintro e w6 ⟨rfl, hn3, hb3⟩
        have HT4 := Lib.hid (pq_ref HT3.out hn3 hb3)
        clear hn3 hb3 HT3 HC1 HC2
        clear o0 o1 o2 o3 o4
        obtain ⟨o0, o1, o2, o3, o4⟩ := cell5 HT4.out.2.1
        have HT9 := Lib.hid HT4.out.1
        clear HT4
        obtain ⟨A9, c9, hpf⟩ := pf_of (pl_drew HT9.out)
        have HF := Lib.hid (fun W (h : Pf w gn gm gr gr L2 N2 A9 c9 W) => flight_pf (by have := HNJ.out; omega) W h)
        have HE := Lib.hid (fun W Af cf (hf : LtsAt W W.heap.size Af L2) (h : Pf w gn gm gr gr L2 N2 A9 c9 W) => equal_pf (by have := HT9.out.1.2.2.2; exact this.2.2.1) W Af cf hf h)
        clear HT9
        go_wp2_with fail
        go_region_held3 (fun W => W.cell? ⟨gr, 0, none⟩ = some (.slice A9 L2.length c9))
          (with_reducible exact pf_cell (by assumption))
          (first
            | (go_at_call 13; (with_reducible refine (HF.out _ (by assumption)).mono ?_); rintro e w4 ⟨Af, cf, rfl, hlf, hpf⟩)
            | (go_at_call 20; (with_reducible refine (HE.out _ _ _ (by assumption) (by assumption)).mono ?_); rintro e w5 ⟨rfl, hpf⟩))
        all_goals
          go_wp2
          go_roundw
          case rel => exact ⟨j + 1, L2, N2, by omega, by go_num, by have := HNJ.out; omega, HS2.out, hpf.1⟩
          case measure => simp only [intOf]; omega
      have hb0 := beq_noI hk0
      clear hk0
      by_cases hk1 : xk = 1
      · obtain rfl := hk1
        obtain ⟨x, E, L2, hs2, hbo, hdr⟩ := deliver_both xa L N HXA.out HU.out.1 HU.out.2 HSZ.out
        obtain ⟨xi, xf, xt, xbs, xsp⟩ := x
        have HS2 := Lib.hid hs2
        obtain ⟨N2, hN2⟩ : ∃ N2, N = N2 := ⟨_, rfl⟩
        have HNJ : Hid (N2 ≤ (j : Int) + 1 ∧ N2 ≤ 1000) := Lib.hid (by have := HNJ0.out; have := HJ.out; omega)
        have HC1 : Hid (∀ W, NetS gn gm L N W → Calls Try.prog 11 #[.pointer (some ⟨gn, 0, none⟩), .int .i64 xa] W fun e w' => e = .returned (.tuple #[ltV ⟨xi, xf, xt, xbs, xsp⟩, .int .i64 E]) ∧ NetS gn gm L2 N w' ∧ But gn gm W w') := Lib.hid (hbo.1 gn gm)
        have HC2 : Hid (∀ W, RefS gr gr L N W → Calls Try.prog 17 #[.pointer (some ⟨gr, 0, none⟩), .int .i64 xa] W fun e w' => e = .returned (.tuple #[ltV ⟨xi, xf, xt, xbs, xsp⟩, .int .i64 E]) ∧ RefS gr gr L2 N w' ∧ But gr gr W w') := Lib.hid (hbo.2 gr gr)
        have HC3 := Lib.hid (hdr gn gm)
        clear hs2 hbo hdr
        go_wp2_with fail
        refine (HC2.out _ HT.out.1.2.1).mono ?_
        rintro e w3 ⟨rfl, hn3, hb3⟩
        have HNE : Hid (w3.heap.size ≠ gn ∧ w3.heap.size ≠ gm) := Lib.hid (by have h := (pq_ref HT.out hn3 hb3).1.1.1.lt; have h2 := (pq_ref HT.out hn3 hb3).1.1.2.1.lt; omega)
        have HT3 := Lib.hid (pq_step (pq_ref HT.out hn3 hb3) (one_alloc (o := .cells (ltC ⟨xi, xf, xt, xbs, xsp⟩) 31)))
        have HX3 := Lib.hid (Blk.new w3 31 (ltC ⟨xi, xf, xt, xbs, xsp⟩))
        clear hn3 hb3 HT
        clear o0 o1 o2 o3 o4
        obtain ⟨o0, o1, o2, o3, o4⟩ := cell5 HT3.out.2.1
        have HQ : Hid (w3.heap.size ≠ gn ∧ w3.heap.size ≠ gm) := Lib.hid ⟨HNE.out.1, HNE.out.2⟩
        go_wp2_with fail
        refine (HC1.out _ HT3.out.1.1).mono ?_
        rintro e w6 ⟨rfl, hn3, hb3⟩
        have HX6 := Lib.hid (blk_step (but_blk hb3 HX3.out (by have h := HT3.out.1.1.1.lt; have h2 := HT3.out.1.1.2.1.lt; exact HQ.out.1) HQ.out.2) (one_alloc (o := .cells (ltC ⟨xi, xf, xt, xbs, xsp⟩) 31)))
        have HT4 := Lib.hid (pq_step (pq_net HT3.out hn3 hb3) (one_alloc (o := .cells (ltC ⟨xi, xf, xt, xbs, xsp⟩) 31)))
        have HY6 := Lib.hid (Blk.new w6 31 (ltC ⟨xi, xf, xt, xbs, xsp⟩))
        clear hn3 hb3 HT3 HC1 HC2 HC3 HX3
        clear o0 o1 o2 o3 o4
        obtain ⟨o0, o1, o2, o3, o4⟩ := cell5 HT4.out.2.1
        obtain ⟨p0, p1, p2, p3, p4⟩ := cell5 HX6.out
        obtain ⟨q0, q1, q2, q3, q4⟩ := cell5 HY6.out
        have HT9 := Lib.hid HT4.out.1
        rw [hN2] at HT9
        clear HT4 HX6 HY6
        obtain ⟨A9, c9, hpf⟩ := pf_of (pl_drew HT9.out)
        have HF := Lib.hid (fun W (h : Pf w gn gm gr gr L2 N2 A9 c9 W) => flight_pf (by have := HNJ.out; omega) W h)
        have HE := Lib.hid (fun W Af cf (hf : LtsAt W W.heap.size Af L2) (h : Pf w gn gm gr gr L2 N2 A9 c9 W) => equal_pf (by have := HT9.out.1.2.2.2; exact this.2.2.1) W Af cf hf h)
        clear HT9
        go_wp2_with fail
        go_region_held3 (fun W => W.cell? ⟨gr, 0, none⟩ = some (.slice A9 L2.length c9))
          (with_reducible exact pf_cell (by assumption))
          (first
            | (go_at_call 13; (with_reducible refine (HF.out _ (by assumption)).mono ?_); rintro e w4 ⟨Af, cf, rfl, hlf, hpf⟩)
            | (go_at_call 20; (with_reducible refine (HE.out _ _ _ (by assumption) (by assumption)).mono ?_); rintro e w5 ⟨rfl, hpf⟩))
        all_goals
          go_wp2
          go_roundw
          case rel => exact ⟨j + 1, L2, N2, by omega, by go_num, by have := HNJ.out; omega, HS2.out, hpf.1⟩
          case measure => simp only [intOf]; omega
      have hb1 := beq_noI hk1
      clear hk1
      by_cases hk2 : xk = 2
      · obtain rfl := hk2
        obtain ⟨x, E, L2, hs2, hbo, hdr⟩ := deliver_both xa L N HXA.out HU.out.1 HU.out.2 HSZ.out
        obtain ⟨xi, xf, xt, xbs, xsp⟩ := x
        have HS2 := Lib.hid hs2
        obtain ⟨N2, hN2⟩ : ∃ N2, N = N2 := ⟨_, rfl⟩
        have HNJ : Hid (N2 ≤ (j : Int) + 1 ∧ N2 ≤ 1000) := Lib.hid (by have := HNJ0.out; have := HJ.out; omega)
        have HC1 : Hid (∀ W, NetS gn gm L N W → Calls Try.prog 11 #[.pointer (some ⟨gn, 0, none⟩), .int .i64 xa] W fun e w' => e = .returned (.tuple #[ltV ⟨xi, xf, xt, xbs, xsp⟩, .int .i64 E]) ∧ NetS gn gm L2 N w' ∧ But gn gm W w') := Lib.hid (hbo.1 gn gm)
        have HC2 : Hid (∀ W, RefS gr gr L N W → Calls Try.prog 17 #[.pointer (some ⟨gr, 0, none⟩), .int .i64 xa] W fun e w' => e = .returned (.tuple #[ltV ⟨xi, xf, xt, xbs, xsp⟩, .int .i64 E]) ∧ RefS gr gr L2 N w' ∧ But gr gr W w') := Lib.hid (hbo.2 gr gr)
        have HC3 := Lib.hid (hdr gn gm)
        clear hs2 hbo hdr
        go_wp2_with fail
        refine (HC2.out _ HT.out.1.2.1).mono ?_
        rintro e w3 ⟨rfl, hn3, hb3⟩
        have HT3 := Lib.hid (pq_step (pq_ref HT.out hn3 hb3) (one_alloc (o := .cells (ltC ⟨xi, xf, xt, xbs, xsp⟩) 31)))
        have HX3 := Lib.hid (Blk.new w3 31 (ltC ⟨xi, xf, xt, xbs, xsp⟩))
        clear hn3 hb3 HT
        clear o0 o1 o2 o3 o4
        obtain ⟨o0, o1, o2, o3, o4⟩ := cell5 HT3.out.2.1
        go_wp2_with fail
        refine (HC3.out _ HT3.out.1.1).mono ?_
        rintro e w6 ⟨rfl, hn3, hb3⟩
        have HT4 := Lib.hid (pq_net HT3.out hn3 hb3)
        clear hn3 hb3 HT3 HC1 HC2 HC3 HX3
        clear o0 o1 o2 o3 o4
        obtain ⟨o0, o1, o2, o3, o4⟩ := cell5 HT4.out.2.1
        have HT9 := Lib.hid HT4.out.1
        rw [hN2] at HT9
        clear HT4
        go_wp2
        go_roundw
        case rel => exact ⟨j + 1, L2, N2, by omega, by go_num, by have := HNJ.out; omega, HS2.out, HT9.out⟩
        case measure => simp only [intOf]; omega
      have hb2 := beq_noI hk2
      clear hk2
      by_cases hk3 : xk = 3
      · obtain rfl := hk3
        obtain ⟨z1, z2, L2, N2, hs2, hn2, hbo⟩ := twice_both xa L N HXA.out HU.out.2 HSZ.out HN0.out.1 (by have := HN0.out; omega)
        have HS2 := Lib.hid hs2
        have HNJ : Hid (N2 ≤ (j : Int) + 1 ∧ N2 ≤ 1000) := Lib.hid (by have := HNJ0.out; have := HJ.out; omega)
        have HC1 : Hid (∀ W, NetS gn gm L N W → Calls Try.prog 8 #[.pointer (some ⟨gn, 0, none⟩), .int .i64 xa] W fun e w' => e = .returned (.tuple #[.int .i64 z1, .int .i64 z2]) ∧ NetS gn gm L2 N2 w' ∧ But gn gm W w') := Lib.hid (hbo.1 gn gm)
        have HC2 : Hid (∀ W, RefS gr gr L N W → Calls Try.prog 18 #[.pointer (some ⟨gr, 0, none⟩), .int .i64 xa] W fun e w' => e = .returned (.tuple #[.int .i64 z1, .int .i64 z2]) ∧ RefS gr gr L2 N2 w' ∧ But gr gr W w') := Lib.hid (hbo.2 gr gr)
        clear hs2 hn2 hbo
        go_wp2_with fail
        refine (HC1.out _ HT.out.1.1).mono ?_
        rintro e w3 ⟨rfl, hn3, hb3⟩
        have HT3 := Lib.hid (pq_net HT.out hn3 hb3)
        clear hn3 hb3 HT
        clear o0 o1 o2 o3 o4
        obtain ⟨o0, o1, o2, o3, o4⟩ := cell5 HT3.out.2.1
        go_wp2_with fail
        refine (HC2.out _ HT3.out.1.2.1).mono ?_
        rintro e w6 ⟨rfl, hn3, hb3⟩
        have HT4 := Lib.hid (pq_ref HT3.out hn3 hb3)
        clear hn3 hb3 HT3 HC1 HC2
        clear o0 o1 o2 o3 o4
        obtain ⟨o0, o1, o2, o3, o4⟩ := cell5 HT4.out.2.1
        have HT9 := Lib.hid HT4.out.1
        clear HT4
        obtain ⟨A9, c9, hpf⟩ := pf_of (pl_drew HT9.out)
        have HF := Lib.hid (fun W (h : Pf w gn gm gr gr L2 N2 A9 c9 W) => flight_pf (by have := HNJ.out; omega) W h)
        have HE := Lib.hid (fun W Af cf (hf : LtsAt W W.heap.size Af L2) (h : Pf w gn gm gr gr L2 N2 A9 c9 W) => equal_pf (by have := HT9.out.1.2.2.2; exact this.2.2.1) W Af cf hf h)
        clear HT9
        go_wp2_with fail
        go_region_held3 (fun W => W.cell? ⟨gr, 0, none⟩ = some (.slice A9 L2.length c9))
          (with_reducible exact pf_cell (by assumption))
          (first
            | (go_at_call 13; (with_reducible refine (HF.out _ (by assumption)).mono ?_); rintro e w4 ⟨Af, cf, rfl, hlf, hpf⟩)
            | (go_at_call 20; (with_reducible refine (HE.out _ _ _ (by assumption) (by assumption)).mono ?_); rintro e w5 ⟨rfl, hpf⟩))
        all_goals
          go_wp2
          go_roundw
          case rel => exact ⟨j + 1, L2, N2, by omega, by go_num, by have := HNJ.out; omega, HS2.out, hpf.1⟩
          case measure => simp only [intOf]; omega
      have hb3 := beq_noI hk3
      clear hk3
      by_cases hk4 : xk = 4
      · obtain rfl := hk4
        obtain ⟨E, L2, hs2, hbo⟩ := spoil_both xa xb xy L N HXA.out HU.out.1 HU.out.2 HSZ.out HXY.out
        obtain ⟨N2, hN2⟩ : ∃ N2, N = N2 := ⟨_, rfl⟩
        have HS2 := Lib.hid hs2
        have HNJ : Hid (N2 ≤ (j : Int) + 1 ∧ N2 ≤ 1000) := Lib.hid (by have := HNJ0.out; have := HJ.out; omega)
        obtain ⟨g, hg⟩ : ∃ g, wr.heap.size = g := ⟨_, rfl⟩
        rw [hg] at HT o0 o1 o2 o3 o4
        rw [hN2] at HT hbo
        have HC1 : Hid (∀ W Lb, Pq w gn gm gr gr L Lb N2 N2 g ⟨4, xa, xb, xs, xy⟩ W → Calls Try.prog 10 #[.pointer (some ⟨gn, 0, none⟩), .int .i64 xa, .int .i64 xb, .int .u8 xy] W fun e w' => e = .returned (.int .i64 E) ∧ Pq w gn gm gr gr L2 Lb N2 N2 g ⟨4, xa, xb, xs, xy⟩ w') := Lib.hid fun W Lb h => (hbo.1 gn gm W h.1.1).mono fun e w' he => ⟨he.1, pq_net h he.2.1 he.2.2⟩
        have HC2 : Hid (∀ W La, Pq w gn gm gr gr La L N2 N2 g ⟨4, xa, xb, xs, xy⟩ W → Calls Try.prog 19 #[.pointer (some ⟨gr, 0, none⟩), .int .i64 xa, .int .i64 xb, .int .u8 xy] W fun e w' => e = .returned (.int .i64 E) ∧ Pq w gn gm gr gr La L2 N2 N2 g ⟨4, xa, xb, xs, xy⟩ w') := Lib.hid fun W La h => (hbo.2 gr gr W h.1.2.1).mono fun e w' he => ⟨he.1, pq_ref h he.2.1 he.2.2⟩
        have hs := pq_step HT.out (Below.refl _ _).drew
        clear HT hs2 hbo hN2
        go_wp2_with fail
        rw [hg] at *
        go_region_held3 (fun W => W.cell? ⟨g, 1, none⟩ = some (.int .i64 xa) ∧ W.cell? ⟨g, 2, none⟩ = some (.int .i64 xb) ∧ W.cell? ⟨g, 4, none⟩ = some (.int .u8 xy))
          (with_reducible exact pq_cells (by assumption))
          (first
            | (go_at_call 10; (with_reducible refine (HC1.out _ _ (by assumption)).mono ?_); rintro e w4 ⟨rfl, hs⟩)
            | (go_at_call 19; (with_reducible refine (HC2.out _ _ (by assumption)).mono ?_); rintro e w5 ⟨rfl, hs⟩))
        all_goals
          have HT9 := Lib.hid hs.1
          clear HC1 HC2
          obtain ⟨A9, c9, hpf⟩ := pf_of (pl_drew HT9.out)
          have HF := Lib.hid (fun W (h : Pf w gn gm gr gr L2 N2 A9 c9 W) => flight_pf (by have := HNJ.out; omega) W h)
          have HE := Lib.hid (fun W Af cf (hf : LtsAt W W.heap.size Af L2) (h : Pf w gn gm gr gr L2 N2 A9 c9 W) => equal_pf (by have := HT9.out.1.2.2.2; exact this.2.2.1) W Af cf hf h)
          clear HT9
          go_wp2_with fail
          go_region_held3 (fun W => W.cell? ⟨gr, 0, none⟩ = some (.slice A9 L2.length c9))
            (with_reducible exact pf_cell (by assumption))
            (first
              | (go_at_call 13; (with_reducible refine (HF.out _ (by assumption)).mono ?_); rintro e w4 ⟨Af, cf, rfl, hlf, hpf⟩)
              | (go_at_call 20; (with_reducible refine (HE.out _ _ _ (by assumption) (by assumption)).mono ?_); rintro e w5 ⟨rfl, hpf⟩))
          all_goals
            go_wp2
            go_roundw
            case rel => exact ⟨j + 1, L2, N2, by omega, by go_num, by have := HNJ.out; omega, HS2.out, hpf.1⟩
            case measure => simp only [intOf]; omega
      have hb4 := beq_noI hk4
      clear hk4
      have HT9 := Lib.hid HT.out.1
      obtain ⟨L2, hL2⟩ : ∃ L2, L = L2 := ⟨_, rfl⟩
      obtain ⟨N2, hN2⟩ : ∃ N2, N = N2 := ⟨_, rfl⟩
      rw [hL2, hN2] at HT9
      rw [hL2] at HSZ
      have HS2 := HSZ
      have HNJ : Hid (N2 ≤ (j : Int) + 1 ∧ N2 ≤ 1000) := Lib.hid (by have := HNJ0.out; have := HJ.out; omega)
      clear HT HTS
      obtain ⟨A9, c9, hpf⟩ := pf_of (pl_drew HT9.out)
      have HF := Lib.hid (fun W (h : Pf w gn gm gr gr L2 N2 A9 c9 W) => flight_pf (by have := HNJ.out; omega) W h)
      have HE := Lib.hid (fun W Af cf (hf : LtsAt W W.heap.size Af L2) (h : Pf w gn gm gr gr L2 N2 A9 c9 W) => equal_pf (by have := HT9.out.1.2.2.2; exact this.2.2.1) W Af cf hf h)
      clear HT9
      go_wp2_with fail
      go_region_held3 (fun W => W.cell? ⟨gr, 0, none⟩ = some (.slice A9 L2.length c9))
        (with_reducible exact pf_cell (by assumption))
        (first
          | (go_at_call 13; (with_reducible refine (HF.out _ (by assumption)).mono ?_); rintro e w4 ⟨Af, cf, rfl, hlf, hpf⟩)
          | (go_at_call 20; (with_reducible refine (HE.out _ _ _ (by assumption) (by assumption)).mono ?_); rintro e w5 ⟨rfl, hpf⟩))
      all_goals
        go_wp2
        go_roundw
        case rel => exact ⟨j + 1, L2, N2, by omega, by go_num, by have := HNJ.out; omega, HS2.out, hpf.1⟩
        case measure => simp only [intOf]; omega
    · obtain rfl : j = n := by omega
      go_wp2
      go_ret
      exact ⟨rfl, HTS.out.2.2.2.2.2.2⟩
theorem netPlays_walk (A : Option Addr) (l : List Opx) (n c : Nat) (hn : n = l.length) (hm : n ≤ maxLen) (hx : ∀ x ∈ l, FitO x) (w : World) (hO : Opsl w w.heap.size A l) :
    Calls Try.prog 4 #[.slice A n c] w fun e w' => e = .returned (.bool true) ∧ Below w.heap.size w w' := by
  cases hh : heavyB l with
  | true => exact plays_heavy A l n c w hO hn hm hh
  | false =>
    rcases Nat.eq_zero_or_pos n with h0 | h0
    · subst h0
      exact plays_empty c A w
    · obtain ⟨b, o, hA, _, _⟩ := ops_get hO (fun e => by rw [e] at hn; simp at hn; omega)
      subst hA
      exact plays_main l b o n c w hO hn h0 hm hh hx
end Go.Proofs.Ytndlcjpkpkfcpaa
