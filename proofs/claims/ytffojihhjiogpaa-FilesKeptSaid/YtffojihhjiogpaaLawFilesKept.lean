/- Layer 3: the walk of FilesKept. Conditions: those of the theorem. -/
import Derived.Test.YtffojihhjiogpaaFi29
namespace Go.Proofs.Ytffojihhjiogpaa
open Go.RowKit Go Go.Maps
set_option linter.unusedVariables false
set_option linter.unusedSimpArgs false
def wasA (D : Dk) (j : Nat) : Array Value := ((List.range 8).map fun k => if k < j then Value.string (allF D (k : Int)) else .string ⟨#[]⟩).toArray
theorem wasA_zero (D : Dk) : wasA D 0 = #[.string ⟨#[]⟩, .string ⟨#[]⟩, .string ⟨#[]⟩, .string ⟨#[]⟩, .string ⟨#[]⟩, .string ⟨#[]⟩, .string ⟨#[]⟩, .string ⟨#[]⟩] := rfl
theorem wasA_get (D : Dk) (j : Nat) {k : Nat} (hk : k < 8) : (wasA D j)[k]? = some (if k < j then Value.string (allF D (k : Int)) else .string ⟨#[]⟩) := by
  unfold wasA
  simp [hk]
theorem wasA_succ (D : Dk) {j : Nat} (hj : j < 8) : (wasA D j).setIfInBounds j (.string (allF D (j : Int))) = wasA D (j + 1) := by
  apply Array.ext_getElem?
  intro k
  by_cases hk : k < 8
  · rw [Array.getElem?_setIfInBounds, wasA_get D (j + 1) hk]
    by_cases e : j = k
    · subst e
      rw [if_pos rfl, if_pos (by simp [wasA]; omega), if_pos (by omega)]
    · rw [if_neg e, wasA_get D j hk]
      by_cases h2 : k < j
      · rw [if_pos h2, if_pos (by omega)]
      · rw [if_neg h2, if_neg (by omega)]
  · rw [Array.getElem?_eq_none (by simp [wasA]; omega), Array.getElem?_eq_none (by simp [wasA]; omega)]
def flagA (L j : Nat) : Array Value := ((List.range L).map fun k => Value.bool (decide (k < j))).toArray
theorem flagA_get (L j : Nat) {k : Nat} (hk : k < L) : (flagA L j)[k]? = some (.bool (decide (k < j))) := by
  unfold flagA
  simp [hk]
theorem flagA_succ (L : Nat) {j : Nat} (hj : j < L) : (flagA L j).setIfInBounds j (.bool true) = flagA L (j + 1) := by
  apply Array.ext_getElem?
  intro k
  by_cases hk : k < L
  · rw [Array.getElem?_setIfInBounds, flagA_get L (j + 1) hk]
    by_cases e : j = k
    · subst e
      rw [if_pos rfl, if_pos (by simp [flagA]; omega)]
      simp
    · rw [if_neg e, flagA_get L j hk]
      have : decide (k < j) = decide (k < j + 1) := by
        by_cases h2 : k < j
        · rw [decide_eq_true h2, decide_eq_true (by omega)]
        · rw [decide_eq_false h2, decide_eq_false (by omega)]
      rw [this]
  · rw [Array.getElem?_eq_none (by simp [flagA]; omega), Array.getElem?_eq_none (by simp [flagA]; omega)]
theorem bool_info : (Try.prog.info? 4).map (fun i => (i.zero, i.size, i.bytes)) = some (some (.bool false), 1, 1) := by kernel_rfl
set_option maxRecDepth 100000 in
theorem mk_bools (L : Nat) (hL : L ≤ 1638400) (W : World) : (Instr.makeSlice 33 (.int .i64 (L : Int)) (.int .i64 (L : Int))).run Try.prog W = .ok (.slice (some ⟨W.heap.size, 0, none⟩) L L) (W.alloc (.cells (flagA L 0) 4)) := by
  obtain ⟨i0, hi0, hz0, hz1, hz2⟩ := info_parts bool_info
  have hr := run_make (P := Try.prog) W 33 4 i0 _ Try.underlying33 hi0 hz0 .i64 .i64 L L (by omega) (Int.le_refl _) (by rw [hz2]; omega) (by omega)
  rw [hz1, Int.toNat_natCast, Nat.mul_one] at hr
  have e : madeCells (Value.bool false).cells L = flagA L 0 := by
    apply Array.ext
    · simp [madeCells, flagA]
    · intro i h1 h2
      simp [madeCells, flagA, Value.cells, Nat.mod_one]
  rw [hr]
  rw [e]
theorem flag_bs {W : World} {r L : Nat} (h : Blk W r 4 (flagA L L)) : BsAt W (some ⟨r, 0, none⟩) (List.replicate L true) :=
  .inr ⟨r, 0, rfl, h.lt, fun j v hv => by
    have hj : j < L := by have := (List.getElem?_eq_some_iff.1 hv).1; simpa using this
    rw [List.getElem?_replicate, if_pos hj] at hv
    cases hv
    rw [Nat.zero_add, h.cell, flagA_get L L hj, decide_eq_true hj]⟩
/-- in the midst of FilesKept's rounds -/
structure Kr (w : World) (g : Nat) (D : Dk) (N q : Nat) (K : Option Addr) (kn : Nat) (W : World) : Prop where
  ex : ∃ d' ks W1, KdX w g d' N q 60 (wasA D 8) W1 ∧ Below W1.heap.size W1 W ∧ BsAt W K ks ∧ kn = ks.length ∧ kn ≤ 1638400 ∧ (ks ≠ [] → ∀ a, K = some a → W1.heap.size ≤ a.block) ∧ Jd d' ∧ ∀ i, i < 8 → (crashD d' ks).fl i = D.fl i
theorem kr_first {w W0 W : World} {g : Nat} {D : Dk} {N q L : Nat} (h : KdX w g D N q 60 (wasA D 8) W0) (hb : Below W0.heap.size W0 W) (hj : Jd D) (hL : D.loose.length = L) (hl : L ≤ 1638400) (hk : Blk W W0.heap.size 4 (flagA L L)) : Kr w g D N q (some ⟨W0.heap.size, 0, none⟩) L W :=
  ⟨D, List.replicate L true, W0, h, hb, flag_bs hk, by simp, hl, fun _ a ha => by cases ha; exact Nat.le_refl _, hj, fun i hi => by rw [← hL]; exact crash_all_fl hj hi⟩
theorem kr_next {w W : World} {g : Nat} {D d2 : Dk} {N q : Nat} (h : KdX w g d2 N q 60 (wasA D 8) W) (hj : Jd d2) (hl : d2.loose = []) (he : ∀ i, i < 8 → d2.fl i = D.fl i) : Kr w g D N q none 0 W :=
  ⟨d2, [], W, h, Below.refl _ _, .inl rfl, rfl, by omega, fun h => absurd rfl h, hj, fun i hi => by rw [crash_nil_fl hj hl hi]; exact he i hi⟩
theorem kr_crash {w W : World} {g : Nat} {D : Dk} {N q : Nat} {K : Option Addr} {kn : Nat} (h : Kr w g D N q K kn W) (kc : Nat) :
    Calls Try.prog 16 #[.pointer (some ⟨g, 0, none⟩), .slice K kn kc] W fun e w' => e = .returned (.int .i64 0) ∧ ∃ d2, KdX w g d2 N q 60 (wasA D 8) w' ∧ Jd d2 ∧ d2.loose = [] ∧ d2.off = false ∧ ∀ i, i < 8 → d2.fl i = D.fl i := by
  obtain ⟨d', ks, W1, h1, h2, h3, h4, h5, h6, h7, h8⟩ := h.ex
  exact (kdx_crash h1 h2 K ks kn kc h4 h3 (fun hne a ha => .inr (h6 hne a ha)) (by omega)).mono fun e w' ⟨he, hk⟩ => ⟨he, crashD d' ks, hk, jd_crash d' ks, rfl, rfl, h8⟩
set_option maxRecDepth 100000 in
set_option maxHeartbeats 16000000 in
theorem filesKept_walk (A : Option Addr) (l : List Fop) (n c : Nat) (hn : n = l.length) (hm : n ≤ maxLen) (hfit : ∀ x ∈ l, FitP x) (w : World) (hO : Fops w w.heap.size A l) :
    Calls Try.prog 6 #[.slice A n c] w fun e w' => e = .returned (.bool true) ∧ Below w.heap.size w w' := by
  have HW := Lib.hid works_any
  have HHV := Lib.hid (fun W (hb : Below w.heap.size w W) => heavy_any A l n c W (fops_mono (fops_below hO hb) hb.size) hn hm hfit)
  have HFA := Lib.hid (fun W (hb : Below w.heap.size w W) => far_any A l n c W (fops_mono (fops_below hO hb) hb.size) hn hm hfit)
  have HRN := Lib.hid (fun (W : World) (g : Nat) (d : Dk) (h : Kd w g d 0 W) (h200 : l.length ≤ 200) (hl : ∀ x ∈ l, Light x) => kd_run h A l n c hn (by omega) hO hfit hl)
  have HN := Lib.hid hn
  clear hn hm hfit hO
  go_enter Try.func6, Try.ntmps6
  go_wp2_with fail
  refine (HW.out _).mono ?_
  rintro e w1 ⟨rfl, hb⟩
  have HB1 := Lib.hid hb
  clear hb
  go_wp2_with fail
  refine (HHV.out _ HB1.out).mono ?_
  rintro e w2 ⟨⟨r, rfl, hr⟩, hb⟩
  have HB2 := Lib.hid (bj HB1.out hb)
  have HR := Lib.hid hr
  clear hb hr
  cases r with
  | true =>
    go_wp2
    go_ret
    exact ⟨by first | rfl | simp, HB2.out⟩
  | false =>
  go_wp2_with fail
  refine (HFA.out _ HB2.out).mono ?_
  rintro e w3 ⟨⟨r, rfl⟩, hb⟩
  have HB3 := Lib.hid (bj HB2.out hb)
  clear hb
  cases r with
  | true =>
    go_wp2
    go_ret
    exact ⟨by first | rfl | simp, HB3.out⟩
  | false =>
  go_wp2_with fail
  refine (kd_new HB3.out).mono ?_
  rintro e w4 ⟨rfl, hk⟩
  have H4 := Lib.hid hk
  clear hk
  generalize w3.heap.size + 1 = g at *
  go_wp2_with fail
  refine (HRN.out _ _ _ H4.out (HR.out trivial).1 (HR.out trivial).2).mono ?_
  rintro e w5 ⟨rfl, hk⟩
  have H5 := Lib.hid hk
  have HJ := Lib.hid (jd_run l newD jd_new)
  clear hk
  generalize runD newD l = D1 at *
  go_wp2_with fail
  refine (kd_on H5.out).mono ?_
  rintro e w6 ⟨he, rfl⟩
  have HNL := Lib.hid (show 0 + n ≤ 200 by have := HN.out; have := (HR.out trivial).1; omega)
  by_cases ho : D1.off = true
  case' pos =>
    rw [ho] at he
    subst he
    go_wp2_with fail
    refine (kd_crash H5.out (Below.refl _ _) none [] 0 0 rfl (.inl rfl) (fun _ a ha => by cases ha) (by omega)).mono ?_
    rintro e w7 ⟨rfl, hk⟩
    have H7 := Lib.hid hk
    have HJ2 := Lib.hid (jd_crash D1 [])
    have HOF := Lib.hid (show (crashD D1 []).off = false from rfl)
    clear hk H4 H5 HJ ho
    generalize crashD D1 [] = D at *
  case' neg =>
    rw [show D1.off = false by simpa using ho] at he
    subst he
    have H7 := H5
    have HJ2 := HJ
    have HOF := Lib.hid (show D1.off = false by simpa using ho)
    clear H4 H5 HJ ho
    generalize D1 = D at *
    generalize w5 = w7 at *
  all_goals
    have HJ3 := Lib.hid HJ2.out
    go_wp2
    go_loopw [26] (fun v wr => ∃ j : Nat, j ≤ 8 ∧ v = .int .i64 j ∧ KdX w g D (0 + n) w7.heap.size 60 (wasA D j) wr) (fun v _ => 8 - (intOf v).toNat)
    case atStart => exact ⟨0, by omega, rfl, by rw [wasA_zero]; exact kdx_new H7.out _ _⟩
    case round =>
      obtain ⟨j, hj, rfl, hk⟩ := hrel
      by_cases hj8 : j < 8
      · have HA := Lib.hid (all_any (kdx_kd hk) (j : Int))
        have HX := Lib.hid hk
        have hjI : (j : Int) < 8 := by omega
        have h0j : (0 : Int) ≤ j := by omega
        have hwj : IntKind.i64.wrap ((j : Int) + 1) = j + 1 := by rw [IntKind.wrap_i64]; omega
        clear hk
        go_wp2_with fail
        refine (HA.out).mono ?_
        rintro e wa ⟨rfl, hb⟩
        have HX2 := Lib.hid (kdx_below HX.out hb)
        have hcl : wa.cell? ⟨w7.heap.size, j, none⟩ = some (.string ⟨#[]⟩) := by rw [(kdx_blk HX2.out).cell, wasA_get _ _ hj8, if_neg (by omega)]
        have hfz : wa.frozen? ⟨w7.heap.size, j, none⟩ = false := (kdx_blk HX2.out).frozen _
        clear hb
        go_wp2
        go_roundw
        case rel => exact ⟨j + 1, by omega, by go_num, by rw [← wasA_succ D hj8]; exact kdx_set HX2.out j _⟩
        case measure => simp [intOf]; omega
      · obtain rfl : j = 8 := by omega
        have HX := Lib.hid hk
        clear hk
        go_wp2_with fail
        refine (kd_loose (kdx_kd HX.out)).mono ?_
        rintro e wl ⟨rfl, rfl⟩
        obtain ⟨L, hL⟩ : ∃ L, D.loose.length = L := ⟨_, rfl⟩
        have hLN : L ≤ 1638400 := by
          obtain ⟨S, ⟨m, hm⟩, _⟩ := HX.out
          have := hm.cN.2.1
          have := HNL.out
          omega
        have hmk := mk_bools L hLN
        have HLL := Lib.hid hL
        have HLN := Lib.hid hLN
        rw [hL]
        clear hL hLN hj hj8
        generalize wr = W0 at *
        go_wp2
        go_loopw [40] (fun v wr => ∃ j : Nat, j ≤ L ∧ v = .int .i64 j ∧ Below W0.heap.size W0 wr ∧ Blk wr W0.heap.size 4 (flagA L j)) (fun v _ => L - (intOf v).toNat)
        case atStart => exact ⟨0, by omega, rfl, one_alloc, Blk.new W0 _ _⟩
        case round =>
          obtain ⟨j, hj, rfl, hb, hk⟩ := hrel
          by_cases hjL : j < L
          · have hjI : (j : Int) < L := by omega
            have h0j : (0 : Int) ≤ j := by omega
            have hwj : IntKind.i64.wrap ((j : Int) + 1) = j + 1 := by have := HLN.out; rw [IntKind.wrap_i64]; omega
            have hcl : wr.cell? ⟨W0.heap.size, j, none⟩ = some (.bool false) := by rw [hk.cell, flagA_get L j hjL, decide_eq_false (by omega)]
            have hfz : wr.frozen? ⟨W0.heap.size, j, none⟩ = false := hk.frozen _
            have HE := Lib.hid (show Below W0.heap.size W0 (wr.setCell ⟨W0.heap.size, j, none⟩ (.bool true)) ∧ Blk (wr.setCell ⟨W0.heap.size, j, none⟩ (.bool true)) W0.heap.size 4 (flagA L (j + 1)) from ⟨hb.setCell (p := ⟨W0.heap.size, j, none⟩) (Nat.le_refl _) _, by rw [← flagA_succ L hjL]; exact hk.set_ j _⟩)
            clear hb hk
            go_wp2
            go_roundw
            case rel => exact ⟨j + 1, by omega, by go_num, HE.out.1, HE.out.2⟩
            case measure => simp [intOf]; omega
          · obtain rfl : j = L := by omega
            have HK0 := Lib.hid (kr_first HX.out hb HJ3.out HLL.out HLN.out hk)
            clear hb hk hmk
            go_wp2
            go_loopw [47, 6] (fun v s wr => ∃ (k : Nat) (K : Option Addr) (kn kc : Nat), k ≤ 2 ∧ v = .int .i64 k ∧ s = .slice K kn kc ∧ Kr w g D (0 + n) w7.heap.size K kn wr) (fun v _ _ => 2 - (intOf v).toNat)
            case atStart => exact ⟨0, _, _, _, by omega, rfl, rfl, HK0.out⟩
            case round =>
              obtain ⟨k, K, kn, kc, hk2, rfl, rfl, hkr⟩ := hrel
              by_cases hk : k < 2
              · have HC := Lib.hid (kr_crash hkr kc)
                have hkI : (k : Int) < 2 := by omega
                have hwk : IntKind.i64.wrap ((k : Int) + 1) = k + 1 := by rw [IntKind.wrap_i64]; omega
                clear hkr
                go_wp2_with fail
                refine (HC.out).mono ?_
                rintro e wa ⟨rfl, d2, hx, hj2, hl2, ho2, he2⟩
                have HX2 := Lib.hid hx
                have HP2 := Lib.hid (And.intro hj2 (And.intro hl2 (And.intro ho2 he2)))
                clear hx hj2 hl2 ho2 he2
                go_wp2_with fail
                refine (kd_loose (kdx_kd HX2.out)).mono ?_
                rintro e wb ⟨he, rfl⟩
                rw [HP2.out.2.1] at he
                subst he
                go_wp2
                go_loopw [58] (fun v wr => ∃ m : Nat, m ≤ 8 ∧ v = .int .i64 m ∧ KdX w g d2 (0 + n) w7.heap.size 60 (wasA D 8) wr) (fun v _ => 8 - (intOf v).toNat)
                case atStart => exact ⟨0, by omega, rfl, HX2.out⟩
                case round =>
                  obtain ⟨m, hm, rfl, hx⟩ := hrel
                  by_cases hm8 : m < 8
                  · have hmI : (m : Int) < 8 := by omega
                    have h0m : (0 : Int) ≤ m := by omega
                    have hwm : IntKind.i64.wrap ((m : Int) + 1) = m + 1 := by rw [IntKind.wrap_i64]; omega
                    have hal := all_any (kdx_kd (kdx_below hx ((Below.refl wr.heap.size wr).drew))) (m : Int)
                    rw [allF_same (d := D) (by omega) (by omega) HOF.out HP2.out.2.2.1 (by rw [Int.toNat_natCast]; exact HP2.out.2.2.2 m hm8)] at hal
                    have HAL := Lib.hid hal
                    have HXD := Lib.hid (kdx_below hx ((Below.refl wr.heap.size wr).drew))
                    have HCE := Lib.hid (fun (V : World) (h : KdX w g d2 (0 + n) w7.heap.size 60 (wasA D 8) V) => (show V.cell? ⟨w7.heap.size, m, none⟩ = some (.string (allF D (m : Int))) from by rw [(kdx_blk h).cell, wasA_get _ _ hm8, if_pos hm8]))
                    generalize allF D (m : Int) = WAS at *
                    clear hx hal
                    go_wp2_with fail
                    go_region_held3 (fun V => V.cell? ⟨w7.heap.size, m, none⟩ = some (.string WAS))
                      (first | exact HCE.out _ HXD.out | exact HCE.out _ HXE.out)
                      (first | (go_at_call 38; (with_reducible refine (HAL.out).mono ?_); rintro e wc ⟨rfl, hbc⟩; (have HXE := Lib.hid (kdx_below HXD.out hbc)); clear hbc))
                    all_goals
                      go_wp2
                      go_roundw
                      case rel => exact ⟨m + 1, by omega, by go_num, HXE.out⟩
                      case measure => simp [intOf]; omega
                  · obtain rfl : m = 8 := by omega
                    have HXE := Lib.hid (kr_next hx HP2.out.1 HP2.out.2.1 HP2.out.2.2.2)
                    clear hx
                    go_wp2
                    go_roundw
                    case rel => exact ⟨k + 1, none, 0, 0, by omega, by go_num, rfl, HXE.out⟩
                    case measure => simp [intOf]; omega
              · obtain rfl : k = 2 := by omega
                have HEND := Lib.hid hkr
                clear hkr
                go_wp2
                go_ret
                refine ⟨by first | rfl | simp, ?_⟩
                obtain ⟨d', ks, W1, h1, h2, _⟩ := HEND.out.ex
                exact bj (kd_b (kdx_kd h1)) h2
end Go.Proofs.Ytffojihhjiogpaa
