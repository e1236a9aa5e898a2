/- key.Put. Conditions: the numbers fit their kinds, the row has no more than a thousand values. -/
import Derived.Test.YtibaacklcdknnaaDoorProg
import Derived.Test.YtibaacklcdknnaaDoorKey1
import Derived.Test.YtibaacklcdknnaaDoorNumFix2
namespace Go.Proofs.YtibaacklcdknnaaDoor
open Go.RowKit
set_option linter.unusedVariables false
theorem xor_turn {r : Nat} (h : r < 9223372036854775808) : r ^^^ 9223372036854775808 = 9223372036854775808 + r := by
  have e : (9223372036854775808 : Nat) = 2 ^ 63 := by decide
  have h63 : r < 2 ^ 63 := by omega
  rw [e]
  apply Nat.eq_of_testBit_eq
  intro j
  rw [Nat.testBit_xor, Nat.testBit_two_pow]
  rcases Nat.lt_trichotomy j 63 with hj | rfl | hj
  · rw [Nat.testBit_two_pow_add_gt hj, decide_eq_false (by omega), Bool.xor_false]
  · rw [Nat.testBit_two_pow_add_eq, Nat.testBit_lt_two_pow h63]
    simp
  · have h64 : 2 ^ 63 + r < 2 ^ j := by
      have : (2 : Nat) ^ 64 ≤ 2 ^ j := Nat.pow_le_pow_right (by omega) hj
      omega
    have h65 : r < 2 ^ j := by omega
    rw [Nat.testBit_lt_two_pow h64, Nat.testBit_lt_two_pow h65, decide_eq_false (by omega)]
    rfl
theorem turn_xor {q : Int} (h0 : -9223372036854775808 ≤ q) (h1 : q ≤ 9223372036854775807) : bits .xor .u64 (IntKind.u64.wrap q) 9223372036854775808 = (turnN q : Nat) := by
  by_cases h : 0 ≤ q
  · obtain ⟨r, rfl⟩ := Int.eq_ofNat_of_zero_le h
    have e : IntKind.u64.wrap (r : Int) = (r : Nat) := by rw [IntKind.wrap_u64]; omega
    rw [e]
    have := bits_xor_u64_nat r 9223372036854775808 (by omega) (by omega)
    rw [show ((9223372036854775808 : Nat) : Int) = 9223372036854775808 from rfl] at this
    rw [this, xor_turn (by omega)]
    unfold turnN
    omega
  · have e : IntKind.u64.wrap q = ((9223372036854775808 + turnN q : Nat) : Int) := by rw [IntKind.wrap_u64]; unfold turnN; omega
    rw [e]
    have hr : turnN q < 9223372036854775808 := by unfold turnN; omega
    have := bits_xor_u64_nat (9223372036854775808 + turnN q) 9223372036854775808 (by omega) (by omega)
    rw [show ((9223372036854775808 : Nat) : Int) = 9223372036854775808 from rfl] at this
    rw [this, ← xor_turn hr, Nat.xor_assoc, Nat.xor_self, Nat.xor_zero]
theorem turnN_lt {q : Int} (h1 : q ≤ 9223372036854775807) : turnN q < 18446744073709551616 := by unfold turnN; omega
theorem eightL_lt (n : Nat) : ∀ x ∈ eightL n, x < 256 := by
  intro x hx
  rcases List.mem_append.1 hx with h | h
  all_goals
    simp [fourL] at h
    omega
theorem eightL_len (n : Nat) : (eightL n).length = 8 := rfl
theorem oneK_len {x : Val} (h : chk x = 0) : (oneK x).length ≤ 2010 := by
  have h4 := (chk_of h).2.2.2
  unfold oneK
  split
  · simp
  · split
    · simp [eightL_len]
    · have := escL_len (bts x.2.2)
      rw [bts_length] at this
      simp
      omega
theorem keyL_len (l : List Val) (h : ∀ x ∈ l, chk x = 0) : (keyL l).length ≤ 2010 * l.length := by
  induction l with
  | nil => simp [keyL]
  | cons x l ih =>
    have e : keyL (x :: l) = oneK x ++ keyL l := by simp [keyL]
    rw [e, List.length_append, List.length_cons]
    have := oneK_len (h x (by simp))
    have := ih (fun y hy => h y (by simp [hy]))
    omega
theorem keyL_take (l : List Val) (j : Nat) (h : j < l.length) : keyL (l.take (j + 1)) = keyL (l.take j) ++ oneK l[j] := by
  unfold keyL
  rw [List.take_succ_eq_append_getElem h, List.flatMap_append]
  simp
def kputS (l : List Val) : ByteArray × Int := if chkL l = 0 then (bstr (keyL l), 0) else (bstr [], chkL l)
theorem chk_ne {x : Val} (h : chk x ≠ 0) : (chk x != 0) = true := by rw [bne_iff_ne]; exact h
def Vk (w : World) (g : Nat) (x : Val) (W : World) : Prop := Blk W g 31 (valC x) ∧ Below w.heap.size w W
theorem vk_step {w W W' : World} {g : Nat} {x : Val} (h : Vk w g x W) (hb : Below W.heap.size W W') : Vk w g x W' := ⟨blk_step h.1 hb, bj h.2 hb⟩
theorem vk_new {w wr : World} (x : Val) (hb : Below w.heap.size w wr) : Vk w wr.heap.size x (wr.alloc (.cells (valC x) 31)) := ⟨Blk.new _ _ _, hb.alloc hb.size _⟩
theorem blk3S {W : World} {g : Nat} {k q : Int} {s : ByteArray} (h : Blk W g 31 #[.int .u8 k, .int .i64 q, .string s]) : W.cell? ⟨g, 0, none⟩ = some (.int .u8 k) ∧ W.cell? ⟨g, 1, none⟩ = some (.int .i64 q) ∧ W.cell? ⟨g, 2, none⟩ = some (.string s) := ⟨h.cell 0, h.cell 1, h.cell 2⟩
theorem lt_of_cell {w : World} {a : Addr} {v : Value} (h : w.cell? a = some v) : a.block < w.heap.size := World.block_lt_of_cell? w a h
set_option maxRecDepth 100000 in
set_option maxHeartbeats 8000000 in
theorem kput_row (A : Option Addr) (l : List Val) (n c : Nat) (m : Int) (w : World) (hV : Vals w w.heap.size A l) (hn : n = l.length) (h1000 : n ≤ 10000) (hf : ∀ x ∈ l, Fits x) (hm : w.cell? ⟨0, 0, none⟩ = some (.int .i64 m)) :
    Calls Tryd.prog 11 #[.slice A n c] w fun e w' => e = .returned (.tuple #[.string (kputS l).1, .int .i64 (kputS l).2]) ∧ Below w.heap.size w w' := by
  have hlt0 := lt_of_cell hm
  have HA : Hid (0 < n → ∃ b o, A = some ⟨b, o, none⟩ ∧ b < w.heap.size ∧ ∀ (j : Nat) x, l[j]? = some x → w.cell? ⟨b, o + j * 3, none⟩ = some (.int .u8 x.1) ∧ w.cell? ⟨b, o + j * 3 + 1, none⟩ = some (.int .i64 x.2.1) ∧ w.cell? ⟨b, o + j * 3 + 2, none⟩ = some (.string x.2.2)) :=
    Lib.hid fun h => vals_get hV (fun e => by rw [e] at hn; simp at hn; omega)
  have hnI : (n : Int) ≤ 10000 := by omega
  have HM0 : Hid (∀ W, Below w.heap.size w W → W.cell? ⟨0, 0, none⟩ = some (.int .i64 m)) := Lib.hid fun W hb => (hb.cell (p := ⟨0, 0, none⟩) hlt0).trans hm
  have HN := Lib.hid hn
  have HF := Lib.hid hf
  clear hlt0 hV hn hf hm
  go_enter Tryd.func11, Tryd.ntmps11
  go_wp2
  go_loopw [12] (fun i wr => ∃ j : Nat, j ≤ n ∧ i = .int .i64 j ∧ chkL l = chkL (l.drop j) ∧ (∀ x ∈ l.take j, chk x = 0) ∧ Below w.heap.size w wr) (fun i _ => n - (intOf i).toNat)
  case atStart => exact ⟨0, by omega, rfl, rfl, (fun x hx => by simp at hx), Below.refl _ _⟩
  case round =>
    obtain ⟨j, hj, rfl, heq, hok, hb⟩ := hrel
    by_cases hjn : j < n
    · have hjl : j < l.length := by have := HN.out; omega
      obtain ⟨b, o, rfl, hbl, hcs⟩ := HA.out (by omega)
      obtain ⟨a1, a2, a3⟩ := hcs j l[j] (List.getElem?_eq_getElem hjl)
      have c1 := (hb.cell (p := ⟨b, o + j * 3, none⟩) hbl).trans a1
      have c2 := (hb.cell (p := ⟨b, o + j * 3 + 1, none⟩) hbl).trans a2
      have c3 := (hb.cell (p := ⟨b, o + j * 3 + 2, none⟩) hbl).trans a3
      have hfx := HF.out l[j] (List.getElem_mem hjl)
      have hd : l.drop j = l[j] :: l.drop (j + 1) := List.drop_eq_getElem_cons hjl
      have htk : l.take (j + 1) = l.take j ++ [l[j]] := List.take_succ_eq_append_getElem hjl
      rw [hd] at heq
      generalize l[j] = x at *
      have hck := fun W => check_any x W hfx
      have hk0 := vk_new x hb
      simp only [chkL] at heq
      obtain ⟨p, q, s⟩ := x
      simp only at c1 c2 c3
      have HK0 := Lib.hid hk0
      have HE := Lib.hid heq
      have HOK := Lib.hid hok
      have HTK := Lib.hid htk
      clear a1 a2 a3 hfx hd heq hk0 hok htk hcs hb
      by_cases hz : chk (p, q, s) = 0
      · rw [hz] at hck
        have HZ := Lib.hid hz
        have HCK := Lib.hid hck
        clear hz hck
        go_wp2_with fail
        refine (HCK.out _).mono ?_
        rintro e w1 ⟨rfl, hb1⟩
        have hk1 := vk_step HK0.out hb1
        go_wp2
        go_roundw
        case rel =>
          refine ⟨j + 1, by omega, by go_num, by rw [HE.out, if_pos HZ.out], fun y hy => ?_, hk1.2⟩
          rw [HTK.out] at hy
          rcases List.mem_append.1 hy with hy | hy
          · exact HOK.out y hy
          · rw [List.mem_singleton.1 hy]; exact HZ.out
        case measure => simp [intOf]; omega
      · have hz' := chk_ne hz
        have HE2 := Lib.hid (show kputS l = (⟨#[]⟩, chk (p, q, s)) by
          have h2 : chkL l = chk (p, q, s) := by rw [HE.out, if_neg hz]
          unfold kputS
          rw [h2, if_neg hz]; rfl)
        generalize chk (p, q, s) = E at *
        have HCK := Lib.hid hck
        clear hz hck
        go_wp2_with fail
        refine (HCK.out _).mono ?_
        rintro e w1 ⟨rfl, hb1⟩
        have hk1 := vk_step HK0.out hb1
        go_wp2
        go_ret2
        exact ⟨by rw [HE2.out]; rfl, hk1.2⟩
    · obtain rfl : j = n := by omega
      have hall : l.take j = l := List.take_of_length_le (by have := HN.out; omega)
      rw [hall] at hok
      have HOK := Lib.hid hok
      have HZ := Lib.hid (show kputS l = (bstr (keyL l), 0) by unfold kputS; rw [if_pos (chkL_zero hok)])
      have ho := ob_new hb
      have HO := Lib.hid (show Ob w wr.heap.size (keyL (l.take 0)) _ from ho)
      clear heq hok hall ho hb
      go_wp2
      generalize hgb : wr.heap.size = gb at *
      clear hgb
      go_loopw [24] (fun i W => ∃ k : Nat, k ≤ j ∧ i = .int .i64 k ∧ Ob w gb (keyL (l.take k)) W) (fun i _ => j - (intOf i).toNat)
      case atStart => exact ⟨0, by omega, rfl, HO.out⟩
      case round =>
        clear HO
        obtain ⟨k, hk, rfl, ho⟩ := hrel
        by_cases hkn : k < j
        · have hkl : k < l.length := by have := HN.out; omega
          obtain ⟨b, o, rfl, hbl, hcs⟩ := HA.out (by omega)
          obtain ⟨a1, a2, a3⟩ := hcs k l[k] (List.getElem?_eq_getElem hkl)
          have hb := ho.2
          have c1 := (hb.cell (p := ⟨b, o + k * 3, none⟩) hbl).trans a1
          have c2 := (hb.cell (p := ⟨b, o + k * 3 + 1, none⟩) hbl).trans a2
          have c3 := (hb.cell (p := ⟨b, o + k * 3 + 2, none⟩) hbl).trans a3
          have hfx := HF.out l[k] (List.getElem_mem hkl)
          have hcx := HOK.out l[k] (List.getElem_mem hkl)
          have hkt := keyL_take l k hkl
          have hlen : (keyL (l.take k)).length ≤ 2010 * 10000 := by
            have := keyL_len (l.take k) (fun x hx => HOK.out x (List.mem_of_mem_take hx))
            have : (l.take k).length ≤ 10000 := by rw [List.length_take]; omega
            omega
          generalize keyL (l.take k) = K0 at *
          generalize l[k] = x at *
          obtain ⟨p, q, s⟩ := x
          simp only at c1 c2 c3
          obtain ⟨f1, f2, f3, f4⟩ := hfx
          obtain ⟨k1, k2, k3, k4⟩ := chk_of hcx
          simp only at f1 f2 f3 f4 k1 k2 k3 k4
          have hv0 := (Blk.new wr 31 #[.int .u8 p, .int .i64 q, .string s])
          have ho0 := ob_step ho ((Below.refl _ _).alloc (Nat.le_refl _) (.cells #[.int .u8 p, .int .i64 q, .string s] 31))
          have hwb := fun (x : Int) W (h : Ob w gb K0 W) (h0 : 0 ≤ x) (h1 : x < 256) => ob_wb x h h0 h1 (by omega)
          have HV0 := Lib.hid hv0
          have HO0 := Lib.hid ho0
          have HKT := Lib.hid hkt
          have hp13 : p ≤ 3 := k1
          clear a1 a2 a3 hcs hb hv0 ho0 ho hkt hcx k1 k2 k3
          by_cases p0 : p = 0
          · subst p0
            have HW := Lib.hid (hwb 1 _ HO0.out (by omega) (by omega))
            have HE := Lib.hid (show keyL (l.take (k + 1)) = K0 ++ [(1 : Int).toNat] by rw [HKT.out]; rfl)
            clear hwb
            go_wp2_with fail
            refine (HW.out).mono ?_
            rintro e w3 ⟨rfl, ho3, hoth⟩
            obtain ⟨d1, d2, d3⟩ := blk3S (hoth _ _ _ (by decide) (by decide) HV0.out)
            have HO3 := Lib.hid ho3
            clear ho3 hoth
            go_wp2
            go_roundw
            case rel => exact ⟨k + 1, by omega, by go_num, by rw [HE.out]; exact HO3.out⟩
            case measure => simp [intOf]; omega
          · by_cases p1 : p = 1
            · subst p1
              have hx := turn_xor f3 f4
              have h8 := fun W => eight_any (turnN q) W (turnN_lt f4)
              have HE := Lib.hid (show keyL (l.take (k + 1)) = (K0 ++ [(2 : Int).toNat]) ++ bts (bstr (eightL (turnN q))) by rw [HKT.out, bts_bstr _ (eightL_lt _)]; simp [oneK])
              have h8s : (bstr (eightL (turnN q))).size = 8 := by rw [bstr_size]; rfl
              generalize bstr (eightL (turnN q)) = X at *
              have hws := fun W (h : Ob w gb (K0 ++ [(2 : Int).toNat]) W) => ob_ws X h (by simp; omega)
              generalize turnN q = T at *
              have HW := Lib.hid (hwb 2 _ HO0.out (by omega) (by omega))
              have H8 := Lib.hid h8
              have HWS := Lib.hid hws
              clear hwb h8 hws
              go_wp2_with fail
              refine (HW.out).mono ?_
              rintro e w3 ⟨rfl, ho3, hoth⟩
              obtain ⟨d1, d2, d3⟩ := blk3S (hoth _ _ _ (by decide) (by decide) HV0.out)
              have HO3 := Lib.hid ho3
              clear ho3 hoth
              go_wp2_with fail
              refine (H8.out _).mono ?_
              rintro e w4 ⟨rfl, hb4⟩
              have ho4 := ob_step HO3.out hb4
              go_wp2_with fail
              refine (HWS.out _ ho4).mono ?_
              rintro e w5 ⟨rfl, ho5, hoth⟩
              have HO5 := Lib.hid ho5
              clear ho4 ho5 hoth hb4
              go_wp2
              go_roundw
              case rel => exact ⟨k + 1, by omega, by go_num, by rw [HE.out]; exact HO5.out⟩
              case measure => simp [intOf]; omega
            · have hp : p = 2 ∨ p = 3 := by omega
              have hes := fun W (h : Below w.heap.size w W) => esc_any s m W k4 (HM0.out W h)
              have HE := Lib.hid (show keyL (l.take (k + 1)) = ((K0 ++ [(p + 1).toNat]) ++ bts (bstr (escL (bts s)))) ++ bts ⟨#[0, 0]⟩ by
                rw [HKT.out, bts_bstr _ (escL_lt (bts_lt s))]
                have e1 : (p + 1).toNat = p.toNat + 1 := by omega
                simp [oneK, p0, p1, e1]; rfl)
              have hes2 : (bstr (escL (bts s))).size ≤ 2000 := by
                have := escL_len (bts s)
                rw [bts_length] at this
                rw [bstr_size]; omega
              generalize bstr (escL (bts s)) = X at *
              have hws := fun W (h : Ob w gb (K0 ++ [(p + 1).toNat]) W) => ob_ws X h (by simp; omega)
              have hwe := fun W (h : Ob w gb ((K0 ++ [(p + 1).toNat]) ++ bts X) W) => ob_ws ⟨#[0, 0]⟩ h (by rw [List.length_append, bts_length]; have : (⟨#[0, 0]⟩ : ByteArray).size = 2 := rfl; simp; omega)
              have HW := Lib.hid (hwb (p + 1) _ HO0.out (by omega) (by omega))
              have HES := Lib.hid hes
              have HWS := Lib.hid hws
              have HWE := Lib.hid hwe
              clear hwb hes hws hwe p0 p1
              rcases hp with rfl | rfl
              all_goals
                go_wp2_with fail
                refine (HW.out).mono ?_
                rintro e w3 ⟨rfl, ho3, hoth⟩
                obtain ⟨d1, d2, d3⟩ := blk3S (hoth _ _ _ (by decide) (by decide) HV0.out)
                have HO3 := Lib.hid ho3
                clear ho3 hoth
                go_wp2_with fail
                refine (HES.out _ HO3.out.2).mono ?_
                rintro e w4 ⟨rfl, hb4⟩
                have ho4 := ob_step HO3.out hb4
                clear hb4
                go_wp2_with fail
                refine (HWS.out _ ho4).mono ?_
                rintro e w5 ⟨rfl, ho5, hoth⟩
                have HO5 := Lib.hid ho5
                clear ho4 ho5 hoth
                go_wp2_with fail
                refine (HWE.out _ HO5.out).mono ?_
                rintro e w6 ⟨rfl, ho6, hoth⟩
                have HO6 := Lib.hid ho6
                clear ho6 hoth
                go_wp2
                go_roundw
                case rel => exact ⟨k + 1, by omega, by go_num, by rw [HE.out]; exact HO6.out⟩
                case measure => simp [intOf]; omega
        · obtain rfl : k = j := by omega
          have hall : l.take k = l := List.take_of_length_le (by have := HN.out; omega)
          rw [hall] at ho
          have hst := ob_str ho
          have HST := Lib.hid hst
          clear hst ho hall
          go_wp2_with fail
          refine (HST.out).mono ?_
          rintro e w3 ⟨rfl, hb3⟩
          go_wp2
          go_ret2
          exact ⟨by rw [HZ.out]; rfl, hb3⟩
end Go.Proofs.YtibaacklcdknnaaDoor
