/- What counterfoilref01.Take answers. Condition: the text is no longer than a machine has addresses. -/
import Derived.Test.YtocbdehcjcggeaaProg
import Derived.Test.YtocbdehcjcggeaaRefPut
import Derived.Test.YtocbdehcjcggeaaNumTake
import Derived.Test.YtocbdehcjcggeaaNumTaken
import Derived.Test.YtocbdehcjcggeaaNumPut
import Derived.Deep.RegionWith
namespace Go.Proofs.Ytocbdehcjcggeaa
open Go.RowKit
theorem bstr_inj {a b : List Nat} (ha : ∀ x ∈ a, x < 256) (hb : ∀ x ∈ b, x < 256) (h : bstr a = bstr b) : a = b := by
  rw [← bts_bstr a ha, ← bts_bstr b hb, h]
theorem bts_cut' (s : ByteArray) (k : Nat) : bts (s.extract 0 k) = (bts s).take k := by
  unfold bts
  rw [← List.map_take]
  simp [ByteArray.data_extract]
theorem cut_bstr (s : ByteArray) (k : Nat) : s.extract 0 k = bstr ((bts s).take k) := by
  rw [← bts_cut', bstr_bts]
/-- the number that the first j digits tell -/
def tv (j : Nat) (L : List Nat) : Nat := (L.take j).foldl (fun a c => a * 128 + c % 128) 0
theorem tv_succ (j : Nat) (L : List Nat) (h : j < L.length) : tv (j + 1) L = tv j L * 128 + L.getD j 0 % 128 := by
  unfold tv
  rw [List.take_succ_eq_append_getElem h, List.foldl_append, List.getD_eq_getElem?_getD, List.getElem?_eq_getElem h]
  rfl
theorem tv_lt (j : Nat) (L : List Nat) (h : j ≤ L.length) : tv j L < 128 ^ j := by
  induction j with
  | zero => simp [tv]
  | succ j ih =>
    rw [tv_succ j L (by omega), Nat.pow_succ]
    have := ih (by omega)
    omega
theorem scan_take (j : Nat) (L : List Nat) (hj : j ≤ L.length) (h8 : j ≤ 8) (h : ∀ i, i < j → 128 ≤ L.getD i 0) : takeF 0 0 L = takeF j (tv j L) (L.drop j) := by
  induction j with
  | zero => simp [tv]
  | succ j ih =>
    rw [ih (by omega) (by omega) (fun i hi => h i (by omega)), takeF_drop _ _ _ _ (by omega), if_neg (by omega), if_neg (by have := h j (by omega); omega), tv_succ j L (by omega)]
/-- the number behind i bytes -/
def tw (i : Nat) (L : List Nat) : Nat := if i ≤ 8 then tv i L else tv 8 L * 256 + L.getD 8 0
theorem scan_some (j : Nat) (L : List Nat) (hj : j < L.length) (h8 : j ≤ 8) (h : ∀ i, i < j → 128 ≤ L.getD i 0) (hs : j = 8 ∨ L.getD j 0 < 128) : takeF 0 0 L = some (tw (j + 1) L, j + 1) := by
  rw [scan_take j L (by omega) h8 h, takeF_drop _ _ _ _ hj]
  by_cases hj8 : j = 8
  · subst hj8
    simp [tw]
  · have h7 : L.getD j 0 < 128 := by omega
    rw [if_neg hj8, if_pos h7]
    unfold tw
    rw [if_pos (by omega), tv_succ j L hj, Nat.mod_eq_of_lt h7]
theorem tw_step (i : Nat) (L : List Nat) (hi : i < L.length) (h9 : i ≤ 8) : tw (i + 1) L = if i = 8 then tv 8 L * 256 + L.getD i 0 else tv i L * 128 + L.getD i 0 % 128 := by
  unfold tw
  by_cases h : i = 8
  · subst h; simp
  · rw [if_pos (by omega), if_neg h, tv_succ i L hi]
set_option maxRecDepth 100000 in
set_option maxHeartbeats 6000000 in
theorem refTake_any (s : ByteArray) (w : World) (hs : s.size ≤ maxLen) :
    Calls Try.prog 45 #[.string s] w (Took (bts s) w) := by
  unfold maxLen at hs
  go_enter Try.func45, Try.ntmps45
  go_wp2
  have hlt := bts_getD_lt s
  have hall := bts_lt s
  have hlen := bts_length s
  have hcut := cut_bstr s
  have hcell : ∀ i, (hi : i < s.size) → s[i].toNat = (bts s).getD i 0 := fun i hi => by
    have h2 : i < (bts s).length := by rw [bts_length]; exact hi
    rw [List.getD_eq_getElem?_getD, List.getElem?_eq_getElem h2]
    simp [bts]
    rfl
  generalize bts s = L at *
  have HLEN := Lib.hid hlen
  clear hlen
  have HCUT := Lib.hid hcut
  clear hcut
  go_loop [5] (fun i => ∃ j : Nat, j ≤ s.size ∧ j ≤ 8 ∧ i = .int .i64 j ∧ ∀ i, i < j → 128 ≤ L.getD i 0) (fun i => s.size - (intOf i).toNat)
  case atStart => exact ⟨0, by omega, by omega, rfl, fun i hi => by omega⟩
  case round =>
    obtain ⟨j, hj, hj8, rfl, hbig⟩ := hrel
    by_cases hjl : j < s.size
    · have hc := hcell j hjl
      have hl := hlt j
      by_cases hgo : j < 8 ∧ 128 ≤ L.getD j 0
      · obtain ⟨hg1, hg2⟩ := hgo
        generalize hcc : L.getD j 0 = c at *
        have HB : Hid (∀ i, i < j + 1 → 128 ≤ L.getD i 0) := Lib.hid (fun i hi => by
          rcases Nat.lt_or_ge i j with h | h
          · exact hbig i h
          · rw [show i = j from by omega, hcc]; exact hg2)
        have hcb := s[j].toNat_lt
        clear hcc hbig hcell hlt hall
        go_wp2
        go_round
        case rel => exact ⟨j + 1, by omega, by omega, by go_num, HB.out⟩
        case measure => simp [intOf]; omega
      · have hstop : j = 8 ∨ L.getD j 0 < 128 := by omega
        have hr := scan_some j L (by rw [HLEN.out]; exact hjl) hj8 hbig hstop
        have HR := Lib.hid hr
        clear hr hgo hbig
        have fin : ∀ (m : Nat), m = tw (j + 1) L → m < 18446744073709551616 ∧ (sz m = j + 1 → ((bstr (putL m)).toList == (s.extract 0 (j + 1)).toList) = true ∧ takeS L = (m, j + 1, 0)) ∧ (sz m ≠ j + 1 → ((bstr (putL m)).toList == (s.extract 0 (j + 1)).toList) = false ∧ takeS L = (0, 0, 11)) := by
          intro m hm
          have hr2 := HR.out
          rw [← hm] at hr2
          obtain ⟨t1, t2, t3, t4, t5⟩ := taken_put hall hr2
          refine ⟨t4, fun hz => ⟨?_, takeS_ok hr2 hz⟩, fun hz => ⟨?_, takeS_bad hr2 hz⟩⟩
          · rw [HCUT.out, t5 hz]; simp
          · rw [HCUT.out, beq_eq_false_iff_ne]
            intro he
            apply hz
            rw [ByteArray.toList_eq, ByteArray.toList_eq] at he
            have he2 : bstr (putL m) = bstr (L.take (j + 1)) := by
              apply ByteArray.ext
              exact Array.toList_inj.1 he
            have := bstr_inj (putL_lt m) (fun x hx => hall x (List.mem_of_mem_take hx)) he2
            rw [← putL_length m, this, List.length_take]; omega
        have FIN := Lib.hid fin
        have HC : Hid (∀ i, (hi : i < s.size) → s[i].toNat = L.getD i 0) := Lib.hid hcell
        have HT8 : Hid (∀ i, i ≤ 8 → i ≤ j + 1 → tv i L < 72057594037927936) := Lib.hid (fun i hi hij => by
          have h1 := tv_lt i L (by rw [HLEN.out]; omega)
          have h2 : 128 ^ i ≤ 128 ^ 8 := Nat.pow_le_pow_right (by omega) hi
          have e : (128:Nat) ^ 8 = 72057594037927936 := by decide
          omega)
        have hjl2 : ((j : Int) == (s.size : Int)) = false := by simp; omega
        have hcb := s[j].toNat_lt
        have HLT := Lib.hid hlt
        clear fin HR hall hcell hlt
        have second : ∀ (i : Nat), i < j + 1 → ∃ c : Nat, ∃ hi : i < s.size, s[i].toNat = c ∧ c < 256 ∧ tw i L < 72057594037927936 ∧ tw (i + 1) L = if i = 8 then tw i L * 256 + c else tw i L * 128 + c % 128 := fun i hi => by
          have e : tw i L = tv i L := by unfold tw; rw [if_pos (by omega)]
          have h2 := tw_step i L (by rw [HLEN.out]; omega) (by omega)
          refine ⟨L.getD i 0, by omega, HC.out i (by omega), HLT.out i, by rw [e]; exact HT8.out i (by omega) (by omega), ?_⟩
          rw [h2, e]
          by_cases h8 : i = 8
          · rw [if_pos h8, if_pos h8, h8]
          · rw [if_neg h8, if_neg h8]
        have SEC := Lib.hid second
        clear second HT8 HC HLT
        by_cases h8 : 8 ≤ j
        · clear hc hl hstop
          go_wp2
          go_loop [6, 7] (fun n i => ∃ q m : Nat, q ≤ j + 1 ∧ m = tw q L ∧ n = .int .u64 m ∧ i = .int .i64 q) (fun _ i => j + 1 - (intOf i).toNat)
          case atStart => exact ⟨0, 0, by omega, by simp [tw, tv], rfl, rfl⟩
          case round =>
            obtain ⟨q, m, hq, hm, rfl, rfl⟩ := hrel
            by_cases hqj : q < j + 1
            · obtain ⟨x, hxs, hx, hx8, hm56, hstep⟩ := SEC.out q hqj
              rw [← hm] at hm56 hstep
              have hxb := s[q].toNat_lt
              by_cases hq8 : q = 8
              · rw [if_pos hq8] at hstep
                have HSTEP := Lib.hid hstep
                have hq8I : ((q : Int) == 8) = true := by simp; omega
                clear hm hstep hq8
                go_wp2
                go_round
                case rel => exact ⟨q + 1, m * 256 + x, by omega, HSTEP.out.symm, vint (by omega), by go_num⟩
                case measure => simp [intOf]; omega
              · rw [if_neg hq8] at hstep
                have HSTEP := Lib.hid hstep
                have hq8I : ((q : Int) == 8) = false := by simp; omega
                clear hm hstep hq8
                go_wp2
                go_round
                case rel => exact ⟨q + 1, m * 128 + x % 128, by omega, HSTEP.out.symm, vint (by omega), by go_num⟩
                case measure => simp [intOf]; omega
            · obtain rfl : q = j + 1 := by omega
              obtain ⟨hm64, hyes, hno⟩ := FIN.out m hm
              have hle : ((j + 1 : Nat) : Int) ≤ s.size := by omega
              by_cases hz : sz m = j + 1
              · obtain ⟨hq1, hq2⟩ := hyes hz
                have HT := Lib.hid hq2
                have hq1' : (!((bstr (putL m)).toList == (s.extract 0 (j + 1)).toList)) = false := by rw [hq1]; rfl
                clear hm hyes hno hq2 hz hq1
                go_wp2_with fail
                go_region_with ((go_at_call 71; refine (refPut_any m _ hm64).mono ?_; rintro e w3 ⟨rfl, hb3⟩))
                all_goals go_wp2
                all_goals go_ret3
                all_goals exact took_mk HT.out (((Below.refl _ _).drew).trans (by assumption))
              · obtain ⟨hq1, hq2⟩ := hno hz
                have HT := Lib.hid hq2
                have hq1' : (!((bstr (putL m)).toList == (s.extract 0 (j + 1)).toList)) = true := by rw [hq1]; rfl
                clear hm hyes hno hq2 hz hq1
                go_wp2_with fail
                go_region_with ((go_at_call 71; refine (refPut_any m _ hm64).mono ?_; rintro e w3 ⟨rfl, hb3⟩))
                all_goals go_wp2
                all_goals go_ret3
                all_goals exact took_mk HT.out (((Below.refl _ _).drew).trans (by assumption))
        · have h7 : L.getD j 0 < 128 := by omega
          generalize L.getD j 0 = c at *
          clear hstop
          go_wp2
          go_loop [6, 7] (fun n i => ∃ q m : Nat, q ≤ j + 1 ∧ m = tw q L ∧ n = .int .u64 m ∧ i = .int .i64 q) (fun _ i => j + 1 - (intOf i).toNat)
          case atStart => exact ⟨0, 0, by omega, by simp [tw, tv], rfl, rfl⟩
          case round =>
            obtain ⟨q, m, hq, hm, rfl, rfl⟩ := hrel
            by_cases hqj : q < j + 1
            · obtain ⟨x, hxs, hx, hx8, hm56, hstep⟩ := SEC.out q hqj
              rw [← hm] at hm56 hstep
              have hxb := s[q].toNat_lt
              by_cases hq8 : q = 8
              · rw [if_pos hq8] at hstep
                have HSTEP := Lib.hid hstep
                have hq8I : ((q : Int) == 8) = true := by simp; omega
                clear hm hstep hq8
                go_wp2
                go_round
                case rel => exact ⟨q + 1, m * 256 + x, by omega, HSTEP.out.symm, vint (by omega), by go_num⟩
                case measure => simp [intOf]; omega
              · rw [if_neg hq8] at hstep
                have HSTEP := Lib.hid hstep
                have hq8I : ((q : Int) == 8) = false := by simp; omega
                clear hm hstep hq8
                go_wp2
                go_round
                case rel => exact ⟨q + 1, m * 128 + x % 128, by omega, HSTEP.out.symm, vint (by omega), by go_num⟩
                case measure => simp [intOf]; omega
            · obtain rfl : q = j + 1 := by omega
              obtain ⟨hm64, hyes, hno⟩ := FIN.out m hm
              have hle : ((j + 1 : Nat) : Int) ≤ s.size := by omega
              by_cases hz : sz m = j + 1
              · obtain ⟨hq1, hq2⟩ := hyes hz
                have HT := Lib.hid hq2
                have hq1' : (!((bstr (putL m)).toList == (s.extract 0 (j + 1)).toList)) = false := by rw [hq1]; rfl
                clear hm hyes hno hq2 hz hq1
                go_wp2_with fail
                go_region_with ((go_at_call 71; refine (refPut_any m _ hm64).mono ?_; rintro e w3 ⟨rfl, hb3⟩))
                all_goals go_wp2
                all_goals go_ret3
                all_goals exact took_mk HT.out (((Below.refl _ _).drew).trans (by assumption))
              · obtain ⟨hq1, hq2⟩ := hno hz
                have HT := Lib.hid hq2
                have hq1' : (!((bstr (putL m)).toList == (s.extract 0 (j + 1)).toList)) = true := by rw [hq1]; rfl
                clear hm hyes hno hq2 hz hq1
                go_wp2_with fail
                go_region_with ((go_at_call 71; refine (refPut_any m _ hm64).mono ?_; rintro e w3 ⟨rfl, hb3⟩))
                all_goals go_wp2
                all_goals go_ret3
                all_goals exact took_mk HT.out (((Below.refl _ _).drew).trans (by assumption))
    · have hT := takeS_none (L := L) (by rw [scan_take j L (by rw [HLEN.out]; exact hj) hj8 hbig]; exact takeF_end _ _ _ _ (by rw [HLEN.out]; omega))
      have HT := Lib.hid hT
      have hjI : ((j : Int) == (s.size : Int)) = true := by simp; omega
      clear hT hbig hcell hlt hall
      go_wp2
      go_ret3
      exact took_mk HT.out (Below.refl _ _)
end Go.Proofs.Ytocbdehcjcggeaa
