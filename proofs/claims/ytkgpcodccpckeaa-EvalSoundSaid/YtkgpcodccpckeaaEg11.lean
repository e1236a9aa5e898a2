/- The laws' kinds: where it is true each row is of the columns' kinds. Conditions: how rows and columns lie in memory. -/
import Derived.Test.YtkgpcodccpckeaaEg10
import Derived.Deep.QuietTactic
import Derived.BigQuiet
namespace Go.Proofs.Ytkgpcodccpckeaa
open Go Go.RowKit
set_option linter.unusedVariables false
set_option linter.unusedSimpArgs false
set_option maxRecDepth 100000 in
set_option maxHeartbeats 8000000 in
theorem kinds_any (A : Option Addr) (rs : List Rw) (n c : Nat) (CA : Option Addr) (cols : List Int) (cn cc : Nat) (w : World) (hR : Rws w w.heap.size A rs) (hn : n = rs.length) (hn1 : n ≤ 100000) (hV : U8s w w.heap.size CA cols) (hc : cn = cols.length) (hc1 : cn ≤ 100) :
    Calls Try.prog 27 #[.slice A n c, .slice CA cn cc] w fun e w' => ∃ B : Bool, e = .returned (.bool B) ∧ (B = true → ∀ r ∈ rs, RowK cols r.l) ∧ Below w.heap.size w w' := by
  have hnI : (n : Int) ≤ 100000 := by omega
  have hcI : (cn : Int) ≤ 100 := by omega
  have HR := Lib.hid hR
  have HN := Lib.hid hn
  have HV := Lib.hid hV
  have HC := Lib.hid hc
  clear hR hn hn1 hV hc hc1
  go_enter Try.func27, Try.ntmps27
  go_wp2
  go_loopw [11] (fun i wr => ∃ (j : Nat), j ≤ n ∧ i = .int .i64 j ∧ (∀ r ∈ rs.take j, RowK cols r.l) ∧ Below w.heap.size w wr) (fun i _ => n - (intOf i).toNat)
  case atStart => exact ⟨0, by omega, rfl, (fun r hr => by simp at hr), Below.refl _ _⟩
  case round =>
    obtain ⟨j, hj, rfl, hall, hb⟩ := hrel
    have HB := Lib.hid hb
    have HA := Lib.hid hall
    clear hall
    by_cases hjn : j < n
    · have hjl : j < rs.length := by have := HN.out; omega
      obtain ⟨b, o, rfl, hbl, hcc⟩ := rws_get HR.out (fun e => by rw [e] at hjl; simp at hjl)
      obtain ⟨hcell, hrow⟩ := hcc j rs[j] (List.getElem?_eq_getElem hjl)
      have hx := (hb.cell (p := ⟨b, o + j, none⟩) hbl).trans hcell
      have HT := Lib.hid (show rs.take (j + 1) = rs.take j ++ [rs[j]] by rw [List.take_add_one, List.getElem?_eq_getElem hjl]; rfl)
      have HRW := Lib.hid hrow
      generalize rs[j] = r at *
      obtain ⟨rA, rcc, rl⟩ := r
      simp only at hx
      have hjI : (j : Int) < n := by omega
      obtain ⟨L, hL⟩ : ∃ L, rl.length = L := ⟨_, rfl⟩
      have HL := Lib.hid hL
      rw [hL] at hx
      by_cases hlc : (L : Int) = cn
      · have hlb : ((L : Int) != cn) = false := by rw [hlc]; simp
        have hLc : L = cn := by omega
        clear hcell hrow hcc hb hL
        go_wp2
        go_loopw [22] (fun i wq => ∃ (q : Nat), q ≤ L ∧ i = .int .i64 q ∧ (∀ (i : Nat) v, i < q → rl[i]? = some v → v.1 = 0 ∨ v.1 = cols.getD i 0) ∧ Below w.heap.size w wq) (fun i _ => L - (intOf i).toNat)
        case atStart => exact ⟨0, by omega, rfl, (fun i v hi => by omega), HB.out⟩
        case round =>
          clear HB hx
          obtain ⟨q, hq, rfl, hqa, hb⟩ := hrel
          have HB := Lib.hid hb
          have HQA := Lib.hid hqa
          clear hqa
          by_cases hqm : q < L
          · have hql : q < rl.length := by have := HL.out; omega
            obtain ⟨rb, ro, hrA, hrl, hrc⟩ := vals_get HRW.out.1 (fun e => by simp only at e; rw [e] at hql; simp at hql)
            simp only at hrA
            subst hrA
            obtain ⟨v0, v1, v2⟩ := hrc q rl[q] (List.getElem?_eq_getElem hql)
            have v0 := (hb.cell (p := ⟨rb, ro + q * 3, none⟩) hrl).trans v0
            have v1 := (hb.cell (p := ⟨rb, ro + q * 3 + 1, none⟩) hrl).trans v1
            have v2 := (hb.cell (p := ⟨rb, ro + q * 3 + 2, none⟩) hrl).trans v2
            have hqc : q < cols.length := by have := HC.out; omega
            obtain ⟨cb, co, rfl, hcl, hkc⟩ := u8s_get HV.out (fun e => by rw [e] at hqc; simp at hqc)
            have k0 := hkc q cols[q] (List.getElem?_eq_getElem hqc)
            have HQX := Lib.hid (show rl[q]? = some rl[q] from List.getElem?_eq_getElem hql)
            have HQC := Lib.hid (show cols.getD q 0 = cols[q] by rw [List.getD_eq_getElem?_getD, List.getElem?_eq_getElem hqc]; rfl)
            generalize rl[q] = x at *
            generalize cols[q] = kk at *
            obtain ⟨x0, x1, x2⟩ := x
            simp only at v0 v1 v2
            have hb2 := hb.alloc hb.size (.cells #[.int .u8 x0, .int .i64 x1, .string x2] 23)
            have HB2 := Lib.hid hb2
            have k1 := (hb2.cell (p := ⟨cb, co + q, none⟩) hcl).trans k0
            have hqI : (q : Int) < L := by omega
            have hqI2 : (q : Int) < cn := by omega
            clear hrc hrl hkc k0 hb hb2
            by_cases h0 : x0 = 0
            · have HOK := Lib.hid (show ∀ (i : Nat) v, i < q + 1 → rl[i]? = some v → v.1 = 0 ∨ v.1 = cols.getD i 0 from fun i v hi hv => by
                by_cases e : i = q
                · subst e; rw [HQX.out] at hv; cases hv; exact .inl h0
                · exact HQA.out i v (by omega) hv)
              subst h0
              go_wp2_with fail
              go_quiet (fail)
              go_wp2
              go_roundw
              case rel => exact ⟨q + 1, by omega, by go_num, HOK.out, below_drewN HB2.out _⟩
              case measure => simp [intOf]; omega
            · have hb0 : (x0 != 0) = true := by rw [bne_iff_ne]; exact h0
              by_cases hk : x0 = kk
              · have HOK := Lib.hid (show ∀ (i : Nat) v, i < q + 1 → rl[i]? = some v → v.1 = 0 ∨ v.1 = cols.getD i 0 from fun i v hi hv => by
                  by_cases e : i = q
                  · subst e; rw [HQX.out] at hv; cases hv; exact .inr (by rw [HQC.out]; exact hk)
                  · exact HQA.out i v (by omega) hv)
                subst hk
                clear h0
                go_wp2_with fail
                go_quiet (fail)
                go_wp2
                go_roundw
                case rel => exact ⟨q + 1, by omega, by go_num, HOK.out, below_drewN HB2.out _⟩
                case measure => simp [intOf]; omega
              · have hbk : (x0 != kk) = true := by rw [bne_iff_ne]; exact hk
                clear h0 hk
                go_wp2_with fail
                go_quiet (fail)
                go_wp2
                go_ret
                exact ⟨false, rfl, (fun h => by cases h), below_drewN HB2.out _⟩
          · obtain rfl : q = L := by omega
            have HALL : Hid (∀ r ∈ rs.take (j + 1), RowK cols r.l) := Lib.hid (by
              rw [HT.out]
              intro r hr
              rcases List.mem_append.1 hr with hr | hr
              · exact HA.out r hr
              · rw [List.mem_singleton.1 hr]
                refine ⟨?_, fun i v hv => HQA.out i v ?_ hv⟩
                · have := HL.out; have := HC.out; simp only; omega
                · have h1 := (List.getElem?_eq_some_iff.1 hv).1
                  have := HL.out
                  simp only at h1
                  omega)
            clear hb hlc
            go_wp2
            go_roundw
            case rel => exact ⟨j + 1, by omega, by go_num, HALL.out, HB.out⟩
            case measure => simp only [intOf]; omega
      · have hlb : ((L : Int) != cn) = true := by rw [bne_iff_ne]; exact hlc
        clear hcell hrow hcc hb hL hlc
        go_wp2
        go_ret
        exact ⟨false, rfl, (fun h => by cases h), HB.out⟩
    · obtain rfl : j = n := by omega
      clear hb
      go_wp2
      go_ret
      exact ⟨true, rfl, (fun _ r hr => HA.out r (by rw [List.take_of_length_le (by have := HN.out; omega)]; exact hr)), HB.out⟩
end Go.Proofs.Ytkgpcodccpckeaa
