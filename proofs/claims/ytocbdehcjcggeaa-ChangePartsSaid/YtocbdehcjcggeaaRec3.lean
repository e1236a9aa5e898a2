/- record.Size, record.Put. Conditions: the numbers fit their kinds, a text is no longer than a machine has addresses. -/
import Derived.Test.YtocbdehcjcggeaaProg
import Derived.Test.YtocbdehcjcggeaaRec2
import Derived.Test.YtocbdehcjcggeaaBu2
namespace Go.Proofs.Ytocbdehcjcggeaa
open Go.RowKit
set_option linter.unusedVariables false
def sizeZ (l : List Val) : Int := if chkR l = 0 then ((recL l).length : Int) else 0
theorem recL_len (l : List Val) : (recL l).length = 1 + (tagsL l).length + (bodsL l).length := by simp [recL]; omega
theorem chkR_len {l : List Val} (h : chkR l = 0) : l.length ≤ 16 := by unfold chkR at h; split at h <;> omega
set_option maxRecDepth 100000 in
set_option maxHeartbeats 4000000 in
theorem size_row (A : Option Addr) (l : List Val) (n c : Nat) (w : World) (hV : Vals w w.heap.size A l) (hn : n = l.length) (hf : ∀ x ∈ l, Fits x) :
    Calls Try.prog 63 #[.slice A n c] w fun e w' => e = .returned (.int .i64 (sizeZ l)) ∧ Below w.heap.size w w' := by
  have hck := rcheck_any A l n c w hV hn hf
  by_cases hc : chkR l = 0
  · have HZ := Lib.hid (show sizeZ l = 1 + (tagsL l).length + (bodsL l).length by unfold sizeZ; rw [if_pos hc, recL_len]; push_cast; omega)
    have h16 : n ≤ 16 := by rw [hn]; exact chkR_len hc
    have hm := chkL_mem (chkR_chkL hc)
    rw [hc] at hck
    have HCK := Lib.hid hck
    have HN := Lib.hid hn
    have HM := Lib.hid hm
    have HF := Lib.hid hf
    have HA : Hid (0 < n → ∃ b o, A = some ⟨b, o, none⟩ ∧ b < w.heap.size ∧ ∀ (j : Nat) x, l[j]? = some x → w.cell? ⟨b, o + j * 3, none⟩ = some (.int .u8 x.1) ∧ w.cell? ⟨b, o + j * 3 + 1, none⟩ = some (.int .i64 x.2.1) ∧ w.cell? ⟨b, o + j * 3 + 2, none⟩ = some (.string x.2.2)) :=
      Lib.hid fun h => vals_get hV (fun e => by rw [e] at hn; simp at hn; omega)
    clear hck hc hm hf hV hn
    go_enter Try.func63, Try.ntmps63
    go_wp2_with fail
    refine (HCK.out).mono ?_
    rintro e w1 ⟨rfl, hb1⟩
    go_wp2
    go_loopw [3, 11] (fun s i wr => ∃ (j T : Nat), j ≤ n ∧ i = .int .i64 j ∧ s = .int .i64 T ∧ T = 1 + (tagsL (l.take j)).length + (bodsL (l.take j)).length ∧ Below w.heap.size w wr) (fun _ i _ => n - (intOf i).toNat)
    case atStart => exact ⟨0, 1, by omega, rfl, rfl, by simp [tagsL, bodsL], hb1⟩
    case round =>
      obtain ⟨j, T, hj, rfl, rfl, hT, hb⟩ := hrel
      by_cases hjn : j < n
      · have hjl : j < l.length := by have := HN.out; omega
        obtain ⟨b, o, rfl, hbl, hcs⟩ := HA.out (by omega)
        obtain ⟨a1, a2, a3⟩ := hcs j l[j] (List.getElem?_eq_getElem hjl)
        have c1 := (hb.cell (p := ⟨b, o + j * 3, none⟩) hbl).trans a1
        have c2 := (hb.cell (p := ⟨b, o + j * 3 + 1, none⟩) hbl).trans a2
        have c3 := (hb.cell (p := ⟨b, o + j * 3 + 2, none⟩) hbl).trans a3
        have hfx := HF.out l[j] (List.getElem_mem hjl)
        have hcx := HM.out l[j] (List.getElem_mem hjl)
        have h4 := (chk_of hcx).2.2.2
        have ht1 := tagsL_take l j hjl
        have hd1 := bodsL_take l j hjl
        have hTb : T ≤ 1 + 9 * 16 + 1000 * 16 := by
          have := tagsL_len (l.take j)
          have := bodsL_len (l.take j) (fun x hx => HM.out x (List.mem_of_mem_take hx))
          have : (l.take j).length ≤ 16 := by rw [List.length_take]; omega
          omega
        have hbl2 := bodyL_len hcx
        generalize l[j] = x at *
        have HT2 := Lib.hid (show T + (sz (tagN x) + (bstr (bodyL x)).size) = 1 + (tagsL (l.take (j + 1))).length + (bodsL (l.take (j + 1))).length by
          rw [ht1, hd1, List.length_append, List.length_append, putL_length, hT, bstr_size]; omega)
        have htg := fun W => tag_any x W (by omega)
        have hsz := fun W => size_any (tagN x) W (tagN_lt (by omega))
        have hbd := fun W => body_any x W hfx
        have hbs := bstr_size (bodyL x)
        have hk0 := vk_new x hb
        have hs9 := (sz_le (tagN x)).2
        generalize tagN x = tg at *
        generalize bstr (bodyL x) = Y at *
        generalize sz tg = zt at *
        have hyz : (Y.size : Int) ≤ 1000 := by omega
        clear hbl2
        have hztI : (zt : Int) ≤ 9 := by omega
        have hTI : (T : Int) ≤ 20000 := by omega
        obtain ⟨p, q, s⟩ := x
        simp only at c1 c2 c3
        have HK0 := Lib.hid hk0
        have HTG := Lib.hid htg
        have HSZ := Lib.hid hsz
        have HBD := Lib.hid hbd
        clear a1 a2 a3 hfx hcx h4 ht1 hd1 hT hTb htg hsz hbd hbs hk0 hs9 hcs hb
        go_wp2_with fail
        go_region_held3 (fun W => W.cell? ⟨wr.heap.size, 0, none⟩ = some (.int .u8 p) ∧ W.cell? ⟨wr.heap.size, 1, none⟩ = some (.int .i64 q) ∧ W.cell? ⟨wr.heap.size, 2, none⟩ = some (.string s) ∧ Vk w wr.heap.size (p, q, s) W)
          (first | exact sv_step (Below.refl _ _).drew HK0.out | (go_split_ands; exact sv_step (by assumption) (by assumption)) | (go_split_ands; exact sv_step (Below.refl _ _) (by assumption)))
          (first
            | (go_at_call 51; (with_reducible refine (HTG.out _).mono ?_); rintro e w2 ⟨rfl, hb2⟩)
            | (go_at_call 48; (with_reducible refine (HSZ.out _).mono ?_); rintro e w3 ⟨rfl, rfl⟩)
            | (go_at_call 52; (with_reducible refine (HBD.out _).mono ?_); rintro e w4 ⟨rfl, hb4⟩))
        rename_i hH
        have hv := Lib.hid hH.2.2.2.2
        clear hH
        go_wp2
        go_roundw
        case rel => exact ⟨j + 1, T + (zt + Y.size), by omega, by go_num, vint (by simp [IntKind.wrap, IntKind.bits, IntKind.signed]; omega), HT2.out, hv.out⟩
        case measure => simp [intOf]; omega
      · obtain rfl : j = n := by omega
        have hE : (T : Int) = sizeZ l := by rw [HZ.out, hT, List.take_of_length_le (by have := HN.out; omega)]; push_cast; rfl
        have HE := Lib.hid hE
        clear hE hT
        go_wp2
        go_ret
        exact ⟨rint64 HE.out, hb⟩
  · have hz : sizeZ l = 0 := by unfold sizeZ; rw [if_neg hc]
    have HZ := Lib.hid hz
    have hne : (chkR l != 0) = true := by rw [bne_iff_ne]; exact hc
    generalize chkR l = E at *
    have HCK := Lib.hid hck
    clear hck hc hz hV hn hf
    go_enter Try.func63, Try.ntmps63
    go_wp2_with fail
    refine (HCK.out).mono ?_
    rintro e w1 ⟨rfl, hb1⟩
    go_wp2
    go_ret
    exact ⟨rint64 HZ.out.symm, hb1⟩
end Go.Proofs.Ytocbdehcjcggeaa
