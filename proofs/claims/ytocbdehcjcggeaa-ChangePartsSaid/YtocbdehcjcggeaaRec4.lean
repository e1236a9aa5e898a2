/- record.Put. Conditions: the numbers fit their kinds, a text is no longer than a machine has addresses. -/
import Derived.Test.YtocbdehcjcggeaaProg
import Derived.Test.YtocbdehcjcggeaaRec3
namespace Go.Proofs.Ytocbdehcjcggeaa
open Go.RowKit
set_option linter.unusedVariables false
def putS (l : List Val) : ByteArray × Int := if chkR l = 0 then (if 4000 < (recL l).length then (bstr [], 3) else (bstr (recL l), 0)) else (bstr [], chkR l)
theorem putS_bad {l : List Val} (h : chkR l ≠ 0) : putS l = (⟨#[]⟩, chkR l) := by unfold putS; rw [if_neg h]; rfl
theorem putS_long {l : List Val} (h : chkR l = 0) (h2 : 4000 < (recL l).length) : putS l = (⟨#[]⟩, 3) := by unfold putS; rw [if_pos h, if_pos h2]; rfl
theorem putS_ok {l : List Val} (h : chkR l = 0) (h2 : (recL l).length ≤ 4000) : putS l = (bstr (recL l), 0) := by unfold putS; rw [if_pos h, if_neg (by omega)]
/-- what lies in memory while a row is put -/
def Pu (w : World) (a b : Nat) (L M : List Nat) (W : World) : Prop := Two w.heap.size a b L M W ∧ Below w.heap.size w W
theorem pu_step {w W W' : World} {a b : Nat} {L M : List Nat} (h : Pu w a b L M W) (hb : Below W.heap.size W W') : Pu w a b L M W' := ⟨two_step h.1 hb, bj h.2 hb⟩
theorem pu_ws1 {w W : World} {a b : Nat} {L M : List Nat} (s : ByteArray) (h : Pu w a b L M W) (hlen : L.length + s.size ≤ 140737488355328) :
    Calls Try.prog 23 #[.pointer (some ⟨a, 0, none⟩), .string s] W fun e w' => e = .returned (.tuple #[.int .i64 s.size, .nilIface]) ∧ Pu w a b (L ++ bts s) M w' ∧ Oth W w' :=
  (two_ws1 _ _ _ _ _ s W h.1 hlen h.2.size).mono fun e w' he => ⟨he.1, ⟨he.2.1, h.2.trans he.2.2.1⟩, he.2.2.2⟩
theorem pu_ws2 {w W : World} {a b : Nat} {L M : List Nat} (s : ByteArray) (h : Pu w a b L M W) (hlen : M.length + s.size ≤ 140737488355328) :
    Calls Try.prog 23 #[.pointer (some ⟨b, 0, none⟩), .string s] W fun e w' => e = .returned (.tuple #[.int .i64 s.size, .nilIface]) ∧ Pu w a b L (M ++ bts s) w' ∧ Oth W w' :=
  (two_ws2 _ _ _ _ _ s W h.1 hlen h.2.size).mono fun e w' he => ⟨he.1, ⟨he.2.1, h.2.trans he.2.2.1⟩, he.2.2.2⟩
theorem pu_wb1 {w W : World} {a b : Nat} {L M : List Nat} (x : Nat) (h : Pu w a b L M W) (hx : x < 256) (hlen : L.length + 1 ≤ 140737488355328) :
    Calls Try.prog 50 #[.pointer (some ⟨a, 0, none⟩), .int .u8 x] W fun e w' => e = .returned .nilIface ∧ Pu w a b (L ++ [x]) M w' :=
  (two_wb1 _ _ _ _ _ x W h.1 hx hlen h.2.size).mono fun e w' he => ⟨he.1, he.2.1, h.2.trans he.2.2⟩
theorem pu_str1 {w W : World} {a b : Nat} {L M : List Nat} (h : Pu w a b L M W) (h0 : L ≠ []) :
    Calls Try.prog 27 #[.pointer (some ⟨a, 0, none⟩)] W fun e w' => e = .returned (.string (bstr L)) ∧ Lib.IsBuilder 47 5 w.heap.size b (Lib.strCells (bstr M)) w' ∧ Below w.heap.size w w' :=
  (two_string1 _ _ _ _ _ W h.1 h0).mono fun e w' he => ⟨he.1, he.2.1, h.2.trans he.2.2⟩
theorem pu_new {w w1 : World} (hb : Below w.heap.size w w1) : Pu w w1.heap.size (w1.heap.size + 1) [] [] ((w1.alloc (.cells #[.pointer none, .slice none 0 0] 47)).alloc (.cells #[.pointer none, .slice none 0 0] 47)) :=
  ⟨two_new w1 _ hb.size, (hb.alloc hb.size _).alloc (by have := hb.size; simp; omega) _⟩
theorem pu_len {w W : World} {a b : Nat} {L M : List Nat} (h : Pu w a b L M W) :
    (Calls Try.prog 53 #[.pointer (some ⟨a, 0, none⟩)] W fun e w' => e = .returned (.int .i64 L.length) ∧ W = w') ∧
    (Calls Try.prog 53 #[.pointer (some ⟨b, 0, none⟩)] W fun e w' => e = .returned (.int .i64 M.length) ∧ W = w') :=
  ⟨(two_len _ _ _ _ _ W h.1).1.mono fun e w' he => ⟨he.1, he.2.symm⟩, (two_len _ _ _ _ _ W h.1).2.mono fun e w' he => ⟨he.1, he.2.symm⟩⟩
set_option maxRecDepth 100000 in
set_option maxHeartbeats 4000000 in
theorem put_row (A : Option Addr) (l : List Val) (n c : Nat) (w : World) (hV : Vals w w.heap.size A l) (hn : n = l.length) (hf : ∀ x ∈ l, Fits x) :
    Calls Try.prog 25 #[.slice A n c] w fun e w' => e = .returned (.tuple #[.string (putS l).1, .int .i64 (putS l).2]) ∧ Below w.heap.size w w' := by
  have hck := rcheck_any A l n c w hV hn hf
  by_cases hc : chkR l = 0
  · have h16 : n ≤ 16 := by rw [hn]; exact chkR_len hc
    have h16I : (n : Int) ≤ 16 := by omega
    have hm := chkL_mem (chkR_chkL hc)
    have HC := Lib.hid hc
    rw [hc] at hck
    have HCK := Lib.hid hck
    have HN := Lib.hid hn
    have HM := Lib.hid hm
    have HF := Lib.hid hf
    have HA : Hid (0 < n → ∃ b o, A = some ⟨b, o, none⟩ ∧ b < w.heap.size ∧ ∀ (j : Nat) x, l[j]? = some x → w.cell? ⟨b, o + j * 3, none⟩ = some (.int .u8 x.1) ∧ w.cell? ⟨b, o + j * 3 + 1, none⟩ = some (.int .i64 x.2.1) ∧ w.cell? ⟨b, o + j * 3 + 2, none⟩ = some (.string x.2.2)) :=
      Lib.hid fun h => vals_get hV (fun e => by rw [e] at hn; simp at hn; omega)
    have hw8 : IntKind.u8.wrap (n : Int) = n := by simp [IntKind.wrap, IntKind.bits, IntKind.signed]; omega
    clear hck hc hm hf hV hn
    go_enter Try.func25, Try.ntmps25
    go_wp2_with fail
    refine (HCK.out).mono ?_
    rintro e w1 ⟨rfl, hb1⟩
    have hwb := pu_wb1 n (pu_new hb1) (by omega) (by simp)
    have HWB := Lib.hid hwb
    clear hwb hb1
    go_wp2_with fail
    refine (HWB.out).mono ?_
    rintro e w2 ⟨rfl, hp2⟩
    have HP2 := Lib.hid (show Pu w w1.heap.size (w1.heap.size + 1) (n :: tagsL (l.take 0)) (bodsL (l.take 0)) w2 from hp2)
    clear hp2
    go_wp2
    go_loopw [20] (fun i wr => ∃ j : Nat, j ≤ n ∧ i = .int .i64 j ∧ Pu w w1.heap.size (w1.heap.size + 1) (n :: tagsL (l.take j)) (bodsL (l.take j)) wr) (fun i _ => n - (intOf i).toNat)
    case atStart => exact ⟨0, by omega, rfl, HP2.out⟩
    case round =>
      obtain ⟨j, hj, rfl, hp⟩ := hrel
      have hl1 : (tagsL (l.take j)).length ≤ 9 * 16 := by
        have := tagsL_len (l.take j)
        have : (l.take j).length ≤ 16 := by rw [List.length_take]; omega
        omega
      have hl2 : (bodsL (l.take j)).length ≤ 1000 * 16 := by
        have := bodsL_len (l.take j) (fun x hx => HM.out x (List.mem_of_mem_take hx))
        have : (l.take j).length ≤ 16 := by rw [List.length_take]; omega
        omega
      by_cases hjn : j < n
      · have hjl : j < l.length := by have := HN.out; omega
        obtain ⟨b, o, rfl, hbl, hcs⟩ := HA.out (by omega)
        obtain ⟨a1, a2, a3⟩ := hcs j l[j] (List.getElem?_eq_getElem hjl)
        have hb := hp.2
        have c1 := (hb.cell (p := ⟨b, o + j * 3, none⟩) hbl).trans a1
        have c2 := (hb.cell (p := ⟨b, o + j * 3 + 1, none⟩) hbl).trans a2
        have c3 := (hb.cell (p := ⟨b, o + j * 3 + 2, none⟩) hbl).trans a3
        have hfx := HF.out l[j] (List.getElem_mem hjl)
        have hcx := HM.out l[j] (List.getElem_mem hjl)
        have h4 := (chk_of hcx).2.2.2
        have ht1 := tagsL_take l j hjl
        have hd1 := bodsL_take l j hjl
        have hbl2 := bodyL_len hcx
        generalize l[j] = x at *
        have htg := fun W => tag_any x W (by omega)
        have hpt := fun W => put_any (tagN x) W (tagN_lt (by omega))
        have hbd := fun W => body_any x W hfx
        have hk0 := vk_new x hb
        have hp0 := pu_step hp ((Below.refl _ _).alloc (Nat.le_refl _) (.cells (valC x) 56))
        have hz1 : (bstr (putL (tagN x))).size ≤ 9 := by rw [bstr_size, putL_length]; exact (sz_le _).2
        have hz2 : (bstr (bodyL x)).size ≤ 1000 := by rw [bstr_size]; exact hbl2
        have e1 : bts (bstr (putL (tagN x))) = putL (tagN x) := bts_bstr _ (putL_lt _)
        have e2 : bts (bstr (bodyL x)) = bodyL x := bts_bstr _ (bodyL_lt _)
        rw [← e1] at ht1
        rw [← e2] at hd1
        generalize bstr (putL (tagN x)) = X at *
        generalize bstr (bodyL x) = Y at *
        generalize tagN x = tg at *
        obtain ⟨p, q, s⟩ := x
        simp only at c1 c2 c3
        have hws1 := fun W (h : Pu w w1.heap.size (w1.heap.size + 1) (n :: tagsL (l.take j)) (bodsL (l.take j)) W) => pu_ws1 X h (by simp; omega)
        have hws2 := fun W (h : Pu w w1.heap.size (w1.heap.size + 1) (n :: tagsL (l.take (j + 1))) (bodsL (l.take j)) W) => pu_ws2 Y h (by omega)
        rw [List.cons_append, ← ht1] at hws1
        rw [← hd1] at hws2
        have HK0 := Lib.hid hk0
        have HTG := Lib.hid htg
        have HPT := Lib.hid hpt
        have HBD := Lib.hid hbd
        have HW1 := Lib.hid hws1
        have HW2 := Lib.hid hws2
        have HP0 := Lib.hid hp0
        clear a1 a2 a3 hfx hcx h4 ht1 hd1 hbl2 htg hpt hbd hk0 hp0 hcs hb hws1 hws2 e1 e2 hp
        go_wp2_with fail
        refine (HTG.out _).mono ?_
        rintro e w2 ⟨rfl, hb2⟩
        have hv2 := vk_step HK0.out hb2
        have hp2 := pu_step HP0.out hb2
        go_wp2_with fail
        refine (HPT.out _).mono ?_
        rintro e w3 ⟨rfl, hb3⟩
        replace hv2 := vk_step hv2 hb3
        replace hp2 := pu_step hp2 hb3
        have hV3 := Lib.hid hv2.1
        have HP3 := Lib.hid hp2
        clear hb2 hb3 hp2 hv2
        go_wp2_with fail
        refine (HW1.out _ HP3.out).mono ?_
        rintro e w4 ⟨rfl, hp4, ho4⟩
        have hv4 := ho4 _ _ _ (by decide) (by decide) hV3.out
        have d0 : w4.cell? ⟨wr.heap.size, 0, none⟩ = some (.int .u8 p) := hv4.cell 0
        have d1 : w4.cell? ⟨wr.heap.size, 1, none⟩ = some (.int .i64 q) := hv4.cell 1
        have d2 : w4.cell? ⟨wr.heap.size, 2, none⟩ = some (.string s) := hv4.cell 2
        have HP4 := Lib.hid hp4
        clear hp4 ho4 hv4
        go_wp2_with fail
        refine (HBD.out _).mono ?_
        rintro e w5 ⟨rfl, hb5⟩
        have HP5 := Lib.hid (pu_step HP4.out hb5)
        clear hb5 d0 d1 d2
        go_wp2_with fail
        refine (HW2.out _ HP5.out).mono ?_
        rintro e w6 ⟨rfl, hp6, ho6⟩
        have HP6 := Lib.hid hp6
        clear hp6 ho6
        go_wp2
        go_roundw
        case rel => exact ⟨j + 1, by omega, by go_num, HP6.out⟩
        case measure => simp [intOf]; omega
      · obtain rfl : j = n := by omega
        have hall : l.take j = l := List.take_of_length_le (by have := HN.out; omega)
        rw [hall] at hp hl1 hl2
        have hrec : recL l = (j :: tagsL l) ++ bodsL l := by unfold recL; rw [HN.out]; rfl
        have hrl : (recL l).length = (j :: tagsL l).length + (bodsL l).length := by rw [hrec, List.length_append]
        have hcl : (j :: tagsL l).length ≤ 200 := by simp; omega
        have hlen := pu_len hp
        have HL1 := Lib.hid hlen.1
        have HL2 := Lib.hid hlen.2
        by_cases h4 : 4000 < (recL l).length
        · have HZ := Lib.hid (putS_long HC.out h4)
          rw [hrl] at h4
          have h4I : (4000 : Int) < ((j :: tagsL l).length : Int) + ((bodsL l).length : Int) := by omega
          generalize (j :: tagsL l).length = x1 at *
          generalize (bodsL l).length = x2 at *
          have hx1 : (x1 : Int) ≤ 200 := by omega
          have hx2 : (x2 : Int) ≤ 16000 := by omega
          have HP := Lib.hid hp
          clear hlen hp hrec hrl hall h4 hl1 hl2 hcl
          go_wp2_with fail
          refine (HL1.out).mono ?_
          rintro e w2 ⟨rfl, rfl⟩
          go_wp2_with fail
          refine (HL2.out).mono ?_
          rintro e w2 ⟨rfl, rfl⟩
          go_wp2
          go_ret2
          exact ⟨by rw [HZ.out]; rfl, HP.out.2⟩
        · have HZ := Lib.hid (putS_ok HC.out (by omega))
          have hs1 := pu_str1 hp (by simp)
          have hs2 := fun W (h : Lib.IsBuilder 47 5 w.heap.size (w1.heap.size + 1) (Lib.strCells (bstr (bodsL l))) W) (hB : w.heap.size ≤ W.heap.size) => bstring _ _ _ W h hB
          have hcat : bstr (j :: tagsL l) ++ bstr (bodsL l) = bstr (recL l) := by rw [hrec]; exact bstr_append _ _
          rw [hrl] at h4
          have h4I : ((j :: tagsL l).length : Int) + ((bodsL l).length : Int) ≤ 4000 := by omega
          have hz1 : (bstr (j :: tagsL l)).size ≤ 200 := by rw [bstr_size]; exact hcl
          have hz2 : (bstr (bodsL l)).size ≤ 16000 := by rw [bstr_size]; omega
          generalize bstr (j :: tagsL l) = X at *
          generalize bstr (bodsL l) = Y at *
          generalize (j :: tagsL l).length = x1 at *
          generalize (bodsL l).length = x2 at *
          have hx1 : (x1 : Int) ≤ 200 := by omega
          have hx2 : (x2 : Int) ≤ 16000 := by omega
          have z1 : X.size + Y.size ≤ 9223372036854775807 := by omega
          have z1' : ¬ (9223372036854775807 < X.size + Y.size) := by omega
          have z1I : (X.size : Int) + Y.size ≤ 9223372036854775807 := by omega
          have HP := Lib.hid hp
          have HS1 := Lib.hid hs1
          have HS2 := Lib.hid hs2
          have HCAT := Lib.hid hcat
          clear hlen hp hrec hrl hall h4 hl1 hl2 hcl hs1 hs2 hcat hz1 hz2
          go_wp2_with fail
          refine (HL1.out).mono ?_
          rintro e w2 ⟨rfl, rfl⟩
          go_wp2_with fail
          refine (HL2.out).mono ?_
          rintro e w2 ⟨rfl, rfl⟩
          go_wp2_with fail
          refine (HS1.out).mono ?_
          rintro e w3 ⟨rfl, hib, hb3⟩
          have HIB := Lib.hid hib
          clear hib
          go_wp2_with fail
          refine (HS2.out _ HIB.out hb3.size).mono ?_
          rintro e w4 ⟨rfl, hb4⟩
          go_wp2
          go_ret2
          exact ⟨by rw [HZ.out, ← HCAT.out]; rfl, hb3.trans hb4⟩
  · have HZ := Lib.hid (putS_bad hc)
    have hne : (chkR l != 0) = true := by rw [bne_iff_ne]; exact hc
    generalize chkR l = E at *
    have HCK := Lib.hid hck
    clear hck hc hV hn hf
    go_enter Try.func25, Try.ntmps25
    go_wp2_with fail
    refine (HCK.out).mono ?_
    rintro e w1 ⟨rfl, hb1⟩
    go_wp2
    go_ret2
    exact ⟨by rw [HZ.out]; rfl, hb1⟩
end Go.Proofs.Ytocbdehcjcggeaa
