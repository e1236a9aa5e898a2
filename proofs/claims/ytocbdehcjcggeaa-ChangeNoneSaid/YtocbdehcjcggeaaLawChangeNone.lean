/- Layer 22: the law ChangeNone, walked. Conditions: how the changes lie in memory, how long their texts are. -/
import Derived.Test.YtocbdehcjcggeaaMgE
import Derived.Laws.EntriesVeiled
namespace Go.Proofs.Ytocbdehcjcggeaa
open Go.RowKit Go
set_option linter.unusedVariables false
set_option linter.unusedSimpArgs false
theorem smR_all {l m : List Cg} (hv : l.map vC = m.map vC) (hf : ∀ X ∈ m, FitC X) : ∀ Z ∈ l, SmR Z := fun z hz => by
  obtain ⟨y, hy, hyz⟩ := List.mem_map.1 (hv ▸ List.mem_map_of_mem hz)
  exact smR_of (fit_vC hyz (hf y hy))
theorem len_le {l m : List Cg} (hv : l.map vC = m.map vC) (h : m.length ≤ 100000) : l.length ≤ 100000 := by rw [len_vC hv]; exact h
theorem two_fit {X Y : Cg} (hx : FitC X) (hy : FitC Y) : ∀ Z ∈ [X, Y], FitC Z := fun z hz => by
  simp only [List.mem_cons, List.not_mem_nil, or_false] at hz
  rcases hz with rfl | rfl
  · exact hx
  · exact hy
theorem two_key {X Y : Cg} (hx : KeyOk X) (hy : KeyOk Y) : ∀ Z ∈ [X, Y], KeyOk Z := fun z hz => by
  simp only [List.mem_cons, List.not_mem_nil, or_false] at hz
  rcases hz with rfl | rfl
  · exact hx
  · exact hy
theorem one_fit {X : Cg} (hx : FitC X) : ∀ Z ∈ [X], FitC Z := fun z hz => by rw [List.mem_singleton.1 hz]; exact hx
theorem nil_fit : ∀ Z ∈ ([] : List Cg), FitC Z := fun z hz => by cases hz
theorem nil_cgs (W : World) (A : Option Addr) : Cgs W W.heap.size A [] := .inl rfl
theorem erw_step {W W' : World} {q : Nat} {z : Int} (h : Blk W q 22 #[.int .i64 z]) (hb : Below W.heap.size W W') : Blk W' q 22 #[.int .i64 z] := h.below hb h.lt
theorem swap_fit {l : List Cg} (hf : ∀ X ∈ l, FitC X) : ∀ X ∈ l.map swapC, FitC X := fun X hX => by
  obtain ⟨Y, hY, rfl⟩ := List.mem_map.1 hX
  exact fit_swap (hf Y hY)
theorem swap_lenL (l : List Cg) : (l.map swapC).length = l.length := List.length_map _
theorem addr_none (l : List Cg) : mergeA [] (l ++ []) = mergeA [] l := by rw [List.append_nil]
theorem cgs_at {w : World} {B bk o : Nat} {l : List Cg} (h : Cgs w B (some ⟨bk, o, none⟩) l) {i : Nat} (hi : i < l.length) : Cgs w B (some ⟨bk, o + i * 4, none⟩) [l[i]] := by
  rcases h with h | ⟨b', o', he, hl, hc⟩
  · rw [h] at hi; cases hi
  · cases he
    refine .inr ⟨bk, o + i * 4, rfl, hl, fun j x hx => ?_⟩
    match j with
    | 0 =>
      have hx : l[i] = x := by simpa using hx
      have := hc i x (by rw [← hx]; exact List.getElem?_eq_getElem hi)
      rw [Nat.zero_mul, Nat.add_zero]
      exact this
    | j + 1 => simp at hx
theorem cgs_has {w : World} {B : Nat} {A : Option Addr} {l : List Cg} (h : Cgs w B A l) {i : Nat} (hi : i < l.length) : ∃ b o, A = some ⟨b, o, none⟩ := by
  rcases h with h | ⟨b', o', he, _⟩
  · rw [h] at hi; cases hi
  · exact ⟨b', o', he⟩
theorem swap_get (l : List Cg) (i : Nat) (hi : i < (l.map swapC).length) : (l.map swapC)[i] = swapC (l[i]'(by rw [List.length_map] at hi; exact hi)) := by rw [List.getElem_map]
theorem len_zero {l : List Cg} (h : l.map vC = ([] : List Cg).map vC) : l = [] := by simpa using h
/-- what the operations of the loop's region make -/
def F13 (A Am : Option Addr) (n c cm i : Nat) : Nat → Value → World → Prop
  | 0, v, W => ∃ k, v = isV k ∧ Bl W k none 0 0
  | 1, v, _ => v = .slice A n c
  | 5, v, _ => v = .slice (A.map (·.add (i * 4))) 1 (c - i)
  | 6, v, _ => v = .slice Am n cm
  | 10, v, _ => v = .slice (Am.map (·.add (i * 4))) 1 (cm - i)
  | 4, v, _ => v = .int .i64 ((i : Int) + 1)
  | 9, v, _ => v = .int .i64 ((i : Int) + 1)
  | 11, v, _ => ∃ A' c', v = .tuple #[.slice A' 0 c', .int .i64 0]
  | 12, v, _ => ∃ A' c', v = .slice A' 0 c'
  | 13, v, _ => v = .int .i64 0
  | 14, v, _ => v = .bool true
  | 15, v, _ => v = .bool false
  | _, v, _ => v = .int .i64 (i : Int)
theorem f13_st {A Am : Option Addr} {n c cm i : Nat} : ∀ k v W W', F13 A Am n c cm i k v W → Below W.heap.size W W' → F13 A Am n c cm i k v W'
  | 0, _, _, _, ⟨k, h1, h2⟩, hb => ⟨k, h1, bl_step h2 hb⟩
  | 1, _, _, _, h, _ => h
  | 2, _, _, _, h, _ => h
  | 3, _, _, _, h, _ => h
  | 4, _, _, _, h, _ => h
  | 5, _, _, _, h, _ => h
  | 6, _, _, _, h, _ => h
  | 7, _, _, _, h, _ => h
  | 8, _, _, _, h, _ => h
  | 9, _, _, _, h, _ => h
  | 10, _, _, _, h, _ => h
  | 11, _, _, _, h, _ => h
  | 12, _, _, _, h, _ => h
  | 13, _, _, _, h, _ => h
  | 14, _, _, _, h, _ => h
  | 15, _, _, _, h, _ => h
  | _ + 16, _, _, _, h, _ => h
structure I13 (w : World) (A Am : Option Addr) (l : List Cg) (W : World) : Prop where
  hl : Cgs W W.heap.size A l
  hm : Cgs W W.heap.size Am (l.map swapC)
  hb : Below w.heap.size w W
theorem I13.step {w W W' : World} {A Am : Option Addr} {l : List Cg} (h : I13 w A Am l W) (hb : Below W.heap.size W W') : I13 w A Am l W' := ⟨cgs_step h.hl hb, cgs_step h.hm hb, bj h.hb hb⟩
set_option maxRecDepth 100000 in
/-- what undoes one change leaves none -/
theorem undo_one {A Am : Option Addr} {l : List Cg} {i c cm : Nat} {W : World} (h : Cgs W W.heap.size A l) (h' : Cgs W W.heap.size Am (l.map swapC)) (hi : i < l.length) (hok : OkC l) (hf : ∀ X ∈ l, FitC X) :
    Calls Try.prog 16 #[.slice (A.map (·.add (i * 4))) 1 c, .slice (Am.map (·.add (i * 4))) 1 cm] W fun e w' => ∃ A' c', e = .returned (.tuple #[.slice A' 0 c', .int .i64 0]) ∧ Below W.heap.size W w' := by
  obtain ⟨b, o, rfl⟩ := cgs_has h hi
  have hi' : i < (l.map swapC).length := by rw [List.length_map]; exact hi
  obtain ⟨b', o', rfl⟩ := cgs_has h' hi'
  have h1 := cgs_at h hi
  have h2 := cgs_at h' hi'
  rw [swap_get] at h2
  have hx : l[i] ∈ l := List.getElem_mem hi
  generalize l[i] = x at h1 h2 hx
  have o1 : OkC [x] := okC_one (okC_may hok x hx)
  have hf1 : ∀ X ∈ [x], FitC X := fun X hX => by rw [List.mem_singleton.1 hX]; exact hf x hx
  have hmu := merge_undo o1
  have hsf := swap_fit hf1
  have hso := okC_swap o1
  have hku := keep_undo [x]
  have e1 : [x].map swapC = [swapC x] := rfl
  rw [e1] at hmu hsf hso
  have ea : (some (Addr.mk b o none)).map (·.add (i * 4)) = some ⟨b, o + i * 4, none⟩ := by simp [Addr.add]
  have eb : (some (Addr.mk b' o' none)).map (·.add (i * 4)) = some ⟨b', o' + i * 4, none⟩ := by simp [Addr.add]
  rw [ea, eb]
  have hp : ((keepL ([x].map undo)).map vC).Perm (([] : List Cg).map vC) := by rw [hku]
  have hl1 : 1 = [x].length := by rw [List.length_singleton]
  have hl2 : 1 = [swapC x].length := by rw [List.length_singleton]
  have hcc := concat_yes (c := c) (c' := cm) h1 h2 hl1 hl2 (by omega) hf1 hsf o1 hso hmu okC_nil hp
  refine hcc.mono ?_
  rintro e w' ⟨A', c', l', rfl, hc, hb, hv, _⟩
  have h0 := len_zero hv
  subst h0
  exact ⟨A', c', rfl, hb⟩
set_option maxRecDepth 100000 in
set_option maxHeartbeats 16000000 in
theorem changeNone_walk (A : Option Addr) (l : List Cg) (n c : Nat) (hn : n = l.length) (hm : n ≤ maxLen) (hf : ∀ X ∈ l, FitC X) (hcap : n ≤ c) (w : World) (hO : Cgs w w.heap.size A l) :
    Calls Try.prog 8 #[.slice A n c] w fun e w' => e = .returned (.bool true) ∧ Below w.heap.size w w' := by
  have HB := Lib.hid (Below.refl w.heap.size w)
  have HL := Lib.hid hO
  have HN := Lib.hid hn
  have HF := Lib.hid hf
  have HM := Lib.hid hm
  have HCAP := Lib.hid hcap
  have hmI : (n : Int) ≤ 9223372036854775807 := by unfold maxLen at hm; omega
  clear hO hn hf hm hcap
  go_enter Try.func8, Try.ntmps8
  go_wp2_with fail
  refine (works22 _).mono ?_
  rintro e w1 ⟨rfl, hb⟩
  replace HB := Lib.hid (bj HB.out hb)
  replace HL := Lib.hid (cgs_step HL.out hb)
  clear hb
  go_wp2_with fail
  refine (great_any A l n c _ HL.out HN.out HM.out HF.out).mono ?_
  rintro e w2 ⟨⟨r, rfl, hr⟩, hb⟩
  replace HB := Lib.hid (bj HB.out hb)
  replace HL := Lib.hid (cgs_step HL.out hb)
  clear hb hr
  rcases r with _ | _
  rotate_left
  · go_wp2_with fail
    go_ret
    exact ⟨rfl, HB.out⟩
  by_cases h100 : 100 < n
  · have h100I : (100 : Int) < n := by omega
    go_wp2_with fail
    go_ret
    exact ⟨rfl, HB.out⟩
  have h100I : ¬ ((100 : Int) < n) := by omega
  have H100 := Lib.hid (show n ≤ 100 from by omega)
  clear h100
  go_wp2_with fail
  refine (gcheck_any A l n c _ HL.out HN.out HM.out HF.out).mono ?_
  rintro e w3 ⟨rfl, hb⟩
  replace HB := Lib.hid (bj HB.out hb)
  replace HL := Lib.hid (cgs_step HL.out hb)
  clear hb
  by_cases hok : OkC l
  rotate_left
  ·   have HZ := Lib.hid (chkG_no hok)
      rw [HZ.out]
      clear hok
      go_wp2_with fail
      refine (not_any 2 _).mono ?_
      rintro e w4 ⟨rfl, hbl, hb⟩
      have HBL := Lib.hid hbl
      replace HB := Lib.hid (bj HB.out hb)
      replace HL := Lib.hid (cgs_step HL.out hb)
      clear hb hbl
      go_wp2_with fail
      refine (concat_any A none l [] n c 0 0 _ HL.out (nil_cgs _ none) HN.out rfl (by have := H100.out; omega) HF.out nil_fit).mono ?_
      rintro e w5 ⟨hb, he⟩
      replace HB := Lib.hid (bj HB.out hb)
      replace HL := Lib.hid (cgs_step HL.out hb)
      replace HBL := Lib.hid (blk_step HBL.out hb)
      clear hb
      have he2 := he.1 (by rw [HZ.out]; omega)
      rw [HZ.out] at he2
      subst he2
      clear he
      go_wp2_with fail
      refine (not1_any none 0 2 _ _ HBL.out).mono ?_
      rintro e w6 ⟨rfl, hb⟩
      replace HB := Lib.hid (bj HB.out hb)
      replace HL := Lib.hid (cgs_step HL.out hb)
      replace HBL := Lib.hid (blk_step HBL.out hb)
      clear hb
      clear HBL
      go_wp2_with fail
      refine (not_any 2 _).mono ?_
      rintro e w7 ⟨rfl, hbl, hb⟩
      have HBL := Lib.hid hbl
      replace HB := Lib.hid (bj HB.out hb)
      replace HL := Lib.hid (cgs_step HL.out hb)
      clear hb hbl
      go_wp2_with fail
      refine (concat_any none A [] l 0 0 n c _ (nil_cgs _ none) HL.out rfl HN.out (by have := H100.out; omega) nil_fit HF.out).mono ?_
      rintro e w8 ⟨hb, he⟩
      replace HB := Lib.hid (bj HB.out hb)
      replace HL := Lib.hid (cgs_step HL.out hb)
      replace HBL := Lib.hid (blk_step HBL.out hb)
      clear hb
      have he2 := he.2.1 (chkG_ok okC_nil) (by rw [HZ.out]; omega)
      rw [HZ.out] at he2
      subst he2
      clear he
      go_wp2_with fail
      refine (not1_any none 0 2 _ _ HBL.out).mono ?_
      rintro e w9 ⟨rfl, hb⟩
      replace HB := Lib.hid (bj HB.out hb)
      replace HL := Lib.hid (cgs_step HL.out hb)
      replace HBL := Lib.hid (blk_step HBL.out hb)
      clear hb
      clear HBL
      go_wp2_with fail
      refine (not_any 2 _).mono ?_
      rintro e w10 ⟨rfl, hbl, hb⟩
      have HBL := Lib.hid hbl
      replace HB := Lib.hid (bj HB.out hb)
      replace HL := Lib.hid (cgs_step HL.out hb)
      clear hb hbl
      go_wp2_with fail
      refine (invert_any A l n c _ HL.out HN.out (by have := H100.out; omega) HF.out).mono ?_
      rintro e w11 ⟨hb, he⟩
      replace HB := Lib.hid (bj HB.out hb)
      replace HL := Lib.hid (cgs_step HL.out hb)
      replace HBL := Lib.hid (blk_step HBL.out hb)
      clear hb
      have he2 := he.1 (by rw [HZ.out]; omega)
      rw [HZ.out] at he2
      subst he2
      clear he
      go_wp2_with fail
      refine (not1_any none 0 2 _ _ HBL.out).mono ?_
      rintro e w12 ⟨rfl, hb⟩
      replace HB := Lib.hid (bj HB.out hb)
      replace HL := Lib.hid (cgs_step HL.out hb)
      replace HBL := Lib.hid (blk_step HBL.out hb)
      clear hb
      clear HBL
      go_wp2_with fail
      go_ret
      exact ⟨rfl, HB.out⟩
  rw [chkG_ok hok]
  have HOK := Lib.hid hok
  clear hok
  go_wp2_with fail
  refine (inv_yes HL.out HN.out HF.out HOK.out).mono ?_
  rintro e w4 ⟨Am, cm, rfl, hcm, hb, hcap2⟩
  have HMM := Lib.hid hcm
  have HCM := Lib.hid hcap2
  replace HB := Lib.hid (bj HB.out hb)
  replace HL := Lib.hid (cgs_step HL.out hb)
  clear hb hcm hcap2
  go_wp2_with fail
  refine (is_any A n c _).mono ?_
  rintro e w5 ⟨rfl, hbl, hb⟩
  have HBL := Lib.hid hbl
  replace HB := Lib.hid (bj HB.out hb)
  replace HL := Lib.hid (cgs_step HL.out hb)
  replace HMM := Lib.hid (cgs_step HMM.out hb)
  clear hb hbl
  have HMG := Lib.hid (concat_yes (b := []) (C := none) (n' := 0) (c' := 0) (c := c) (m := l) HL.out (nil_cgs _ none) HN.out rfl (by have := H100.out; omega) HF.out nil_fit HOK.out okC_nil (by rw [List.append_nil]; exact merge_self HOK.out) HOK.out (by rw [okC_keep HOK.out]))
  go_wp2_with fail
  refine (HMG.out).mono ?_
  rintro e w6 ⟨A9, c9, l9, rfl, hc9, hb, hv9, hf9⟩
  have HC := Lib.hid hc9
  have HV := Lib.hid hv9
  replace HB := Lib.hid (bj HB.out hb)
  replace HL := Lib.hid (cgs_step HL.out hb)
  replace HMM := Lib.hid (cgs_step HMM.out hb)
  replace HBL := Lib.hid (bl_step HBL.out hb)
  clear hb hc9 hv9 hf9 HMG
  have HS0 := Lib.hid (smR_all HV.out HF.out)
  have HN0 := Lib.hid (len_le HV.out (by have := H100.out; have := HN.out; omega))
  go_wp2_with fail
  refine (is1_any _ _ _ _ _ _ _ _ _ _ HC.out HL.out HBL.out rfl HN.out HN0.out HV.out HS0.out).mono ?_
  rintro e w7 ⟨rfl, hb⟩
  replace HB := Lib.hid (bj HB.out hb)
  replace HL := Lib.hid (cgs_step HL.out hb)
  replace HMM := Lib.hid (cgs_step HMM.out hb)
  replace HBL := Lib.hid (bl_step HBL.out hb)
  replace HC := Lib.hid (cgs_step HC.out hb)
  clear hb HS0 HN0
  clear HC HBL
  clear HV
  go_wp2_with fail
  refine (is_any A n c _).mono ?_
  rintro e w8 ⟨rfl, hbl, hb⟩
  have HBL := Lib.hid hbl
  replace HB := Lib.hid (bj HB.out hb)
  replace HL := Lib.hid (cgs_step HL.out hb)
  replace HMM := Lib.hid (cgs_step HMM.out hb)
  clear hb hbl
  have HMG := Lib.hid (concat_yes (a := []) (A := none) (n := 0) (c := 0) (c' := c) (m := l) (nil_cgs _ none) HL.out rfl HN.out (by have := H100.out; omega) nil_fit HF.out okC_nil HOK.out (by rw [List.nil_append]; exact merge_self HOK.out) HOK.out (by rw [okC_keep HOK.out]))
  go_wp2_with fail
  refine (HMG.out).mono ?_
  rintro e w9 ⟨A9, c9, l9, rfl, hc9, hb, hv9, hf9⟩
  have HC := Lib.hid hc9
  have HV := Lib.hid hv9
  replace HB := Lib.hid (bj HB.out hb)
  replace HL := Lib.hid (cgs_step HL.out hb)
  replace HMM := Lib.hid (cgs_step HMM.out hb)
  replace HBL := Lib.hid (bl_step HBL.out hb)
  clear hb hc9 hv9 hf9 HMG
  have HS0 := Lib.hid (smR_all HV.out HF.out)
  have HN0 := Lib.hid (len_le HV.out (by have := H100.out; have := HN.out; omega))
  go_wp2_with fail
  refine (is1_any _ _ _ _ _ _ _ _ _ _ HC.out HL.out HBL.out rfl HN.out HN0.out HV.out HS0.out).mono ?_
  rintro e w10 ⟨rfl, hb⟩
  replace HB := Lib.hid (bj HB.out hb)
  replace HL := Lib.hid (cgs_step HL.out hb)
  replace HMM := Lib.hid (cgs_step HMM.out hb)
  replace HBL := Lib.hid (bl_step HBL.out hb)
  replace HC := Lib.hid (cgs_step HC.out hb)
  clear hb HS0 HN0
  clear HC HBL
  clear HV
  go_wp2_with fail
  have HINV := Lib.hid (I13.mk HL.out HMM.out HB.out)
  generalize w10 = Wx at *
  clear HB HL HMM
  go_loopw [76] (fun v W => ∃ i : Nat, v = .int .i64 i ∧ i ≤ n ∧ I13 w A Am l W) (fun v _ => n - (intOf v).toNat)
  case atStart => exact ⟨0, rfl, Nat.zero_le _, HINV.out⟩
  case round =>
    clear HINV
    obtain ⟨i, rfl, hin, hinv⟩ := hrel
    have HINV := Lib.hid hinv
    clear hinv
    by_cases hlt : i < n
    rotate_left
    · have hltI : ¬ ((i : Int) < n) := by omega
      go_wp2_with fail
      go_ret
      exact ⟨rfl, HINV.out.hb⟩
    · have hltI : (i : Int) < n := by omega
      have HI := Lib.hid (show i < l.length from by have := HN.out; omega)
      have hic := HCAP.out
      have hicm := HCM.out
      go_wp2_with fail
      refine wp_region_noPanic ?_
      refine wp_region_any (by kernel_rfl) ?_
      refine facts_sw [0, 1, 2, 3, 4, 5, 6, 7, 8, 9, 10, 11, 12, 13, 14, 15] (fun i => match i with | 4 => [3] | 5 => [1, 2, 4] | 9 => [8] | 10 => [6, 7, 9] | 11 => [5, 10] | 12 => [11] | 13 => [11] | 14 => [0, 12, 13] | 15 => [14] | _ => []) 99 99 (F13 A Am n c cm i) (fun W W' => Below W.heap.size W W') (fun _ _ W => I13 w A Am l W) _ _ _ 0 _ #[true, true, true, true, true, true, true, true, true, true, true, true, true, true, true, true] f13_st (by kernel_rfl) (by rfl) (HINV.out.step (Below.refl _ _).drew) ?hstep ?hend
      case hstep =>
        intro i' hi b' c'' hbp hcq hbd hcd x W hd hI K hK
        simp only [List.mem_cons, List.not_mem_nil, or_false] at hi
        rcases hi with rfl | rfl | rfl | rfl | rfl | rfl | rfl | rfl | rfl | rfl | rfl | rfl | rfl | rfl | rfl | rfl
        · generalize hA : putsA _ _ x [0, 1, 2, 3, 4, 5, 6, 7, 8, 9, 10, 11, 12, 13, 14, 15] = A_ at *
          clear hA hd
          refine wpOp_step rfl (fun K' hK' => ?_)
          go_simp
          refine (is_any none 0 0 W).mono ?_
          rintro e w6 ⟨rfl, hbl, hb6⟩
          exact hK' _ _ (hK _ _ ⟨_, rfl, hbl⟩ hb6 (hI.step hb6))
        · generalize hA : putsA _ _ x [0, 1, 2, 3, 4, 5, 6, 7, 8, 9, 10, 11, 12, 13, 14, 15] = A_ at *
          have e0 : A_.tmps[0]? = some (.slice A n c) := by rw [← hA]; exact putsA_at 0 _ (by decide +kernel)
          clear hA hd
          refine wpOp_step rfl (fun K' hK' => ?_)
          go_simp
          exact hK' _ _ (hK _ _ rfl (Below.refl _ _) hI)
        · generalize hA : putsA _ _ x [0, 1, 2, 3, 4, 5, 6, 7, 8, 9, 10, 11, 12, 13, 14, 15] = A_ at *
          have e5 : A_.tmps[5]? = some (.int .i64 (i : Int)) := by rw [← hA]; exact putsA_at 5 _ (by decide +kernel)
          clear hA hd
          refine wpOp_step rfl (fun K' hK' => ?_)
          go_simp
          exact hK' _ _ (hK _ _ rfl (Below.refl _ _) hI)
        · generalize hA : putsA _ _ x [0, 1, 2, 3, 4, 5, 6, 7, 8, 9, 10, 11, 12, 13, 14, 15] = A_ at *
          have e5 : A_.tmps[5]? = some (.int .i64 (i : Int)) := by rw [← hA]; exact putsA_at 5 _ (by decide +kernel)
          clear hA hd
          refine wpOp_step rfl (fun K' hK' => ?_)
          go_simp
          exact hK' _ _ (hK _ _ rfl (Below.refl _ _) hI)
        · generalize hA : putsA _ _ x [0, 1, 2, 3, 4, 5, 6, 7, 8, 9, 10, 11, 12, 13, 14, 15] = A_ at *
          have e82 : A_.tmps[82]? = some (x 3) := by rw [← hA]; exact putsA_in (i := 3) 82 (by rfl) (by show (82 : Nat) < 96; decide) _ (by decide +kernel) (by decide)
          have f3 : x 3 = .int .i64 (i : Int) := hd 3 (by decide)
          rw [f3] at e82
          clear hA hd
          have hwr : IntKind.i64.wrap ((i : Int) + 1) = (i : Int) + 1 := by rw [IntKind.wrap_i64]; omega
          refine wpOp_step rfl (fun K' hK' => ?_)
          go_simp
          exact hK' _ _ (hK _ _ (by first | rfl | exact congrArg (Value.int .i64) hwr) (Below.refl _ _) hI)
        · generalize hA : putsA _ _ x [0, 1, 2, 3, 4, 5, 6, 7, 8, 9, 10, 11, 12, 13, 14, 15] = A_ at *
          have e80 : A_.tmps[80]? = some (x 1) := by rw [← hA]; exact putsA_in (i := 1) 80 (by rfl) (by show (80 : Nat) < 96; decide) _ (by decide +kernel) (by decide)
          have f1 : x 1 = .slice A n c := hd 1 (by decide)
          rw [f1] at e80
          have e81 : A_.tmps[81]? = some (x 2) := by rw [← hA]; exact putsA_in (i := 2) 81 (by rfl) (by show (81 : Nat) < 96; decide) _ (by decide +kernel) (by decide)
          have f2 : x 2 = .int .i64 (i : Int) := hd 2 (by decide)
          rw [f2] at e81
          have e83 : A_.tmps[83]? = some (x 4) := by rw [← hA]; exact putsA_in (i := 4) 83 (by rfl) (by show (83 : Nat) < 96; decide) _ (by decide +kernel) (by decide)
          have f4 : x 4 = .int .i64 ((i : Int) + 1) := hd 4 (by decide)
          rw [f4] at e83
          clear hA hd
          have h50 : (0 : Int) ≤ (i : Int) + 1 := by omega
          have h51 : (i : Int) + 1 ≤ c := by omega
          refine wpOp_step rfl (fun K' hK' => ?_)
          go_simp
          have hne : ¬ (c = i) := by omega
          try simp only [sliced, hne, ↓reduceIte]
          exact hK' _ _ (hK _ _ rfl (Below.refl _ _) hI)
        · generalize hA : putsA _ _ x [0, 1, 2, 3, 4, 5, 6, 7, 8, 9, 10, 11, 12, 13, 14, 15] = A_ at *
          have e3 : A_.tmps[3]? = some (.slice Am n cm) := by rw [← hA]; exact putsA_at 3 _ (by decide +kernel)
          clear hA hd
          refine wpOp_step rfl (fun K' hK' => ?_)
          go_simp
          exact hK' _ _ (hK _ _ rfl (Below.refl _ _) hI)
        · generalize hA : putsA _ _ x [0, 1, 2, 3, 4, 5, 6, 7, 8, 9, 10, 11, 12, 13, 14, 15] = A_ at *
          have e5 : A_.tmps[5]? = some (.int .i64 (i : Int)) := by rw [← hA]; exact putsA_at 5 _ (by decide +kernel)
          clear hA hd
          refine wpOp_step rfl (fun K' hK' => ?_)
          go_simp
          exact hK' _ _ (hK _ _ rfl (Below.refl _ _) hI)
        · generalize hA : putsA _ _ x [0, 1, 2, 3, 4, 5, 6, 7, 8, 9, 10, 11, 12, 13, 14, 15] = A_ at *
          have e5 : A_.tmps[5]? = some (.int .i64 (i : Int)) := by rw [← hA]; exact putsA_at 5 _ (by decide +kernel)
          clear hA hd
          refine wpOp_step rfl (fun K' hK' => ?_)
          go_simp
          exact hK' _ _ (hK _ _ rfl (Below.refl _ _) hI)
        · generalize hA : putsA _ _ x [0, 1, 2, 3, 4, 5, 6, 7, 8, 9, 10, 11, 12, 13, 14, 15] = A_ at *
          have e87 : A_.tmps[87]? = some (x 8) := by rw [← hA]; exact putsA_in (i := 8) 87 (by rfl) (by show (87 : Nat) < 96; decide) _ (by decide +kernel) (by decide)
          have f8 : x 8 = .int .i64 (i : Int) := hd 8 (by decide)
          rw [f8] at e87
          clear hA hd
          have hwr : IntKind.i64.wrap ((i : Int) + 1) = (i : Int) + 1 := by rw [IntKind.wrap_i64]; omega
          refine wpOp_step rfl (fun K' hK' => ?_)
          go_simp
          exact hK' _ _ (hK _ _ (by first | rfl | exact congrArg (Value.int .i64) hwr) (Below.refl _ _) hI)
        · generalize hA : putsA _ _ x [0, 1, 2, 3, 4, 5, 6, 7, 8, 9, 10, 11, 12, 13, 14, 15] = A_ at *
          have e85 : A_.tmps[85]? = some (x 6) := by rw [← hA]; exact putsA_in (i := 6) 85 (by rfl) (by show (85 : Nat) < 96; decide) _ (by decide +kernel) (by decide)
          have f6 : x 6 = .slice Am n cm := hd 6 (by decide)
          rw [f6] at e85
          have e86 : A_.tmps[86]? = some (x 7) := by rw [← hA]; exact putsA_in (i := 7) 86 (by rfl) (by show (86 : Nat) < 96; decide) _ (by decide +kernel) (by decide)
          have f7 : x 7 = .int .i64 (i : Int) := hd 7 (by decide)
          rw [f7] at e86
          have e88 : A_.tmps[88]? = some (x 9) := by rw [← hA]; exact putsA_in (i := 9) 88 (by rfl) (by show (88 : Nat) < 96; decide) _ (by decide +kernel) (by decide)
          have f9 : x 9 = .int .i64 ((i : Int) + 1) := hd 9 (by decide)
          rw [f9] at e88
          clear hA hd
          have h50 : (0 : Int) ≤ (i : Int) + 1 := by omega
          have h51 : (i : Int) + 1 ≤ cm := by omega
          refine wpOp_step rfl (fun K' hK' => ?_)
          go_simp
          have hne : ¬ (cm = i) := by omega
          try simp only [sliced, hne, ↓reduceIte]
          exact hK' _ _ (hK _ _ rfl (Below.refl _ _) hI)
        · generalize hA : putsA _ _ x [0, 1, 2, 3, 4, 5, 6, 7, 8, 9, 10, 11, 12, 13, 14, 15] = A_ at *
          have e84 : A_.tmps[84]? = some (x 5) := by rw [← hA]; exact putsA_in (i := 5) 84 (by rfl) (by show (84 : Nat) < 96; decide) _ (by decide +kernel) (by decide)
          have f5 : x 5 = .slice (A.map (·.add (i * 4))) 1 (c - i) := hd 5 (by decide)
          rw [f5] at e84
          have e89 : A_.tmps[89]? = some (x 10) := by rw [← hA]; exact putsA_in (i := 10) 89 (by rfl) (by show (89 : Nat) < 96; decide) _ (by decide +kernel) (by decide)
          have f10 : x 10 = .slice (Am.map (·.add (i * 4))) 1 (cm - i) := hd 10 (by decide)
          rw [f10] at e89
          clear hA hd
          refine wpOp_step rfl (fun K' hK' => ?_)
          go_simp
          refine (undo_one hI.hl hI.hm HI.out HOK.out HF.out).mono ?_
          rintro e w6 ⟨A', c', rfl, hb6⟩
          exact hK' _ _ (hK _ _ ⟨A', c', rfl⟩ hb6 (hI.step hb6))
        · generalize hA : putsA _ _ x [0, 1, 2, 3, 4, 5, 6, 7, 8, 9, 10, 11, 12, 13, 14, 15] = A_ at *
          have e90 : A_.tmps[90]? = some (x 11) := by rw [← hA]; exact putsA_in (i := 11) 90 (by rfl) (by show (90 : Nat) < 96; decide) _ (by decide +kernel) (by decide)
          obtain ⟨A', c', f11⟩ : ∃ A' c', x 11 = .tuple #[.slice A' 0 c', .int .i64 0] := hd 11 (by decide)
          rw [f11] at e90
          clear hA hd
          refine wpOp_step rfl (fun K' hK' => ?_)
          go_simp
          exact hK' _ _ (hK _ _ ⟨A', c', rfl⟩ (Below.refl _ _) hI)
        · generalize hA : putsA _ _ x [0, 1, 2, 3, 4, 5, 6, 7, 8, 9, 10, 11, 12, 13, 14, 15] = A_ at *
          have e90 : A_.tmps[90]? = some (x 11) := by rw [← hA]; exact putsA_in (i := 11) 90 (by rfl) (by show (90 : Nat) < 96; decide) _ (by decide +kernel) (by decide)
          obtain ⟨A', c', f11⟩ : ∃ A' c', x 11 = .tuple #[.slice A' 0 c', .int .i64 0] := hd 11 (by decide)
          rw [f11] at e90
          clear hA hd
          refine wpOp_step rfl (fun K' hK' => ?_)
          go_simp
          exact hK' _ _ (hK _ _ rfl (Below.refl _ _) hI)
        · generalize hA : putsA _ _ x [0, 1, 2, 3, 4, 5, 6, 7, 8, 9, 10, 11, 12, 13, 14, 15] = A_ at *
          have e79 : A_.tmps[79]? = some (x 0) := by rw [← hA]; exact putsA_in (i := 0) 79 (by rfl) (by show (79 : Nat) < 96; decide) _ (by decide +kernel) (by decide)
          obtain ⟨k, f0, hbk⟩ : ∃ k, x 0 = isV k ∧ Bl W k none 0 0 := hd 0 (by decide)
          rw [f0] at e79
          have e91 : A_.tmps[91]? = some (x 12) := by rw [← hA]; exact putsA_in (i := 12) 91 (by rfl) (by show (91 : Nat) < 96; decide) _ (by decide +kernel) (by decide)
          obtain ⟨A', c', f12⟩ : ∃ A' c', x 12 = .slice A' 0 c' := hd 12 (by decide)
          rw [f12] at e91
          have e92 : A_.tmps[92]? = some (x 13) := by rw [← hA]; exact putsA_in (i := 13) 92 (by rfl) (by show (92 : Nat) < 96; decide) _ (by decide +kernel) (by decide)
          have f13 : x 13 = .int .i64 0 := hd 13 (by decide)
          rw [f13] at e92
          clear hA hd
          refine wpOp_step rfl (fun K' hK' => ?_)
          go_simp
          refine (is1_any A' none [] [] 0 c' 0 0 k W (nil_cgs _ A') (nil_cgs _ none) hbk rfl rfl (by omega) rfl (fun Z hZ => by cases hZ)).mono ?_
          rintro e w6 ⟨rfl, hb6⟩
          exact hK' _ _ (hK _ _ rfl hb6 (hI.step hb6))
        · generalize hA : putsA _ _ x [0, 1, 2, 3, 4, 5, 6, 7, 8, 9, 10, 11, 12, 13, 14, 15] = A_ at *
          have e93 : A_.tmps[93]? = some (x 14) := by rw [← hA]; exact putsA_in (i := 14) 93 (by rfl) (by show (93 : Nat) < 96; decide) _ (by decide +kernel) (by decide)
          have f14 : x 14 = .bool true := hd 14 (by decide)
          rw [f14] at e93
          clear hA hd
          refine wpOp_step rfl (fun K' hK' => ?_)
          go_simp
          exact hK' _ _ (hK _ _ rfl (Below.refl _ _) hI)
      case hend =>
        intro x W b' c'' hf hpf hqf hI
        have hl15 : x 15 = .bool false := hf 15 (by decide)
        rw [putsA_lit _ _ [0, 1, 2, 3, 4, 5, 6, 7, 8, 9, 10, 11, 12, 13, 14, 15] ((79, 0) :: (80, 1) :: (81, 2) :: (82, 3) :: (83, 4) :: (84, 5) :: (85, 6) :: (86, 7) :: (87, 8) :: (88, 9) :: (89, 10) :: (90, 11) :: (91, 12) :: (92, 13) :: (93, 14) :: (94, 15) :: []) (by kernel_rfl)]
        simp only [setAll, ↓reduceIte, Nat.reduceAdd, Nat.reduceEqDiff]
        rw [hl15]
        clear hf hpf hqf hl15
        have HINV2 := Lib.hid hI
        clear hI HINV
        generalize x 0 = z0
        generalize x 1 = z1
        generalize x 2 = z2
        generalize x 3 = z3
        generalize x 4 = z4
        generalize x 5 = z5
        generalize x 6 = z6
        generalize x 7 = z7
        generalize x 8 = z8
        generalize x 9 = z9
        generalize x 10 = z10
        generalize x 11 = z11
        generalize x 12 = z12
        generalize x 13 = z13
        generalize x 14 = z14
        refine wpAny_done (by kernel_rfl) ?_ _
        refine NoPanic.normal ?_
        clear x
        go_wp2_with fail
        go_roundw
        case rel => exact ⟨i + 1, by simp, by omega, HINV2.out⟩
        case measure => simp [intOf]; omega
end Go.Proofs.Ytocbdehcjcggeaa
