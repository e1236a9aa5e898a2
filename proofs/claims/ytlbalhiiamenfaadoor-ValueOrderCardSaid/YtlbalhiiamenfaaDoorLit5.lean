/- counterfoilref07.Literal, whole. Conditions: the numbers fit their kinds. -/
import Derived.Test.YtlbalhiiamenfaaDoorLit4
import Derived.Deep.RegionHeld3
import Derived.Deep.RegionLaw
namespace Go.Proofs.YtlbalhiiamenfaaDoor
open Go.RowKit
set_option linter.unusedVariables false
theorem step_append8 {P : Program} (w : World) {ops : Array Oper} {o : Oper} {a : Act} {K : Act → World → Prop} {Q : Exit → Act → World → Prop} {E : Prop} (hgd : o.guard = none) (s x : Operand) (t : TypeId)
    (ho : o.op = .call { callee := .builtin .append, args := #[s, x], argTypes := #[t, t] })
    (base : Nat) (e : TypeId) (i : TypeInfo) (z : Value) (size bytes : Nat) (ht : P.underlying t = some (.slice e)) (hi : P.info? e = some i) (hz : i.zero = some z)
    (hsize : i.size = size) (hby : i.bytes = bytes) (hzs : z.cells.size = size) (hsz : 0 < size)
    (v : Value) (n : Nat) (xs : List Value) (hs : a.eval s = v) (hown : w.ownsRow base e size v n xs)
    (B : Nat) (A : Option Addr) (m c : Nat) (news : List Value) (hx : a.eval x = .slice A m c) (hr : Reads w B size A m news) (h1 : ∀ u ∈ news, u.oneCell' = true)
    (h63 : n + m ≤ maxLen) (hbytes : (n + m) * bytes ≤ 140737488355328) (hbase : base ≤ w.heap.size)
    (h : ∀ A' c' w', w'.ownsRow base e size (.slice A' (n + m) c') (n + m) (xs ++ news) → w.grownBy w' v.ownBlock → K (a.put o.dst (.slice A' (n + m) c')) w') :
    if Region.wanted o (yielded ops a.tmps) = true then Oper.wp P o a w K Q else E := by
  have hw : Region.wanted o (yielded ops a.tmps) = true := by simp [Region.wanted, hgd]
  rw [if_pos hw]
  refine wp_append_any w s x t ho base e i z size bytes ht hi hz hsize hby hzs hsz v n xs hs hown B A m c news hx hr h1 h63 hbytes hbase fun v' w' h2 h3 h4 => ?_
  obtain ⟨A', c', rfl⟩ := own_form h2
  exact h A' c' w' h2 h3
theorem rl_drew {w W : World} {s : ByteArray} {k : Int} {A : Option Addr} {n c : Nat} {L : List Nat} (h : Rl w s k A n c L W) : Rl w s k A n c L W.drew := ⟨own_below h.1 ((Below.refl W.heap.size W).drew), h.2.1.drew, h.2.2.1.drew, h.2.2.2.1, h.2.2.2.2⟩
theorem reads2d (W : World) (g : Nat) (x y : Value) (t : TypeId) (hg : W.heap.size = g) : Reads (W.alloc (.cells #[x, y] t)).drew (g + 1) 1 (some ⟨g, 0, none⟩) 2 [x, y] := by
  subst hg
  refine ⟨rfl, fun _ => ⟨_, rfl, by simp, fun j v hj => ?_⟩⟩
  have hb := (Blk.new W t #[x, y]).drew
  match j, hj with
  | 0, hj => simp at hj; subst hj; exact hb.cell 0
  | 1, hj => simp at hj; subst hj; exact hb.cell 1
theorem rl_S {w W : World} {s : ByteArray} {k : Int} {A : Option Addr} {n c : Nat} {L : List Nat} (h : Rl w s k A n c L W) : W.cell? ⟨w.heap.size, 2, none⟩ = some (.string s) ∧ Rl w s k A n c L W := ⟨rl_cell h, h⟩
theorem hex_take {s : ByteArray} {j : Nat} (h : j < s.size) : hexL ((bts s).take (j + 1)) = hexL ((bts s).take j) ++ [hexc ((bts s).getD j 0 / 16), hexc ((bts s).getD j 0 % 16)] := by
  rw [List.take_succ_eq_append_getElem (by rw [bts_length]; exact h), List.getD_eq_getElem?_getD, List.getElem?_eq_getElem (by rw [bts_length]; exact h), hexL_app]; rfl
theorem hex_run (z : Int) (k : Nat) (hz : z = k) (hk : k < 16) (W : World) : (Instr.index 9 (.string ⟨#[48, 49, 50, 51, 52, 53, 54, 55, 56, 57, 97, 98, 99, 100, 101, 102]⟩) (.int .u8 z)).run Tryd.prog W = .ok (.int .u8 (hexc k : Nat)) W := by
  subst hz
  have e16 : (⟨#[48, 49, 50, 51, 52, 53, 54, 55, 56, 57, 97, 98, 99, 100, 101, 102]⟩ : ByteArray).size = 16 := rfl
  rw [run_index_string W 9 _ .u8 _ Tryd.underlying9, dif_pos ⟨by omega, by rw [e16]; omega⟩]
  have e : ((k : Int)).toNat = k := by omega
  simp only [e]
  rw [hex_get k hk]
set_option maxRecDepth 100000 in
set_option maxHeartbeats 8000000 in
theorem rlit_3 (s : ByteArray) (w : World) (hs : s.size ≤ 1000) :
    Calls Tryd.prog 22 #[valV (3, 0, s)] w fun e w' => e = .returned (.string (bstr (120 :: 39 :: (hexL (bts s) ++ [39])))) ∧ Below w.heap.size w w' := by
  obtain ⟨i0, hi0, hz0, hz1, hz2⟩ := info_parts u8_info
  have HCK := Lib.hid (rcheck0 (x := (3, 0, s)) (fits_z23 (by omega)) (chk_z23 (by omega) hs))
  have hsI : (s.size : Int) ≤ 1000 := by omega
  go_enter Tryd.func22, Tryd.ntmps22
  go_wp2_with fail
  refine (HCK.out _).mono ?_
  rintro e w1 ⟨rfl, hb1⟩
  obtain ⟨hv, hb, hsz⟩ := rlit_at hb1
  obtain ⟨d1, d2, d3⟩ := blk3 hv
  have HR := Lib.hid (show Rl w s 3 none 0 0 [] w1 from ⟨World.ownsRow_nil _ _ _ _, hv, hb, hsz, rfl⟩)
  clear hv hb hb1 hsz
  go_wp2
  go_loopw [6, 8] (fun v i wr => ∃ (j n c : Nat) (A : Option Addr), j ≤ s.size ∧ i = .int .i64 j ∧ v = .slice A n c ∧ Rl w s 3 A n c (hexL ((bts s).take j)) wr) (fun _ i _ => s.size - (intOf i).toNat)
  case atStart => exact ⟨0, 0, 0, none, by omega, rfl, rfl, HR.out⟩
  case round =>
    clear HR d1 d2 d3
    obtain ⟨j, n, c, A, hj, rfl, rfl, hr⟩ := hrel
    have d0 := rl_cell hr
    have hn2 : n ≤ 2000 := by
      have h1 := hexL_len ((bts s).take j)
      have h2 := hr.2.2.2.2
      rw [List.length_take] at h1
      omega
    by_cases hjn : j < s.size
    · have hby := byte_at s j hjn
      have h256 := bts_getD_lt s j
      have hE := hex_take hjn
      generalize (bts s).getD j 0 = b at *
      generalize hexL ((bts s).take j) = L at *
      have HE := Lib.hid hE
      have jI : (j : Int) < s.size := by omega
      have jI0 : (0 : Int) ≤ j := by omega
      have k1 : (0 : Int) ≤ (b : Int) / 16 := by omega
      have k2 : (b : Int) / 16 < 16 := by omega
      have k3 : (0 : Int) ≤ (b : Int) % 16 := by omega
      have k4 : (b : Int) % 16 < 16 := by omega
      have x1 := hex_run ((b : Int) / 16) (b / 16) (by omega) (by omega)
      have x2 := hex_run ((b : Int) % 16) (b % 16) (by omega) (by omega)
      have q1 : IntKind.u8.wrap ((b : Int) / 16) = (b : Int) / 16 := by simp [IntKind.wrap, IntKind.bits, IntKind.signed]; omega
      have q2 : IntKind.u8.wrap ((b : Int) % 16) = (b : Int) % 16 := by simp [IntKind.wrap, IntKind.bits, IntKind.signed]; omega
      have q3 : (b : Int).tmod 16 = (b : Int) % 16 := Int.tmod_eq_emod_of_nonneg (by omega)
      have HN := Lib.hid (rl_drew (rl_alloc hr (.cells #[.int .u8 (hexc (b / 16) : Nat), .int .u8 (hexc (b % 16) : Nat)] 5)))
      have hrd := reads2d wr (wr.heap.size) (.int .u8 (hexc (b / 16) : Nat)) (.int .u8 (hexc (b % 16) : Nat)) 5 rfl
      have HRD := Lib.hid hrd
      have HR0 := Lib.hid hr
      clear hr hE hrd
      go_wp2_with fail
      have hr0 := rl_drew HR0.out
      go_region_held3 (fun W => W.cell? ⟨w.heap.size, 2, none⟩ = some (.string s))
        (first | exact rl_cell hr0 | exact rl_cell HN.out | exact rl_cell HR1.out.2 | exact rl_cell (rl_alloc hr0 _))
        (((refine step_append8 _ (by rfl) (.tmp 57) (.tmp 72) 51 (by rfl) (w.heap.size + 1) 5 i0 _ 1 1 Tryd.underlying51 hi0 hz0 hz1 hz2 rfl (by omega) (.slice A n c) n (vals8 L) (by rfl) HN.out.1 (wr.heap.size + 1) (some ⟨wr.heap.size, 0, none⟩) 2 2 [.int .u8 (hexc (b / 16) : Nat), .int .u8 (hexc (b % 16) : Nat)] (by rfl) HRD.out (by intro u hu; simp at hu; rcases hu with rfl | rfl <;> rfl) (by simp only [maxLen]; omega) (by omega) HN.out.2.2.2.1 ?_; intro A1 c1 w4 hown1 hg1; obtain ⟨A2, c2, hvv, hR1⟩ := rl_grown (M := L ++ [hexc (b / 16), hexc (b % 16)]) HN.out (by rw [← vals8_app]; exact hown1) (by rw [List.length_append, ← HN.out.2.2.2.2]; rfl) hg1; (have HR1 := Lib.hid (And.intro hvv hR1)); clear hown1 hg1 hR1 hvv)))
      all_goals
        go_wp2
        go_roundw
        case rel =>
          obtain ⟨hv, hR1⟩ := HR1.out
          injection hv with e1 e2 e3
          subst e1 e3
          exact ⟨j + 1, _, _, _, by omega, by go_num, rfl, by rw [HE.out]; exact hR1⟩
        case measure => simp [intOf]; omega
    · obtain rfl : j = s.size := by omega
      have hall : (bts s).take s.size = bts s := List.take_of_length_le (by rw [bts_length]; exact Nat.le_refl _)
      rw [hall] at hr
      have hcv := rl_conv hr
      have HBB := Lib.hid hr.2.2.1
      have hl : (bstr (hexL (bts s))).size ≤ 2000 := by rw [bstr_size, ← hr.2.2.2.2]; exact hn2
      have HF := Lib.hid (show ((⟨#[120, 39]⟩ : ByteArray) ++ bstr (hexL (bts s))) ++ (⟨#[39]⟩ : ByteArray) = bstr (120 :: 39 :: (hexL (bts s) ++ [39])) by
        rw [show (⟨#[120, 39]⟩ : ByteArray) = bstr [120, 39] from rfl, show (⟨#[39]⟩ : ByteArray) = bstr [39] from rfl, bstr_app2, bstr_app2]; rfl)
      generalize bstr (hexL (bts s)) = X at *
      clear hr hall
      go_wp2
      go_ret
      exact ⟨rstr HF.out, HBB.out⟩
theorem rlit_any (x : Val) (w : World) (hf : Fits x) :
    Calls Tryd.prog 22 #[valV x] w fun e w' => e = .returned (.string (bstr (litL x))) ∧ Below w.heap.size w w' := by
  obtain ⟨p, q, s⟩ := x
  by_cases hc : chk (p, q, s) = 0
  · obtain ⟨k1, k2, k3, k4⟩ := chk_of hc
    obtain ⟨f1, f2, f3, f4⟩ := hf
    simp only at k1 k2 k3 k4 f1 f2 f3 f4
    unfold litL
    rw [if_neg (by rw [hc]; simp)]
    simp only
    by_cases p0 : p = 0
    · subst p0
      have e1 := k2 (by omega)
      have e2 := empty_of (k3 (by omega))
      subst e1 e2
      rw [if_pos rfl]
      exact rlit_0 w
    · rw [if_neg p0]
      by_cases p1 : p = 1
      · subst p1
        have e2 := empty_of (k3 (by omega))
        subst e2
        rw [if_pos rfl]
        exact rlit_1 q w f3 f4
      · rw [if_neg p1]
        have e1 := k2 p1
        subst e1
        by_cases p2 : p = 2
        · subst p2
          rw [if_pos rfl]
          exact rlit_2 s w k4
        · obtain rfl : p = 3 := by omega
          rw [if_neg p2]
          exact rlit_3 s w k4
  · have h := rlit_bad p q s w hf hc
    unfold litL
    rw [if_pos hc]
    exact h
end Go.Proofs.YtlbalhiiamenfaaDoor
