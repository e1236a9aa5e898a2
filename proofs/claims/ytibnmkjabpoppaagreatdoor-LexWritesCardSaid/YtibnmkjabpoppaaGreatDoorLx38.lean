/- Layer 13: counterfoilref07's digits and literals of texts and blobs; ref13.Text. Conditions: those of each lemma. -/
import Derived.Test.YtibnmkjabpoppaaGreatDoorLx35
import Derived.Deep.RegionHeld3
import Derived.Deep.RegionLaw
import Derived.Deep.RegionWith
namespace Go.Proofs.YtibnmkjabpoppaaGreatDoor
open Go Go.RowKit
set_option linter.unusedVariables false
set_option linter.unusedSimpArgs false
set_option maxRecDepth 100000 in
set_option maxHeartbeats 2000000 in
theorem rchk23 (k : Int) (s : ByteArray) (w : World) (hk : k = 2 ∨ k = 3) (hs : s.size ≤ 1000) :
    Calls Tryz.prog 55 #[.agg #[.int .u8 k, .int .i64 0, .string s]] w fun e w' => e = .returned (.int .i64 0) ∧ Below w.heap.size w w' := by
  have hb1 : ∀ {o : Obj}, Below w.heap.size w (w.alloc o) := (Below.refl _ _).alloc (Nat.le_refl _) _
  have h2' : (s.size : Int) ≤ 1000 := by omega
  clear hs
  rcases hk with rfl | rfl
  all_goals
    go_enter Tryz.func55, Tryz.ntmps55
    go_wp2
    go_ret
    exact ⟨rfl, hb1⟩
theorem conv_one (W : World) (g n : Nat) (z : Int) (hg : W.heap.size = g) (hz : z = n) : (convert 36 9 (.slice (some ⟨g, 0, none⟩) 1 1)).run Tryz.prog (W.alloc (.cells #[.int .u8 z] 5)) = .ok (.string (bstr [n])) (W.alloc (.cells #[.int .u8 z] 5)) := by
  subst hg hz
  have hcv := run_convert_bytes_arg (P := Tryz.prog) (W.alloc (.cells #[.int .u8 (n : Int)] 5)) 36 5 Tryz.underlying36 Tryz.underlying5 W.heap.size 0 1 1 ([n].map Int.ofNat) (by simp) (fun i hi => by
    obtain rfl : i = 0 := by omega
    exact (Blk.new W 5 #[.int .u8 (n : Int)]).cell 0) 9 Tryz.underlying9
  rw [bstr_nums] at hcv
  exact hcv
theorem bstr_app2 (a b : List Nat) : bstr a ++ bstr b = bstr (a ++ b) := by
  simp [bstr, ByteArray.ext_iff]
set_option maxRecDepth 100000 in
set_option maxHeartbeats 4000000 in
theorem pos_any : ∀ (T o : Nat), T ≤ 922337203685477580 → o ≤ 9 → ∀ w : World,
    Calls Tryz.prog 54 #[.int .i64 (T : Int), .int .i64 (o : Int)] w fun e w' => e = .returned (.string (bstr (digL (10 * T + o)))) ∧ Below w.heap.size w w' := by
  intro T
  induction T using Nat.strongRecOn with
  | ind T ih =>
    intro o hT ho w
    have hcv := conv_one w w.heap.size (48 + o) (48 + (o : Int)) rfl (by omega)
    by_cases h0 : T = 0
    · subst h0
      have HR := Lib.hid (show digL (10 * 0 + o) = [48 + o] by rw [digL_small (by omega)]; congr 1; omega)
      clear ih
      go_enter Tryz.func54, Tryz.ntmps54
      go_wp2
      go_ret
      exact ⟨rstr (by rw [HR.out]), (Below.refl _ _).alloc (Nat.le_refl _) _⟩
    · have h0I : ((T : Int) == 0) = false := by rw [beq_eq_false_iff_ne]; omega
      have hih : ∀ w : World, Calls Tryz.prog 54 #[.int .i64 ((T : Int) / 10), .int .i64 ((T : Int) % 10)] w fun e w' => e = .returned (.string (bstr (digL T))) ∧ Below w.heap.size w w' := fun W => by
        have h := ih (T / 10) (by omega) (T % 10) (by omega) (by omega) W
        rw [show 10 * (T / 10) + T % 10 = T from by omega] at h
        exact h
      have hlen := digL_len 18 T (by omega) (by have : (10 : Nat) ^ 18 = 1000000000000000000 := by decide
                                                omega)
      have hs1 : (bstr (digL T)).size ≤ 18 := by rw [bstr_size]; exact hlen
      have HR := Lib.hid (show bstr (digL T) ++ bstr [48 + o] = bstr (digL (10 * T + o)) by
        rw [bstr_app2, digL_big (u := 10 * T + o) (by omega), show (10 * T + o) / 10 = T from by omega, show 48 + (10 * T + o) % 10 = 48 + o from by omega])
      have hs2 : (bstr [48 + o]).size = 1 := by rw [bstr_size]; rfl
      generalize bstr (digL T) = X at *
      generalize bstr [48 + o] = Y at *
      have HI := Lib.hid hih
      have hb0 : Below w.heap.size w (w.alloc (.cells #[.int .u8 (48 + (o : Int))] 5)) := (Below.refl _ _).alloc (Nat.le_refl _) _
      have HB0 := Lib.hid hb0
      have z1 : X.size + Y.size ≤ 9223372036854775807 ∧ ¬ (9223372036854775807 < X.size + Y.size) ∧ (X.size : Int) + Y.size ≤ 9223372036854775807 := by omega
      obtain ⟨z1, z2, z3⟩ := z1
      clear ih hih hlen hb0 hs1 hs2
      go_enter Tryz.func54, Tryz.ntmps54
      go_wp2_with fail
      refine (HI.out _).mono ?_
      rintro e w2 ⟨rfl, hb2⟩
      go_wp2
      go_ret
      exact ⟨rstr HR.out, bj HB0.out hb2⟩
set_option maxRecDepth 100000 in
set_option maxHeartbeats 4000000 in
theorem digits_nn (u : Nat) (w : World) (h1 : u ≤ 9223372036854775807) :
    Calls Tryz.prog 25 #[.int .i64 (u : Int)] w fun e w' => e = .returned (.string (bstr (decL u))) ∧ Below w.heap.size w w' := by
  have hp : ∀ w : World, Calls Tryz.prog 54 #[.int .i64 ((u : Int) / 10), .int .i64 ((u : Int) % 10)] w fun e w' => e = .returned (.string (bstr (decL u))) ∧ Below w.heap.size w w' := fun W => by
    have h := pos_any (u / 10) (u % 10) (by omega) (by omega) W
    rw [show 10 * (u / 10) + u % 10 = u from by omega] at h
    exact h
  have HP := Lib.hid hp
  have h1' : (0 : Int) ≤ u := by omega
  have h1b : (u : Int) ≤ 9223372036854775807 := by omega
  generalize bstr (decL u) = X at *
  clear hp
  go_enter Tryz.func25, Tryz.ntmps25
  go_wp2_with fail
  refine (HP.out _).mono ?_
  rintro e w2 ⟨rfl, hb2⟩
  go_wp2
  go_ret
  exact ⟨rfl, hb2⟩
theorem blk3_13 {W : World} {g : Nat} {k q : Int} {s : ByteArray} (h : Blk W g 66 #[.int .u8 k, .int .i64 q, .string s]) : W.cell? ⟨g, 0, none⟩ = some (.int .u8 k) ∧ W.cell? ⟨g, 1, none⟩ = some (.int .i64 q) ∧ W.cell? ⟨g, 2, none⟩ = some (.string s) := ⟨h.cell 0, h.cell 1, h.cell 2⟩
theorem vals8_app (l m : List Nat) : vals8 l ++ vals8 m = vals8 (l ++ m) := by simp [vals8]
/-- behind the check the value stands -/
theorem rlit_at {w w1 : World} {p q : Int} {s : ByteArray} (hb1 : Below (w.alloc (.cells #[.int .u8 p, .int .i64 q, .string s] 66)).heap.size (w.alloc (.cells #[.int .u8 p, .int .i64 q, .string s] 66)) w1) :
    Blk w1 w.heap.size 66 #[.int .u8 p, .int .i64 q, .string s] ∧ Below w.heap.size w w1 ∧ w.heap.size + 1 ≤ w1.heap.size :=
  ⟨blk_at hb1, bja _ (Below.refl _ _) hb1, by have := hb1.size; simpa using this⟩
theorem dqL_app (a b : List Nat) : dqL (a ++ b) = dqL a ++ dqL b := by
  induction a with
  | nil => rfl
  | cons c r ih => simp only [List.cons_append, dqL]; split <;> simp [ih]
theorem dq_take {s : ByteArray} {j : Nat} (h : j < s.size) : dqL ((bts s).take (j + 1)) = dqL ((bts s).take j) ++ dqL [(bts s).getD j 0] := by
  rw [List.take_succ_eq_append_getElem (by rw [bts_length]; exact h), List.getD_eq_getElem?_getD, List.getElem?_eq_getElem (by rw [bts_length]; exact h), dqL_app]; rfl
/-- a row of bytes that the call owns, with the value that stands -/
def Rl (w : World) (s : ByteArray) (k : Int) (A : Option Addr) (n c : Nat) (L : List Nat) (W : World) : Prop :=
  W.ownsRow (w.heap.size + 1) 5 1 (.slice A n c) n (vals8 L) ∧ Blk W w.heap.size 66 #[.int .u8 k, .int .i64 0, .string s] ∧ Below w.heap.size w W ∧ w.heap.size + 1 ≤ W.heap.size ∧ n = L.length
theorem rl_cell {w W : World} {s : ByteArray} {k : Int} {A : Option Addr} {n c : Nat} {L : List Nat} (h : Rl w s k A n c L W) : W.cell? ⟨w.heap.size, 2, none⟩ = some (.string s) := h.2.1.cell 2
theorem rl_alloc {w W : World} {s : ByteArray} {k : Int} {A : Option Addr} {n c : Nat} {L : List Nat} (h : Rl w s k A n c L W) (o : Obj) : Rl w s k A n c L (W.alloc o) :=
  ⟨own_below h.1 ((Below.refl W.heap.size W).alloc (Nat.le_refl _) o), h.2.1.alloc o, h.2.2.1.alloc h.2.2.1.size o, by have := h.2.2.2.1; simp; omega, h.2.2.2.2⟩
theorem rl_grown {w W W' : World} {s : ByteArray} {k : Int} {A : Option Addr} {n c : Nat} {L M : List Nat} {v : Value} {m : Nat} (h : Rl w s k A n c L W) (ho : W'.ownsRow (w.heap.size + 1) 5 1 v m (vals8 M)) (hm : m = M.length) (hg : W.grownBy W' (Value.slice A n c).ownBlock) :
    ∃ A' c', v = .slice A' m c' ∧ Rl w s k A' m c' M W' := by
  obtain ⟨A', c', rfl⟩ := own_form ho
  have hlt : ∀ z, (Value.slice A n c).ownBlock = some z → w.heap.size + 1 ≤ z ∧ z < W.heap.size := fun z hz => h.1.lt z hz
  refine ⟨A', c', rfl, ho, h.2.1.grown hg (fun e => by have := hlt _ e.symm; omega), h.2.2.1.grown hg (by have := h.2.2.2.1; omega) (fun z hz => by have := hlt z hz; omega), Nat.le_trans h.2.2.2.1 hg.size, hm⟩
theorem rl_conv {w W : World} {s : ByteArray} {k : Int} {A : Option Addr} {n c : Nat} {L : List Nat} (h : Rl w s k A n c L W) :
    (convert 36 9 (.slice A n c)).run Tryz.prog W = .ok (.string (bstr L)) W := by
  obtain ⟨h1, _, _, _, rfl⟩ := h
  exact conv_own h1
set_option maxRecDepth 100000 in
set_option maxHeartbeats 8000000 in
theorem rlit_2 (s : ByteArray) (w : World) (hs : s.size ≤ 1000) :
    Calls Tryz.prog 26 #[.agg #[.int .u8 2, .int .i64 0, .string s]] w fun e w' => e = .returned (.string (bstr (39 :: (dqL (bts s) ++ [39])))) ∧ Below w.heap.size w w' := by
  obtain ⟨i0, hi0, hz0, hz1, hz2⟩ := info_parts u8_info
  have HCK := Lib.hid (fun W => rchk23 2 s W (.inl rfl) hs)
  have hsI : (s.size : Int) ≤ 1000 := by omega
  go_enter Tryz.func26, Tryz.ntmps26
  go_wp2_with fail
  refine (HCK.out _).mono ?_
  rintro e w1 ⟨rfl, hb1⟩
  obtain ⟨hv, hb, hsz⟩ := rlit_at hb1
  obtain ⟨d1, d2, d3⟩ := blk3_13 hv
  have HR := Lib.hid (show Rl w s 2 none 0 0 [] w1 from ⟨World.ownsRow_nil _ _ _ _, hv, hb, hsz, rfl⟩)
  clear hv hb hb1 hsz
  go_wp2
  go_loopw [4, 5] (fun v i wr => ∃ (j n c : Nat) (A : Option Addr), j ≤ s.size ∧ i = .int .i64 j ∧ v = .slice A n c ∧ Rl w s 2 A n c (dqL ((bts s).take j)) wr) (fun _ i _ => s.size - (intOf i).toNat)
  case atStart => exact ⟨0, 0, 0, none, by omega, rfl, rfl, HR.out⟩
  case round =>
    clear HR d1 d2 d3
    obtain ⟨j, n, c, A, hj, rfl, rfl, hr⟩ := hrel
    have d0 := rl_cell hr
    have hn2 : n ≤ 2000 := by
      have h1 := (dqL_le ((bts s).take j)).2
      have h2 := hr.2.2.2.2
      rw [List.length_take] at h1
      omega
    by_cases hjn : j < s.size
    · have hby := byte_at s j hjn
      have h256 := bts_getD_lt s j
      have hE := dq_take hjn
      generalize (bts s).getD j 0 = b at *
      generalize dqL ((bts s).take j) = L at *
      have HE := Lib.hid hE
      have jI : (j : Int) < s.size := by omega
      have HN := Lib.hid (rl_alloc hr (.cells #[.int .u8 (b : Nat)] 5))
      have HN39 := Lib.hid (rl_alloc hr (.cells #[.int .u8 39] 5))
      clear hr hE
      by_cases hb : b = 39
      · have hbI : ((b : Int) == 39) = true := by rw [hb]; rfl
        have HB := Lib.hid hb
        clear hb HN
        go_wp2_with (first
          | (at_builtin; refine wpList_append_any _ rfl (.tmp 34) (.tmp 35) 36 rfl (w.heap.size + 1) 5 i0 _ 1 1 Tryz.underlying36 hi0 hz0 hz1 hz2 rfl (by omega) _ n (vals8 L) rfl HN39.out.1 (wr.heap.size + 1) (some ⟨wr.heap.size, 0, none⟩) 1 1 [Value.int .u8 39] rfl (reads1 wr _ _ _ rfl) (by intro u hu; simp at hu; rw [hu]; rfl) (by simp only [maxLen]; omega) (by omega) HN39.out.2.2.2.1 ?_; intro v1 w4 hown1 hg1 hat1; obtain ⟨A1, c1, rfl, hR1⟩ := rl_grown (M := L ++ [39]) HN39.out (by rw [← vals8_snoc]; exact hown1) (by rw [List.length_append, ← HN39.out.2.2.2.2]; rfl) hg1; (have d4 := rl_cell hR1); (have HN2 := Lib.hid (rl_alloc hR1 (.cells #[.int .u8 (b : Nat)] 5))); clear hown1 hg1 hat1 hR1)
          | (at_builtin; refine wpList_append_any _ rfl (.tmp 37) (.tmp 42) 36 rfl (w.heap.size + 1) 5 i0 _ 1 1 Tryz.underlying36 hi0 hz0 hz1 hz2 rfl (by omega) _ (n + 1) (vals8 (L ++ [39])) rfl HN2.out.1 (w4.heap.size + 1) (some ⟨w4.heap.size, 0, none⟩) 1 1 [Value.int .u8 b] rfl (reads1 w4 _ _ _ rfl) (by intro u hu; simp at hu; rw [hu]; rfl) (by simp only [maxLen]; omega) (by omega) HN2.out.2.2.2.1 ?_; intro v2 w6 hown2 hg2 hat2; obtain ⟨A2, c2, rfl, hR2⟩ := rl_grown (M := (L ++ [39]) ++ [b]) HN2.out (by rw [← vals8_snoc]; exact hown2) (by rw [List.length_append, ← HN2.out.2.2.2.2]; rfl) hg2; (have HR2 := Lib.hid hR2); clear hown2 hg2 hat2 hR2))
        go_wp2
        go_roundw
        case rel => exact ⟨j + 1, _, c2, A2, by omega, by go_num, rfl, by rw [HE.out, HB.out]; have h := HR2.out; rw [HB.out] at h; simpa [dqL] using h⟩
        case measure => simp [intOf]; omega
      · have hbI : ((b : Int) == 39) = false := by rw [beq_eq_false_iff_ne]; omega
        have HB := Lib.hid hb
        clear hb HN39
        go_wp2_with (at_builtin; refine wpList_append_any _ rfl (.tmp 37) (.tmp 42) 36 rfl (w.heap.size + 1) 5 i0 _ 1 1 Tryz.underlying36 hi0 hz0 hz1 hz2 rfl (by omega) _ n (vals8 L) rfl HN.out.1 (wr.heap.size + 1) (some ⟨wr.heap.size, 0, none⟩) 1 1 [Value.int .u8 b] rfl (reads1 wr _ _ _ rfl) (by intro u hu; simp at hu; rw [hu]; rfl) (by simp only [maxLen]; omega) (by omega) HN.out.2.2.2.1 ?_; intro v2 w6 hown2 hg2 hat2; obtain ⟨A2, c2, rfl, hR2⟩ := rl_grown (M := L ++ [b]) HN.out (by rw [← vals8_snoc]; exact hown2) (by rw [List.length_append, ← HN.out.2.2.2.2]; rfl) hg2; (have HR2 := Lib.hid hR2); clear hown2 hg2 hat2 hR2)
        go_wp2
        go_roundw
        case rel => exact ⟨j + 1, _, c2, A2, by omega, by go_num, rfl, by rw [HE.out]; have h := HR2.out; simpa [dqL, HB.out] using h⟩
        case measure => simp [intOf]; omega
    · obtain rfl : j = s.size := by omega
      have hall : (bts s).take s.size = bts s := List.take_of_length_le (by rw [bts_length]; exact Nat.le_refl _)
      rw [hall] at hr
      have hcv := rl_conv hr
      have HBB := Lib.hid hr.2.2.1
      have hl : (bstr (dqL (bts s))).size ≤ 2000 := by rw [bstr_size, ← hr.2.2.2.2]; exact hn2
      have HF := Lib.hid (show ((⟨#[39]⟩ : ByteArray) ++ bstr (dqL (bts s))) ++ (⟨#[39]⟩ : ByteArray) = bstr (39 :: (dqL (bts s) ++ [39])) by
        rw [show (⟨#[39]⟩ : ByteArray) = bstr [39] from rfl, bstr_app2, bstr_app2]; rfl)
      generalize bstr (dqL (bts s)) = X at *
      clear hr hall
      go_wp2
      go_ret
      exact ⟨rstr HF.out, HBB.out⟩
theorem step_append8 {P : Program} (w : World) {ops : Array Oper} {o : Oper} {a : Act} {K : Act → World → Prop} {Q : Exit → Act → World → Prop} {E : Prop} (hgd : o.guard = none) (s x : Operand) (t : TypeId)
    (ho : o.op = .call { callee := .builtin .append, args := #[s, x], argTypes := #[t, t] })
    (base : Nat) (e : TypeId) (i : TypeInfo) (z : Value) (size bytes : Nat) (ht : P.underlying t = some (.slice e)) (hi : P.info? e = some i) (hz : i.zero = some z)
    (hsize : i.size = size) (hby : i.bytes = bytes) (hzs : z.cells.size = size) (hsz : 0 < size)
    (v : Value) (n : Nat) (xs : List Value) (hs : a.eval s = v) (hown : w.ownsRow base e size v n xs)
    (B : Nat) (A : Option Addr) (m c : Nat) (news : List Value) (hx : a.eval x = .slice A m c) (hr : Reads w B size A m news) (h1 : ∀ u ∈ news, u.oneCell' = true)
    (h63 : n + m ≤ maxLen) (hbytes : (n + m) * bytes ≤ 140737488355328) (hbase : base ≤ w.heap.size)
    (h : ∀ A' c' w', w'.ownsRow base e size (.slice A' (n + m) c') (n + m) (xs ++ news) → w.grownBy w' v.ownBlock → K (a.put o.dst (.slice A' (n + m) c')) w') :
    if Region.wanted o (yielded ops a.tmps) = true then Oper.wp P o a w K Q else E := by
  have hw : Region.wanted o (yielded ops a.tmps) = true := by simp [Region.wanted, hgd]
  rw [if_pos hw]
  refine wp_append_any w s x t ho base e i z size bytes ht hi hz hsize hby hzs hsz v n xs hs hown B A m c news hx hr h1 h63 hbytes hbase fun v' w' h2 h3 h4 => ?_
  obtain ⟨A', c', rfl⟩ := own_form h2
  exact h A' c' w' h2 h3
theorem rl_drew {w W : World} {s : ByteArray} {k : Int} {A : Option Addr} {n c : Nat} {L : List Nat} (h : Rl w s k A n c L W) : Rl w s k A n c L W.drew := ⟨own_below h.1 ((Below.refl W.heap.size W).drew), h.2.1.drew, h.2.2.1.drew, h.2.2.2.1, h.2.2.2.2⟩
theorem reads2d (W : World) (g : Nat) (x y : Value) (t : TypeId) (hg : W.heap.size = g) : Reads (W.alloc (.cells #[x, y] t)).drew (g + 1) 1 (some ⟨g, 0, none⟩) 2 [x, y] := by
  subst hg
  refine ⟨rfl, fun _ => ⟨_, rfl, by simp, fun j v hj => ?_⟩⟩
  have hb := (Blk.new W t #[x, y]).drew
  match j, hj with
  | 0, hj => simp at hj; subst hj; exact hb.cell 0
  | 1, hj => simp at hj; subst hj; exact hb.cell 1
theorem rl_S {w W : World} {s : ByteArray} {k : Int} {A : Option Addr} {n c : Nat} {L : List Nat} (h : Rl w s k A n c L W) : W.cell? ⟨w.heap.size, 2, none⟩ = some (.string s) ∧ Rl w s k A n c L W := ⟨rl_cell h, h⟩
theorem hex_take {s : ByteArray} {j : Nat} (h : j < s.size) : hexL ((bts s).take (j + 1)) = hexL ((bts s).take j) ++ [hexc ((bts s).getD j 0 / 16), hexc ((bts s).getD j 0 % 16)] := by
  rw [List.take_succ_eq_append_getElem (by rw [bts_length]; exact h), List.getD_eq_getElem?_getD, List.getElem?_eq_getElem (by rw [bts_length]; exact h), hexL_app]; rfl
theorem hex_run (z : Int) (k : Nat) (hz : z = k) (hk : k < 16) (W : World) : (Instr.index 9 (.string ⟨#[48, 49, 50, 51, 52, 53, 54, 55, 56, 57, 97, 98, 99, 100, 101, 102]⟩) (.int .u8 z)).run Tryz.prog W = .ok (.int .u8 (hexc k : Nat)) W := by
  subst hz
  have e16 : (⟨#[48, 49, 50, 51, 52, 53, 54, 55, 56, 57, 97, 98, 99, 100, 101, 102]⟩ : ByteArray).size = 16 := rfl
  rw [run_index_string W 9 _ .u8 _ Tryz.underlying9, dif_pos ⟨by omega, by rw [e16]; omega⟩]
  have e : ((k : Int)).toNat = k := by omega
  simp only [e]
  rw [hex_get k hk]
set_option maxRecDepth 100000 in
set_option maxHeartbeats 8000000 in
theorem rlit_3 (s : ByteArray) (w : World) (hs : s.size ≤ 1000) :
    Calls Tryz.prog 26 #[.agg #[.int .u8 3, .int .i64 0, .string s]] w fun e w' => e = .returned (.string (bstr (120 :: 39 :: (hexL (bts s) ++ [39])))) ∧ Below w.heap.size w w' := by
  obtain ⟨i0, hi0, hz0, hz1, hz2⟩ := info_parts u8_info
  have HCK := Lib.hid (fun W => rchk23 3 s W (.inr rfl) hs)
  have hsI : (s.size : Int) ≤ 1000 := by omega
  go_enter Tryz.func26, Tryz.ntmps26
  go_wp2_with fail
  refine (HCK.out _).mono ?_
  rintro e w1 ⟨rfl, hb1⟩
  obtain ⟨hv, hb, hsz⟩ := rlit_at hb1
  obtain ⟨d1, d2, d3⟩ := blk3_13 hv
  have HR := Lib.hid (show Rl w s 3 none 0 0 [] w1 from ⟨World.ownsRow_nil _ _ _ _, hv, hb, hsz, rfl⟩)
  clear hv hb hb1 hsz
  go_wp2
  go_loopw [6, 8] (fun v i wr => ∃ (j n c : Nat) (A : Option Addr), j ≤ s.size ∧ i = .int .i64 j ∧ v = .slice A n c ∧ Rl w s 3 A n c (hexL ((bts s).take j)) wr) (fun _ i _ => s.size - (intOf i).toNat)
  case atStart => exact ⟨0, 0, 0, none, by omega, rfl, rfl, HR.out⟩
  case round =>
    clear HR d1 d2 d3
    obtain ⟨j, n, c, A, hj, rfl, rfl, hr⟩ := hrel
    have d0 := rl_cell hr
    have hn2 : n ≤ 2000 := by
      have h1 := hexL_len ((bts s).take j)
      have h2 := hr.2.2.2.2
      rw [List.length_take] at h1
      omega
    by_cases hjn : j < s.size
    · have hby := byte_at s j hjn
      have h256 := bts_getD_lt s j
      have hE := hex_take hjn
      generalize (bts s).getD j 0 = b at *
      generalize hexL ((bts s).take j) = L at *
      have HE := Lib.hid hE
      have jI : (j : Int) < s.size := by omega
      have jI0 : (0 : Int) ≤ j := by omega
      have k1 : (0 : Int) ≤ (b : Int) / 16 := by omega
      have k2 : (b : Int) / 16 < 16 := by omega
      have k3 : (0 : Int) ≤ (b : Int) % 16 := by omega
      have k4 : (b : Int) % 16 < 16 := by omega
      have x1 := hex_run ((b : Int) / 16) (b / 16) (by omega) (by omega)
      have x2 := hex_run ((b : Int) % 16) (b % 16) (by omega) (by omega)
      have q1 : IntKind.u8.wrap ((b : Int) / 16) = (b : Int) / 16 := by simp [IntKind.wrap, IntKind.bits, IntKind.signed]; omega
      have q2 : IntKind.u8.wrap ((b : Int) % 16) = (b : Int) % 16 := by simp [IntKind.wrap, IntKind.bits, IntKind.signed]; omega
      have q3 : (b : Int).tmod 16 = (b : Int) % 16 := Int.tmod_eq_emod_of_nonneg (by omega)
      have HN := Lib.hid (rl_drew (rl_alloc hr (.cells #[.int .u8 (hexc (b / 16) : Nat), .int .u8 (hexc (b % 16) : Nat)] 5)))
      have hrd := reads2d wr (wr.heap.size) (.int .u8 (hexc (b / 16) : Nat)) (.int .u8 (hexc (b % 16) : Nat)) 5 rfl
      have HRD := Lib.hid hrd
      have HR0 := Lib.hid hr
      clear hr hE hrd
      go_wp2_with fail
      have hr0 := rl_drew HR0.out
      go_region_held3 (fun W => W.cell? ⟨w.heap.size, 2, none⟩ = some (.string s))
        (first | exact rl_cell hr0 | exact rl_cell HN.out | exact rl_cell HR1.out.2 | exact rl_cell (rl_alloc hr0 _))
        (((refine step_append8 _ (by rfl) (.tmp 57) (.tmp 72) 36 (by rfl) (w.heap.size + 1) 5 i0 _ 1 1 Tryz.underlying36 hi0 hz0 hz1 hz2 rfl (by omega) (.slice A n c) n (vals8 L) (by rfl) HN.out.1 (wr.heap.size + 1) (some ⟨wr.heap.size, 0, none⟩) 2 2 [.int .u8 (hexc (b / 16) : Nat), .int .u8 (hexc (b % 16) : Nat)] (by rfl) HRD.out (by intro u hu; simp at hu; rcases hu with rfl | rfl <;> rfl) (by simp only [maxLen]; omega) (by omega) HN.out.2.2.2.1 ?_; intro A1 c1 w4 hown1 hg1; obtain ⟨A2, c2, hvv, hR1⟩ := rl_grown (M := L ++ [hexc (b / 16), hexc (b % 16)]) HN.out (by rw [← vals8_app]; exact hown1) (by rw [List.length_append, ← HN.out.2.2.2.2]; rfl) hg1; (have HR1 := Lib.hid (And.intro hvv hR1)); clear hown1 hg1 hR1 hvv)))
      all_goals
        go_wp2
        go_roundw
        case rel =>
          obtain ⟨hv, hR1⟩ := HR1.out
          injection hv with e1 e2 e3
          subst e1 e3
          exact ⟨j + 1, _, _, _, by omega, by go_num, rfl, by rw [HE.out]; exact hR1⟩
        case measure => simp [intOf]; omega
    · obtain rfl : j = s.size := by omega
      have hall : (bts s).take s.size = bts s := List.take_of_length_le (by rw [bts_length]; exact Nat.le_refl _)
      rw [hall] at hr
      have hcv := rl_conv hr
      have HBB := Lib.hid hr.2.2.1
      have hl : (bstr (hexL (bts s))).size ≤ 2000 := by rw [bstr_size, ← hr.2.2.2.2]; exact hn2
      have HF := Lib.hid (show ((⟨#[120, 39]⟩ : ByteArray) ++ bstr (hexL (bts s))) ++ (⟨#[39]⟩ : ByteArray) = bstr (120 :: 39 :: (hexL (bts s) ++ [39])) by
        rw [show (⟨#[120, 39]⟩ : ByteArray) = bstr [120, 39] from rfl, show (⟨#[39]⟩ : ByteArray) = bstr [39] from rfl, bstr_app2, bstr_app2]; rfl)
      generalize bstr (hexL (bts s)) = X at *
      clear hr hall
      go_wp2
      go_ret
      exact ⟨rstr HF.out, HBB.out⟩
set_option maxRecDepth 100000 in
set_option maxHeartbeats 4000000 in
theorem rtxt_same (k : Nat) (x : ByteArray) (n : Nat) (p : Int) (w : World) (hk : k = 1 ∨ k = 2 ∨ k = 6) : Calls Tryz.prog 13 #[.agg #[.int .u8 k, .string x, .int .u64 n, .int .i64 p]] w fun e w' => e = .returned (.string (refY k x n)) ∧ Below w.heap.size w w' := by
  have HB := Lib.hid (Blk.new w 34 #[.int .u8 k, .string x, .int .u64 n, .int .i64 p])
  obtain ⟨c0, c1, c2, c3⟩ := cell4b HB.out
  have HW := Lib.hid (one_alloc (w := w) (o := (.cells #[.int .u8 k, .string x, .int .u64 n, .int .i64 p] 34)))
  have HR := Lib.hid (show refY k x n = x by unfold refY; rw [if_neg (by omega), if_neg (by omega), if_neg (by omega), if_pos (by omega)])
  have k3 : ((k : Int) == 3) = false := beq_no13 (by omega)
  have k4 : ((k : Int) == 4) = false := beq_no13 (by omega)
  have k5 : ((k : Int) == 5) = false := beq_no13 (by omega)
  rcases hk with hk | hk | hk
  · have k1 : ((k : Int) == 1) = true := by rw [beq_iff_eq]; omega
    clear hk
    go_enter Tryz.func13, Tryz.ntmps13
    go_wp2
    go_ret
    exact ⟨by rw [HR.out]; rfl, HW.out⟩
  · have k2 : ((k : Int) == 2) = true := by rw [beq_iff_eq]; omega
    have k1 : ((k : Int) == 1) = false := beq_no13 (by omega)
    clear hk
    go_enter Tryz.func13, Tryz.ntmps13
    go_wp2
    go_ret
    exact ⟨by rw [HR.out]; rfl, HW.out⟩
  · have k6 : ((k : Int) == 6) = true := by rw [beq_iff_eq]; omega
    have k1 : ((k : Int) == 1) = false := beq_no13 (by omega)
    have k2 : ((k : Int) == 2) = false := beq_no13 (by omega)
    clear hk
    go_enter Tryz.func13, Tryz.ntmps13
    go_wp2
    go_ret
    exact ⟨by rw [HR.out]; rfl, HW.out⟩
set_option maxRecDepth 100000 in
set_option maxHeartbeats 4000000 in
theorem rtxt_none (k : Nat) (x : ByteArray) (n : Nat) (p : Int) (w : World) (hk : ¬ (k = 1 ∨ k = 2 ∨ k = 3 ∨ k = 4 ∨ k = 5 ∨ k = 6)) : Calls Tryz.prog 13 #[.agg #[.int .u8 k, .string x, .int .u64 n, .int .i64 p]] w fun e w' => e = .returned (.string (refY k x n)) ∧ Below w.heap.size w w' := by
  have HB := Lib.hid (Blk.new w 34 #[.int .u8 k, .string x, .int .u64 n, .int .i64 p])
  obtain ⟨c0, c1, c2, c3⟩ := cell4b HB.out
  have HW := Lib.hid (one_alloc (w := w) (o := (.cells #[.int .u8 k, .string x, .int .u64 n, .int .i64 p] 34)))
  have HR := Lib.hid (show refY k x n = ⟨#[]⟩ by unfold refY; rw [if_neg (by omega), if_neg (by omega), if_neg (by omega), if_neg (by omega)])
  have k1 : ((k : Int) == 1) = false := beq_no13 (by omega)
  have k2 : ((k : Int) == 2) = false := beq_no13 (by omega)
  have k3 : ((k : Int) == 3) = false := beq_no13 (by omega)
  have k4 : ((k : Int) == 4) = false := beq_no13 (by omega)
  have k5 : ((k : Int) == 5) = false := beq_no13 (by omega)
  have k6 : ((k : Int) == 6) = false := beq_no13 (by omega)
  clear hk
  go_enter Tryz.func13, Tryz.ntmps13
  go_wp2
  go_ret
  exact ⟨by rw [HR.out]; rfl, HW.out⟩
set_option maxRecDepth 100000 in
set_option maxHeartbeats 4000000 in
theorem rtxt_long (k : Nat) (x : ByteArray) (n : Nat) (p : Int) (w : World) (hk : k = 4 ∨ k = 5) (hx : 1000 < x.size) : Calls Tryz.prog 13 #[.agg #[.int .u8 k, .string x, .int .u64 n, .int .i64 p]] w fun e w' => e = .returned (.string (refY k x n)) ∧ Below w.heap.size w w' := by
  have HB := Lib.hid (Blk.new w 34 #[.int .u8 k, .string x, .int .u64 n, .int .i64 p])
  obtain ⟨c0, c1, c2, c3⟩ := cell4b HB.out
  have HW := Lib.hid (one_alloc (w := w) (o := (.cells #[.int .u8 k, .string x, .int .u64 n, .int .i64 p] 34)))
  have HR := Lib.hid (show refY k x n = ⟨#[]⟩ by unfold refY; rcases hk with rfl | rfl <;> simp [hx])
  have hxI : (1000 : Int) < x.size := by omega
  clear hx
  have k3 : ((k : Int) == 3) = false := beq_no13 (by omega)
  rcases hk with hk | hk
  · have k4 : ((k : Int) == 4) = true := by rw [beq_iff_eq]; omega
    clear hk
    go_enter Tryz.func13, Tryz.ntmps13
    go_wp2
    go_ret
    exact ⟨by rw [HR.out]; rfl, HW.out⟩
  · have k5 : ((k : Int) == 5) = true := by rw [beq_iff_eq]; omega
    have k4 : ((k : Int) == 4) = false := beq_no13 (by omega)
    clear hk
    go_enter Tryz.func13, Tryz.ntmps13
    go_wp2
    go_ret
    exact ⟨by rw [HR.out]; rfl, HW.out⟩
theorem dec_size (n : Nat) (hn : n < 18446744073709551616) : (bstr (decL n)).size ≤ 300000 := by
  have h3 := wrT_size 3 n ⟨#[]⟩ (by decide) hn
  unfold wrT at h3
  simpa only [↓reduceIte] using h3
set_option maxRecDepth 100000 in
set_option maxHeartbeats 4000000 in
theorem rtxt_num (x : ByteArray) (n : Nat) (p : Int) (w : World) (hn : n < 18446744073709551616) : Calls Tryz.prog 13 #[.agg #[.int .u8 3, .string x, .int .u64 n, .int .i64 p]] w fun e w' => e = .returned (.string (refY 3 x n)) ∧ Below w.heap.size w w' := by
  have HB := Lib.hid (Blk.new w 34 #[.int .u8 3, .string x, .int .u64 n, .int .i64 p])
  obtain ⟨c0, c1, c2, c3⟩ := cell4b HB.out
  have HW := Lib.hid (one_alloc (w := w) (o := (.cells #[.int .u8 3, .string x, .int .u64 n, .int .i64 p] 34)))
  have hR : refY 3 x n = bstr (decL n) := by unfold refY; rw [if_pos rfl]
  rw [hR]
  clear hR
  by_cases h10 : 10 ≤ n
  · have hA : ∀ W, Calls Tryz.prog 25 #[.int .i64 ((n : Int) / 10)] W fun e w' => e = .returned (.string (bstr (decL (n / 10)))) ∧ Below W.heap.size W w' := fun W => digits_nn (n / 10) W (by omega)
    have hC : ∀ W, Calls Tryz.prog 25 #[.int .i64 ((n : Int) % 10)] W fun e w' => e = .returned (.string (bstr (decL (n % 10)))) ∧ Below W.heap.size W w' := fun W => digits_nn (n % 10) W (by omega)
    have hE : bstr (decL (n / 10)) ++ bstr (decL (n % 10)) = bstr (decL n) := by rw [bstr_app2, decL_ten n h10]
    have s1 := dec_size (n / 10) (by omega)
    have s2 := dec_size (n % 10) (by omega)
    generalize bstr (decL (n / 10)) = X at *
    generalize bstr (decL (n % 10)) = Y at *
    generalize bstr (decL n) = Z at *
    have HA := Lib.hid hA
    have HC := Lib.hid hC
    have HE := Lib.hid hE
    have z1 : ¬ (9223372036854775807 < X.size + Y.size) := by omega
    have z2 : X.size + Y.size ≤ 9223372036854775807 := by omega
    have z3 : (X.size : Int) + Y.size ≤ 9223372036854775807 := by omega
    have q1 : (n : Int).tdiv 10 = (n : Int) / 10 := Int.tdiv_eq_ediv_of_nonneg (by omega)
    have q2 : (n : Int).tmod 10 = (n : Int) % 10 := Int.tmod_eq_emod_of_nonneg (by omega)
    have q3 : IntKind.i64.wrap ((n : Int) / 10) = (n : Int) / 10 := by rw [IntKind.wrap_i64]; omega
    have q4 : IntKind.i64.wrap ((n : Int) % 10) = (n : Int) % 10 := by rw [IntKind.wrap_i64]; omega
    have q5 : IntKind.u64.wrap ((n : Int) / 10) = (n : Int) / 10 := by rw [IntKind.wrap_u64]; omega
    have q6 : IntKind.u64.wrap ((n : Int) % 10) = (n : Int) % 10 := by rw [IntKind.wrap_u64]; omega
    have h10I : (10 : Int) ≤ n := by omega
    clear hA hC hE s1 s2 h10 hn
    go_enter Tryz.func13, Tryz.ntmps13
    go_wp2_with fail
    (go_region_with (first | (go_at_call 25; (with_reducible refine (HA.out _).mono ?_); rintro e w2 ⟨rfl, hb2⟩; (have d2 := (cell4b (blk_step (by first | exact HB.out.drew | exact HBC.out) hb2)).2.2.1); (have HBA := Lib.hid (blk_step (by first | exact HB.out.drew | exact HBC.out) hb2))) | (go_at_call 25; (with_reducible refine (HC.out _).mono ?_); rintro e w3 ⟨rfl, hb3⟩; (have d3 := (cell4b (blk_step (by first | exact HB.out.drew | exact HBA.out) hb3)).2.2.1); (have HBC := Lib.hid (blk_step (by first | exact HB.out.drew | exact HBA.out) hb3)))))
    all_goals
      go_wp2
      go_ret
      refine ⟨rstr HE.out, ?_⟩
      exact bj (bj HW.out (Below.trans ((Below.refl _ _).drew) hb2)) hb3
  · have HD := Lib.hid (fun W => digits_nn n W (by omega))
    have h10I : ¬ (10 : Int) ≤ n := by omega
    have q3 : IntKind.i64.wrap (n : Int) = (n : Int) := by rw [IntKind.wrap_i64]; omega
    have h10J : (n : Int) < 10 := by omega
    clear h10 hn
    go_enter Tryz.func13, Tryz.ntmps13
    go_wp2_with fail
    refine (HD.out _).mono ?_
    rintro e w2 ⟨rfl, hb2⟩
    go_wp2
    go_ret
    exact ⟨rfl, bj HW.out hb2⟩
set_option maxRecDepth 100000 in
set_option maxHeartbeats 4000000 in
theorem rtxt_4 (x : ByteArray) (n : Nat) (p : Int) (w : World) (hx : x.size ≤ 1000) : Calls Tryz.prog 13 #[.agg #[.int .u8 4, .string x, .int .u64 n, .int .i64 p]] w fun e w' => e = .returned (.string (refY 4 x n)) ∧ Below w.heap.size w w' := by
  have HB := Lib.hid (Blk.new w 34 #[.int .u8 4, .string x, .int .u64 n, .int .i64 p])
  obtain ⟨c0, c1, c2, c3⟩ := cell4b HB.out
  have HW := Lib.hid (one_alloc (w := w) (o := (.cells #[.int .u8 4, .string x, .int .u64 n, .int .i64 p] 34)))
  have hR : refY 4 x n = bstr (39 :: (dqL (bts x) ++ [39])) := by
    unfold refY
    simp only [show ¬ (4 : Nat) = 3 from by decide, ↓reduceIte, if_neg (show ¬ 1000 < x.size by omega)]
    rw [show (⟨#[39]⟩ : ByteArray) = bstr [39] from rfl, bstr_app2, bstr_app2]
    rfl
  rw [hR]
  clear hR
  have HL := Lib.hid (fun W => rlit_2 x W hx)
  have hxI : (x.size : Int) ≤ 1000 := by omega
  generalize bstr (39 :: (dqL (bts x) ++ [39])) = Z at *
  clear hx
  go_enter Tryz.func13, Tryz.ntmps13
  go_wp2_with fail
  refine (HL.out _).mono ?_
  rintro e w2 ⟨rfl, hb2⟩
  go_wp2
  go_ret
  exact ⟨rfl, bj HW.out hb2⟩
set_option maxRecDepth 100000 in
set_option maxHeartbeats 4000000 in
theorem rtxt_5 (x : ByteArray) (n : Nat) (p : Int) (w : World) (hx : x.size ≤ 1000) : Calls Tryz.prog 13 #[.agg #[.int .u8 5, .string x, .int .u64 n, .int .i64 p]] w fun e w' => e = .returned (.string (refY 5 x n)) ∧ Below w.heap.size w w' := by
  have HB := Lib.hid (Blk.new w 34 #[.int .u8 5, .string x, .int .u64 n, .int .i64 p])
  obtain ⟨c0, c1, c2, c3⟩ := cell4b HB.out
  have HW := Lib.hid (one_alloc (w := w) (o := (.cells #[.int .u8 5, .string x, .int .u64 n, .int .i64 p] 34)))
  have hR : refY 5 x n = bstr (120 :: 39 :: (hexL (bts x) ++ [39])) := by
    unfold refY
    simp only [show ¬ (5 : Nat) = 3 from by decide, ↓reduceIte, show ¬ (5 : Nat) = 4 from by decide, if_neg (show ¬ 1000 < x.size by omega)]
    rw [show (⟨#[120, 39]⟩ : ByteArray) = bstr [120, 39] from rfl, show (⟨#[39]⟩ : ByteArray) = bstr [39] from rfl, bstr_app2, bstr_app2]
    rfl
  rw [hR]
  clear hR
  have HL := Lib.hid (fun W => rlit_3 x W hx)
  have hxI : (x.size : Int) ≤ 1000 := by omega
  generalize bstr (120 :: 39 :: (hexL (bts x) ++ [39])) = Z at *
  clear hx
  go_enter Tryz.func13, Tryz.ntmps13
  go_wp2_with fail
  refine (HL.out _).mono ?_
  rintro e w2 ⟨rfl, hb2⟩
  go_wp2
  go_ret
  exact ⟨rfl, bj HW.out hb2⟩
theorem txt_any (k : Nat) (x : ByteArray) (n : Nat) (p : Int) (W : World) (hn : n < 18446744073709551616) : Calls Tryz.prog 13 #[.agg #[.int .u8 k, .string x, .int .u64 n, .int .i64 p]] W fun e w' => e = .returned (.string (refY k x n)) ∧ Below W.heap.size W w' := by
  by_cases h1 : k = 1 ∨ k = 2 ∨ k = 6
  · exact rtxt_same k x n p W h1
  by_cases h3 : k = 3
  · subst h3; exact rtxt_num x n p W hn
  by_cases h4 : k = 4 ∨ k = 5
  · by_cases hl : 1000 < x.size
    · exact rtxt_long k x n p W h4 hl
    · rcases h4 with rfl | rfl
      · exact rtxt_4 x n p W (by omega)
      · exact rtxt_5 x n p W (by omega)
  · exact rtxt_none k x n p W (by omega)
end Go.Proofs.YtibnmkjabpoppaaGreatDoor
