/- scope.come of any expression for a group. Conditions: how it, and the rows, lie in memory; that it may be. -/
import Derived.Test.YtkgpcodccpckeaaEg3
namespace Go.Proofs.Ytkgpcodccpckeaa
open Go Go.RowKit
set_option linter.unusedVariables false
set_option linter.unusedSimpArgs false
/-- the first row -/
def rowOf (rs : List Rw) : List Val := match rs with
  | [] => []
  | r :: _ => r.l
def grpP (op : Int) (ks : List XT) (rs : List Rw) : Val × Int := match ks with
  | [] => ((1, (rs.length : Int), ⟨#[]⟩), 0)
  | x :: _ => foldG op (gL (fun r => comeP r.l x) rs)
mutual
def comG (rs : List Rw) : XT → Val × Int
  | .mk op v _ _ n _ _ ks => if op = 1 then (v, 0) else if op = 2 then ((rowOf rs).getD n.toNat zV, 0) else if 20 ≤ op then grpP op ks rs else comeF op ks.length (comGL rs ks)
def comGL (rs : List Rw) : List XT → List Val × Int
  | [] => ([], 0)
  | x :: l => if (comG rs x).2 ≠ 0 then ([], (comG rs x).2) else ((comG rs x).1 :: (comGL rs l).1, (comGL rs l).2)
end
set_option maxRecDepth 100000 in
set_option maxHeartbeats 4000000 in
theorem fold1_none (g rc : Nat) (R : Option Addr) (n : Int) (w : World) (hg : Blk w g 43 #[.slice R 0 rc]) :
    Calls Try.prog 35 #[.int .i64 n, .pointer (some ⟨g, 0, none⟩)] w fun e w' => e = .returned (valV zV) ∧ Below w.heap.size w w' := by
  have c0 := (one_alloc (w := w) (o := .cells #[.int .u8 0, .int .i64 0, .string ⟨#[]⟩] 23)).cell (p := ⟨g, 0, none⟩) hg.lt |>.trans (hg.cell 0)
  have HA := Lib.hid (Blk.new w 23 #[.int .u8 0, .int .i64 0, .string ⟨#[]⟩])
  obtain ⟨r0, r1, r2, f0, f1, f2⟩ := cell3 HA.out
  go_enter Try.func35, Try.ntmps35
  go_wp2
  first
    | (obtain ⟨e0, e1, e2, _, _, _⟩ := cell3 (blk3_set HA.out (.int .u8 0) (.int .i64 0) (.string ⟨#[]⟩))
       exact bodyPost_ret (v := .agg #[.int .u8 0, .int .i64 0, .string ⟨#[]⟩]) (by simp [results, Try.results35, go_sem, e0, e1, e2]) rfl ⟨rfl, below3_set one_alloc _ _ _⟩)
    | exact bodyPost_ret (v := .agg #[.int .u8 0, .int .i64 0, .string ⟨#[]⟩]) (by simp [results, Try.results35, go_sem]) rfl ⟨rfl, one_alloc⟩
set_option maxRecDepth 100000 in
set_option maxHeartbeats 4000000 in
theorem fold1_some (g rn rc rb ro b o L c p : Nat) (v : Val) (w : World) (hg : Blk w g 43 #[.slice (some ⟨rb, ro, none⟩) rn rc]) (h0 : 0 < rn) (hr : w.cell? ⟨rb, ro, none⟩ = some (.slice (some ⟨b, o, none⟩) L c)) (hp : p < L) (hL : L ≤ 1000) (x0 : w.cell? ⟨b, o + p * 3, none⟩ = some (.int .u8 v.1)) (x1 : w.cell? ⟨b, o + p * 3 + 1, none⟩ = some (.int .i64 v.2.1)) (x2 : w.cell? ⟨b, o + p * 3 + 2, none⟩ = some (.string v.2.2)) (hrb : rb < w.heap.size) (hb : b < w.heap.size) :
    Calls Try.prog 35 #[.int .i64 p, .pointer (some ⟨g, 0, none⟩)] w fun e w' => e = .returned (valV v) ∧ Below w.heap.size w w' := by
  obtain ⟨k, q, s⟩ := v
  simp only at x0 x1 x2
  have hB := one_alloc (w := w) (o := .cells #[.int .u8 0, .int .i64 0, .string ⟨#[]⟩] 23)
  have c0 := (hB.cell (p := ⟨g, 0, none⟩) hg.lt).trans (hg.cell 0)
  have c1 := (hB.cell (p := ⟨rb, ro, none⟩) hrb).trans hr
  have c2 := (hB.cell (p := ⟨b, o + p * 3, none⟩) hb).trans x0
  have c3 := (hB.cell (p := ⟨b, o + p * 3 + 1, none⟩) hb).trans x1
  have c4 := (hB.cell (p := ⟨b, o + p * 3 + 2, none⟩) hb).trans x2
  have HA := Lib.hid (Blk.new w 23 #[.int .u8 0, .int .i64 0, .string ⟨#[]⟩])
  obtain ⟨r0, r1, r2, f0, f1, f2⟩ := cell3 HA.out
  have hn0 : ((rn : Int) == 0) = false := beq_no (by omega)
  have h0I : (0 : Int) < rn := by omega
  have hpI : (p : Int) < L := by omega
  have hLI : (L : Int) ≤ 1000 := by omega
  clear hB x0 x1 x2 hr hg hrb hb h0 hp hL
  go_enter Try.func35, Try.ntmps35
  go_wp2
  exact bodyPost_ret (v := .agg #[.int .u8 k, .int .i64 q, .string s]) (by simp [results, Try.results35, go_sem]) rfl ⟨rfl, one_alloc⟩
/-- what the group's closure says, in every world behind; the rows have k values each -/
def RowsG (rs : List Rw) (R : Option Addr) (rn rc g : Nat) (k : Int) (w : World) : Prop := Blk w g 43 #[.slice R rn rc] ∧ Rws w w.heap.size R rs ∧ rn = rs.length ∧ rn ≤ 100000 ∧ ∀ r ∈ rs, (r.l.length : Int) = k ∧ r.l.length ≤ 1000 ∧ ∀ x ∈ r.l, Vk x
theorem rowsg_step {rs : List Rw} {R : Option Addr} {rn rc g : Nat} {k : Int} {w w' : World} (h : RowsG rs R rn rc g k w) (hb : Below w.heap.size w w') : RowsG rs R rn rc g k w' := ⟨blk_step h.1 hb, rws_step h.2.1 hb, h.2.2⟩
theorem rowsg_col {rs : List Rw} {R : Option Addr} {rn rc g : Nat} {k : Int} {w : World} (h : RowsG rs R rn rc g k w) (p : Nat) (hp : (p : Int) < k) : Calls Try.prog 35 #[.int .i64 p, .pointer (some ⟨g, 0, none⟩)] w fun e w' => e = .returned (valV ((rowOf rs).getD p zV)) ∧ Below w.heap.size w w' := by
  obtain ⟨h1, h2, h3, h4, h5⟩ := h
  rcases rs with _ | ⟨r, rs⟩
  · subst h3
    exact fold1_none g rc R p w h1
  · obtain ⟨rb, ro, rfl, hrb, hc⟩ := rws_get h2 (by simp)
    obtain ⟨hc0, hok⟩ := hc 0 r rfl
    obtain ⟨hlk, hl1, hlv⟩ := h5 r (List.mem_cons_self ..)
    have hpl : p < r.l.length := by omega
    obtain ⟨b, o, hA, hb, hcc⟩ := vals_get hok.1 (fun e => by rw [e] at hpl; simp at hpl)
    obtain ⟨c0, c1, c2⟩ := hcc p r.l[p] (List.getElem?_eq_getElem hpl)
    rw [hA, Nat.add_zero] at hc0
    rw [show (rowOf (r :: rs)).getD p zV = r.l[p] by show r.l.getD p zV = _; rw [List.getD_eq_getElem?_getD, List.getElem?_eq_getElem hpl]; rfl]
    exact fold1_some g rn rc rb ro b o r.l.length r.c p r.l[p] w h1 (by rw [h3]; simp) hc0 hpl hl1 c0 c1 c2 hrb hb
theorem minF_mem (l : List Val) : ∀ m : Val, Vk m → (∀ x ∈ l, Vk x) → Vk (minF m l) := by
  induction l with
  | nil => intro m h _; exact h
  | cons x l ih =>
    intro m h hl
    rw [minF]
    exact ih _ (by split; exact hl x (List.mem_cons_self ..); exact h) (fun y hy => hl y (List.mem_cons_of_mem _ hy))
theorem maxF_mem (l : List Val) : ∀ m : Val, Vk m → (∀ x ∈ l, Vk x) → Vk (maxF m l) := by
  induction l with
  | nil => intro m h _; exact h
  | cons x l ih =>
    intro m h hl
    rw [maxF]
    exact ih _ (by split; exact hl x (List.mem_cons_self ..); exact h) (fun y hy => hl y (List.mem_cons_of_mem _ hy))
theorem vk_getD (l : List Val) (p : Nat) (h : ∀ x ∈ l, Vk x) : Vk (l.getD p zV) := by
  rw [List.getD_eq_getElem?_getD]
  cases hx : l[p]? with
  | none => exact vk_z
  | some y => exact h y (List.mem_of_getElem? hx)
theorem gL_mem (z : Rw → Val × Int) (rs : List Rw) (h : ∀ r ∈ rs, Vk (z r).1) : (∀ x ∈ (gL z rs).1, Vk x) ∧ (gL z rs).1.length ≤ rs.length := by
  induction rs with
  | nil => exact ⟨(fun x hx => by cases hx), Nat.le_refl _⟩
  | cons r rs ih =>
    obtain ⟨h1, h2⟩ := ih (fun y hy => h y (List.mem_cons_of_mem _ hy))
    rw [gL]
    split
    · exact ⟨(fun x hx => by cases hx), by simp⟩
    · simp only
      split
      · exact ⟨h1, by simp; omega⟩
      · refine ⟨fun x hx => ?_, by simp; omega⟩
        rcases List.mem_cons.1 hx with rfl | hx
        · exact h r (List.mem_cons_self ..)
        · exact h1 x hx
theorem vk_foldG (op : Int) (r : List Val × Int) (h : ∀ x ∈ r.1, Vk x) (hl : r.1.length ≤ 100000) : Vk (foldG op r).1 := by
  unfold foldG
  split; · exact vk_z
  unfold foldV
  split; · exact vk_int (by omega)
  split; · exact vk_z
  split; · exact minF_mem _ _ (vk_getD _ _ h) (fun x hx => h x (List.mem_of_mem_drop hx))
  split; · exact maxF_mem _ _ (vk_getD _ _ h) (fun x hx => h x (List.mem_of_mem_drop hx))
  unfold totP
  split
  · exact vk_res _
  · exact vk_z
theorem vk_rowOf {rs : List Rw} (h : ∀ r ∈ rs, ∀ x ∈ r.l, Vk x) : ∀ x ∈ rowOf rs, Vk x := by
  rcases rs with _ | ⟨r, rs⟩
  · intro x hx; cases hx
  · exact h r (List.mem_cons_self ..)
theorem vk_comG (rs : List Rw) (hr : ∀ r ∈ rs, ∀ x ∈ r.l, Vk x) (hn : rs.length ≤ 100000) {w : World} {B : Nat} {T : XT} (h : InT w B T) : Vk (comG rs T).1 := by
  induction h with
  | mk op v tb nm n A c ks h0 h1 h2 h3 h4 hk hi ih =>
    rw [comG]
    split; · exact ⟨h1, h3⟩
    split; · exact vk_getD _ _ (vk_rowOf hr)
    split
    · unfold grpP
      rcases ks with _ | ⟨x, ks⟩
      · exact vk_int (by omega)
      · have hm := gL_mem (fun r => comeP r.l x) rs (fun r hrm => vk_come r.l (hr r hrm) (hi x (List.mem_cons_self ..)))
        exact vk_foldG op _ hm.1 (by omega)
    · unfold comeF
      split; · exact vk_z
      have key : ∀ l : List XT, (∀ x ∈ l, x ∈ ks) → ∀ y ∈ (comGL rs l).1, Vk y := by
        intro l
        induction l with
        | nil => intro _ y hy; rw [comGL] at hy; cases hy
        | cons x l il =>
          intro hm y hy
          rw [comGL] at hy
          split at hy
          · cases hy
          · rcases List.mem_cons.1 hy with rfl | hy
            · exact ih x (hm x (List.mem_cons_self ..))
            · exact il (fun z hz => hm z (List.mem_cons_of_mem _ hz)) y hy
      exact vk_do _ _ _ _ (vk_getD _ _ (key ks (fun _ h => h)))
theorem mayP_parts1 {k : Int} {op : Int} {v : Val} {tb nm : ByteArray} {n : Int} {A : Option Addr} {c : Nat} {ks : List XT} (h : mayP k (.mk op v tb nm n A c ks) 1 = true) : 1 ≤ op ∧ op ≤ 23 ∧ fitsB op ks.length = true ∧ (op = 2 → 0 ≤ n ∧ n < k) ∧ (op ≤ 19 → ∀ x ∈ ks, mayP k x 1 = true) ∧ (20 ≤ op → ∀ x ∈ ks, mayP k x 0 = true) := by
  rw [mayP, Bool.and_eq_true, Bool.and_eq_true] at h
  obtain ⟨⟨_, h2⟩, h3⟩ := h
  unfold mayH at h2
  rw [Bool.and_eq_true, Bool.and_eq_true] at h2
  obtain ⟨⟨hf, _⟩, hc2⟩ := h2
  obtain ⟨f1, f2, _, _⟩ := fits_op hf
  refine ⟨f1, f2, hf, fun e => ?_, fun ho x hx => ?_, fun ho x hx => ?_⟩
  · subst e
    simpa using hc2
  · rw [show groupedB op = false by unfold groupedB; simp; omega, if_neg (by simp)] at h3
    rw [all_map] at h3
    exact List.all_eq_true.1 h3 (mayP k x 1) (List.mem_map_of_mem hx)
  · rw [show groupedB op = true by unfold groupedB; simp; omega, if_pos rfl] at h3
    rw [all_map] at h3
    exact List.all_eq_true.1 h3 (mayP k x 0) (List.mem_map_of_mem hx)
set_option maxRecDepth 100000 in
set_option maxHeartbeats 8000000 in
theorem come_grp (kf : FuncId) (p : Addr) (R : Option Addr) (rn rc : Nat) (op : Int) (v : Val) (tb nm : ByteArray) (n : Int) (A : Option Addr) (m c : Nat) (z : Val × Int) (w : World) (h20 : 20 ≤ op) (h23 : op ≤ 23)
    (hG : ∀ W, Below w.heap.size w W → Calls Try.prog 44 #[scV kf p R rn rc, exV ⟨op, v, tb, nm, n, A, m, c⟩] W fun e w' => e = .returned (.tuple #[valV z.1, .int .i64 z.2]) ∧ Below W.heap.size W w') :
    Calls Try.prog 34 #[scV kf p R rn rc, exV ⟨op, v, tb, nm, n, A, m, c⟩] w fun e w' => e = .returned (.tuple #[valV z.1, .int .i64 z.2]) ∧ Below w.heap.size w w' := by
  obtain ⟨v1, v2, v3⟩ := v
  obtain ⟨⟨z1, z2, z3⟩, ze⟩ := z
  have HG := Lib.hid (fun W => grouped_any op W)
  have HGR := Lib.hid hG
  have e1 := beq_no (a := op) (b := 1) (by omega)
  have e2 := beq_no (a := op) (b := 2) (by omega)
  have HGB := Lib.hid (show groupedB op = true by unfold groupedB; simp; omega)
  have HZ := Lib.hid (gq_new w kf p R rn rc ⟨op, (v1, v2, v3), tb, nm, n, A, m, c⟩)
  clear hG h20 h23
  go_enter Try.func34, Try.ntmps34
  go_wp2_with fail
  refine (HG.out _).mono ?_
  rintro e w2 ⟨rfl, rfl⟩
  rw [HGB.out]
  go_wp2_with fail
  refine (HGR.out _ bj3).mono ?_
  rintro e w4 ⟨rfl, hb4⟩
  have hz := gq_below HZ.out hb4
  obtain ⟨y0, y1, y2, f0, f1, f2⟩ := cell3 hz.2.2.1
  clear hb4
  go_wp2
  obtain ⟨e0, e1, e2, _, _, _⟩ := cell3 (blk3_set hz.2.2.1 (.int .u8 z1) (.int .i64 z2) (.string z3))
  exact bodyPost_ret (v := .tuple #[.agg #[.int .u8 z1, .int .i64 z2, .string z3], .int .i64 ze]) (by simp [results, Try.results34, go_sem, e0, e1, e2]) rfl ⟨rfl, below3_at hz.2.2.2 (by omega) _ _ _⟩
/-- scope.come, of any expression that may be for a group -/
theorem come_treeG (rs : List Rw) (R : Option Addr) (rn rc g : Nat) (k : Int) (T : XT) : ∀ w : World, InT w w.heap.size T → RowsG rs R rn rc g k w → mayP k T 1 = true →
    Calls Try.prog 34 #[scV 35 ⟨g, 0, none⟩ R rn rc, exV T.ex] w fun e w' => e = .returned (.tuple #[valV (comG rs T).1, .int .i64 (comG rs T).2]) ∧ Below w.heap.size w w' := by
  induction T using xt_ind with
  | h op v tb nm n A c ks ih =>
    intro w hin hrow hM
    obtain ⟨m1, m23, hf, m2, mk, mk0⟩ := mayP_parts1 hM
    have hvr : ∀ r ∈ rs, ∀ x ∈ r.l, Vk x := fun r hr => (hrow.2.2.2.2 r hr).2.2
    have hlr : rs.length ≤ 100000 := by have h1 := hrow.2.2.1; have h2 := hrow.2.2.2.1; omega
    have hvk : ∀ x ∈ ks, Vk (comG rs x).1 := fun x hx => by
      cases hin with
      | mk _ _ _ _ _ _ _ _ h0 h1 h2 h3 h4 hk hi => exact vk_comG rs hvr hlr (hi x hx)
    cases hin with
    | mk _ _ _ _ _ _ _ _ h0 h1 h2 h3 h4 hk hi =>
    show Calls Try.prog 34 #[scV 35 ⟨g, 0, none⟩ R rn rc, exV ⟨op, v, tb, nm, n, A, ks.length, c⟩] w _
    rw [comG]
    by_cases o1 : op = 1
    · subst o1
      rw [if_pos rfl]
      exact come_leaf _ _ R rn rc v tb nm n A ks.length c w
    rw [if_neg o1]
    by_cases o2 : op = 2
    · subst o2
      rw [if_pos rfl]
      have hr := m2 rfl
      obtain ⟨p, rfl⟩ : ∃ p : Nat, (p : Int) = n := ⟨n.toNat, by omega⟩
      rw [Int.toNat_natCast]
      exact come_colf _ R rn rc v tb nm p A ks.length c _ w (Lib.hid fun W hW => rowsg_col (rowsg_step hrow hW) p (by omega))
    rw [if_neg o2]
    by_cases o20 : 20 ≤ op
    · rw [if_pos o20]
      refine come_grp _ _ R rn rc op v tb nm n A ks.length c (grpP op ks rs) w o20 m23 (fun W hW => ?_)
      rcases ks with _ | ⟨x, ks⟩
      · have h := group_none 35 ⟨g, 0, none⟩ R rn rc op v tb nm n A c W (by have := hrow.2.2.2.1; omega)
        rw [hrow.2.2.1] at h ⊢
        exact h
      · have hl1 : (x :: ks).length = 1 := by
          unfold fitsB at hf
          repeat' split at hf
          all_goals simp at hf
          all_goals simp
          all_goals omega
        obtain rfl : ks = [] := by simpa using hl1
        obtain ⟨kb, ko, rfl, hkb, hkc⟩ := kids_get hk (by simp)
        have hcell := hkc 0 x.ex rfl
        simp only [Nat.zero_mul, Nat.add_zero] at hcell
        have hx := List.mem_cons_self (a := x) (l := [])
        refine group_kid op 35 ⟨g, 0, none⟩ R rn rc rs v tb nm n kb ko c x.ex (fun r => comeP r.l x) W (rws_step hrow.2.1 hW) hrow.2.2.1 hrow.2.2.2.1 o20 m23 (cells8_below hcell hW hkb) (Nat.lt_of_lt_of_le hkb hW.size) (fun r hr => vk_come r.l (hvr r hr) (hi x hx)) (fun r hr g' W' hW' hg' => ?_)
        have hRW : RwOk W W.heap.size r := by
          rcases rws_step hrow.2.1 hW with e | ⟨b, o, _, _, hc⟩
          · rw [e] at hr; cases hr
          · obtain ⟨j, hj⟩ := List.mem_iff_getElem?.1 hr
            exact (hc j r hj).2
        have hrr := hrow.2.2.2.2 r hr
        exact come_tree r.l r.A r.l.length r.c g' x W' (int_step (int_step (hi x hx) hW) hW') ⟨hg', vals_step hRW.1 hW', rfl, hrr.2.1, hrr.2.2⟩ (by rw [hrr.1]; exact mk0 o20 x hx)
    rw [if_neg o20]
    have m19 : op ≤ 19 := by omega
    have IH : ∀ (j : Nat) (y : Ex), (ks.map XT.ex)[j]? = some y → ∀ x, ks[j]? = some x → ∀ W, Below w.heap.size w W → Calls Try.prog 34 #[scV 35 ⟨g, 0, none⟩ R rn rc, exV y] W fun e w' => e = .returned (.tuple #[valV (comG rs x).1, .int .i64 (comG rs x).2]) ∧ Below W.heap.size W w' := by
      intro j y hy x hx W hW
      rw [List.getElem?_map, hx] at hy
      simp only [Option.map_some, Option.some.injEq] at hy
      subst hy
      have hm := List.mem_of_getElem? hx
      exact ih x hm W (int_step (hi x hm) hW) (rowsg_step hrow hW) (mk m19 x hm)
    have RK : ∀ a b : Val, Vk a → Vk b → (¬ op = 11 ∧ ¬ op = 4 ∧ ¬ op = 5 ∧ ¬ op = 18 ∧ ¬ op = 19 ∧ comparesB op = false) → ∀ W, Calls Try.prog 52 #[.int .u8 op, .int .i64 a.2.1, .int .i64 b.2.1] W fun e w' => e = .returned (.tuple #[valV (rzZ op a b).1, .int .i64 (rzZ op a b).2]) ∧ Below W.heap.size W w' := by
      intro a b ha hb hc W
      have hcm : ¬ (12 ≤ op ∧ op ≤ 17) := by
        have := hc.2.2.2.2.2
        unfold comparesB at this
        simp at this
        omega
      rw [show rzZ op a b = numZ op a.2.1 b.2.1 by unfold rzZ; rw [if_neg hc.1]]
      exact reckon_any op a.2.1 b.2.1 (by omega) ha.1.2.2 hb.1.2.2 W
    have JK : ∀ a b : Val, Vk a → Vk b → op = 11 → ∀ W, Calls Try.prog 51 #[valV a, valV b] W fun e w' => e = .returned (.tuple #[valV (rzZ op a b).1, .int .i64 (rzZ op a b).2]) ∧ Below W.heap.size W w' := by
      intro a b ha hb hc W
      rw [show rzZ op a b = joinZ a b by unfold rzZ; rw [if_pos hc]]
      exact join_any a b W ha.2 hb.2
    have h3' : 3 ≤ op := by omega
    rcases fits_m hf h3' m19 with hl | hl
    · match ks, hl with
      | [x], _ =>
        rw [comGL, comGL]
        by_cases he : (comG rs x).2 = 0
        · rw [if_neg (by simpa using he)]
          have hc := come_all 35 ⟨g, 0, none⟩ R rn rc op v tb nm n A 1 c ([x].map XT.ex) (comG rs x).1 zV (rzZ op (comG rs x).1 zV) w h3' m19 rfl (.inl ⟨rfl, rfl⟩) hk
            (fun y hy W hW => by have := IH 0 y hy x rfl W hW; rwa [he] at this) (fun y hy => by simp at hy) (JK _ _ (hvk x (List.mem_cons_self ..)) vk_z) (RK _ _ (hvk x (List.mem_cons_self ..)) vk_z)
          exact hc
        · rw [if_pos he]
          have hc := come_err0 35 ⟨g, 0, none⟩ R rn rc op v tb nm n A 1 c ([x].map XT.ex) (comG rs x).1 (comG rs x).2 w h3' m19 rfl (by omega) he hk (fun y hy W hW => IH 0 y hy x rfl W hW)
          rw [show comeF op [x].length ([], (comG rs x).2) = (zV, (comG rs x).2) by unfold comeF; rw [if_pos he]]
          exact hc
    · match ks, hl with
      | [x, y], _ =>
        rw [comGL, comGL, comGL]
        by_cases he : (comG rs x).2 = 0
        · rw [if_neg (by simpa using he)]
          by_cases he2 : (comG rs y).2 = 0
          · rw [if_neg (by simpa using he2)]
            have hc := come_all 35 ⟨g, 0, none⟩ R rn rc op v tb nm n A 2 c ([x, y].map XT.ex) (comG rs x).1 (comG rs y).1 (rzZ op (comG rs x).1 (comG rs y).1) w h3' m19 rfl (.inr rfl) hk
              (fun z hz W hW => by have := IH 0 z hz x rfl W hW; rwa [he] at this) (fun z hz W hW => by have := IH 1 z hz y rfl W hW; rwa [he2] at this) (JK _ _ (hvk x (List.mem_cons_self ..)) (hvk y (by simp))) (RK _ _ (hvk x (List.mem_cons_self ..)) (hvk y (by simp)))
            exact hc
          · rw [if_pos he2]
            have hc := come_err1 35 ⟨g, 0, none⟩ R rn rc op v tb nm n A 2 c ([x, y].map XT.ex) (comG rs x).1 (comG rs y).1 (comG rs y).2 w h3' m19 rfl rfl he2 hk
              (fun z hz W hW => by have := IH 0 z hz x rfl W hW; rwa [he] at this) (fun z hz W hW => IH 1 z hz y rfl W hW)
            rw [show comeF op [x, y].length ([(comG rs x).1], (comG rs y).2) = (zV, (comG rs y).2) by unfold comeF; rw [if_pos he2]]
            exact hc
        · rw [if_pos he]
          have hc := come_err0 35 ⟨g, 0, none⟩ R rn rc op v tb nm n A 2 c ([x, y].map XT.ex) (comG rs x).1 (comG rs x).2 w h3' m19 rfl (by omega) he hk (fun z hz W hW => IH 0 z hz x rfl W hW)
          rw [show comeF op [x, y].length ([], (comG rs x).2) = (zV, (comG rs x).2) by unfold comeF; rw [if_pos he]]
          exact hc
end Go.Proofs.Ytkgpcodccpckeaa
