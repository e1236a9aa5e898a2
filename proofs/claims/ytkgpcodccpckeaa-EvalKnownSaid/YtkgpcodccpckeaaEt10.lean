/- What any expression without groups comes to for a row: plain mathematics; scope.come of any such expression. Conditions: how it, and the row, lie in memory; that it may be. -/
import Derived.Test.YtkgpcodccpckeaaEt9
import Derived.Test.YtkgpcodccpckeaaEt5
namespace Go.Proofs.Ytkgpcodccpckeaa
open Go Go.RowKit
set_option linter.unusedVariables false
set_option linter.unusedSimpArgs false
abbrev zV : Val := (0, 0, ⟨#[]⟩)
/-- a value that fits a machine -/
def Vk (v : Val) : Prop := Fits v ∧ v.2.2.size ≤ 140737488351232
def rzZ (op : Int) (a b : Val) : Val × Int := if op = 11 then joinZ a b else numZ op a.2.1 b.2.1
def doK (op : Int) (m : Nat) (a b : Val) : Val × Int := doZ op m a b (rzZ op a b)
def comeF (op : Int) (m : Nat) (r : List Val × Int) : Val × Int := if r.2 ≠ 0 then (zV, r.2) else doK op m (r.1.getD 0 zV) (r.1.getD 1 zV)
mutual
def comeP (row : List Val) : XT → Val × Int
  | .mk op v _ _ n _ _ ks => if op = 1 then (v, 0) else if op = 2 then (row.getD n.toNat zV, 0) else comeF op ks.length (comeL row ks)
def comeL (row : List Val) : List XT → List Val × Int
  | [] => ([], 0)
  | x :: l => if (comeP row x).2 ≠ 0 then ([], (comeP row x).2) else ((comeP row x).1 :: (comeL row l).1, (comeL row l).2)
end
theorem vk_z : Vk zV := ⟨⟨by decide, by decide, by decide, by decide⟩, by decide⟩
theorem vk_int {x : Int} (h : -9223372036854775808 ≤ x ∧ x ≤ 9223372036854775807) : Vk (1, x, ⟨#[]⟩) := ⟨⟨show (0 : Int) ≤ 1 by decide, show (1 : Int) < 256 by decide, h.1, h.2⟩, show (⟨#[]⟩ : ByteArray).size ≤ 140737488351232 by decide⟩
theorem vk_truth (b : Bool) : Vk (truthV b) := by cases b <;> exact vk_int (by decide)
theorem vk_res (x : Int) : Vk (resZ x).1 := by
  unfold resZ
  split
  · rename_i h; exact vk_int h
  · exact vk_z
theorem tmod_in {a b : Int} (ha : -9223372036854775808 ≤ a ∧ a ≤ 9223372036854775807) : -9223372036854775808 ≤ a.tmod b ∧ a.tmod b ≤ 9223372036854775807 := by
  have h := Int.natAbs_tmod a b
  have h2 : (a.tmod b).natAbs ≤ a.natAbs := by rw [h]; exact Nat.mod_le _ _
  by_cases hs : 0 ≤ a
  · have := Int.tmod_nonneg b hs; omega
  · by_cases hm : a = -9223372036854775808
    · have h4 : (a.tmod b) ≤ 0 := by
        have := Int.tmod_nonneg b (show 0 ≤ -a by omega)
        rw [Int.neg_tmod] at this
        omega
      omega
    · omega
theorem vk_num (op a b : Int) (ha : -9223372036854775808 ≤ a ∧ a ≤ 9223372036854775807) : Vk (numZ op a b).1 := by
  unfold numZ
  split; · exact vk_res _
  split; · exact vk_res _
  split; · exact vk_res _
  split; · exact vk_res _
  split; · exact vk_z
  split; · exact vk_int (tmod_in ha)
  exact vk_res _
theorem vk_join (a b : Val) : Vk (joinZ a b).1 := by
  unfold joinZ
  split
  · exact vk_z
  · exact ⟨⟨show (0 : Int) ≤ 2 by decide, show (2 : Int) < 256 by decide, show (-9223372036854775808 : Int) ≤ 0 by decide, show (0 : Int) ≤ 9223372036854775807 by decide⟩, show (a.2.2 ++ b.2.2).size ≤ 140737488351232 by rw [ByteArray.size_append]; omega⟩
theorem vk_rz (op : Int) (a b : Val) (ha : Vk a) : Vk (rzZ op a b).1 := by
  unfold rzZ
  split
  · exact vk_join a b
  · exact vk_num op _ _ ha.1.2.2
theorem vk_logic (op : Int) (a b : Val) : Vk (logicZ op a b) := by
  unfold logicZ
  split; · exact vk_truth _
  split; · exact vk_z
  exact vk_truth _
theorem vk_do (op : Int) (m : Nat) (a b : Val) (ha : Vk a) : Vk (doK op m a b).1 := by
  unfold doK doZ
  split; · exact vk_z
  split; · exact vk_truth _
  split; · exact vk_logic _ _ _
  split; · exact vk_z
  split; · exact vk_truth _
  split; · exact vk_truth _
  exact vk_rz op a b ha
theorem may_leaf_ks {op : Int} {ks : List XT} {h : fitsB op ks.length = true} (ho : op = 1 ∨ op = 2) : ks = [] := by
  unfold fitsB at h
  rw [if_neg (by omega), if_pos ho] at h
  exact List.length_eq_zero_iff.1 (by simpa using h)
/-- what a row's closure says, in every world behind -/
def RowS (row : List Val) (RA : Option Addr) (rn rc g : Nat) (w : World) : Prop := Blk w g 42 #[.slice RA rn rc] ∧ Vals w w.heap.size RA row ∧ rn = row.length ∧ rn ≤ 1000 ∧ ∀ x ∈ row, Vk x
theorem rows_step {row : List Val} {RA : Option Addr} {rn rc g : Nat} {w w' : World} (h : RowS row RA rn rc g w) (hb : Below w.heap.size w w') : RowS row RA rn rc g w' := ⟨blk_step h.1 hb, vals_step h.2.1 hb, h.2.2⟩
theorem rows_col {row : List Val} {RA : Option Addr} {rn rc g : Nat} {w : World} (h : RowS row RA rn rc g w) (p : Nat) (hp : p < rn) : Calls Try.prog 43 #[.int .i64 p, .pointer (some ⟨g, 0, none⟩)] w fun e w' => e = .returned (valV (row.getD p zV)) ∧ Below w.heap.size w w' := by
  obtain ⟨h1, h2, h3, h4, _⟩ := h
  obtain ⟨b, o, rfl, hbl, hc⟩ := vals_get h2 (fun e => by rw [e] at h3; simp at h3; omega)
  have hpl : p < row.length := by omega
  obtain ⟨c0, c1, c2⟩ := hc p row[p] (List.getElem?_eq_getElem hpl)
  rw [show row.getD p zV = row[p] by rw [List.getD_eq_getElem?_getD, List.getElem?_eq_getElem hpl]; rfl]
  exact sccol_any b o p rn rc row[p] g w h1 c0 c1 c2 hp h4
/-- what comes of an expression that may be is a value -/
theorem vk_come (row : List Val) (hr : ∀ x ∈ row, Vk x) {w : World} {B : Nat} {T : XT} (h : InT w B T) : Vk (comeP row T).1 := by
  induction h with
  | mk op v tb nm n A c ks h0 h1 h2 h3 h4 hk hi ih =>
    rw [comeP]
    split; · exact ⟨h1, h3⟩
    split
    · rw [List.getD_eq_getElem?_getD]
      cases hx : row[n.toNat]? with
      | none => exact vk_z
      | some y => exact hr y (List.mem_of_getElem? hx)
    · unfold comeF
      split; · exact vk_z
      have key : ∀ l : List XT, (∀ x ∈ l, x ∈ ks) → ∀ y ∈ (comeL row l).1, Vk y := by
        intro l
        induction l with
        | nil => intro _ y hy; rw [comeL] at hy; cases hy
        | cons x l il =>
          intro hm y hy
          rw [comeL] at hy
          split at hy
          · cases hy
          · rcases List.mem_cons.1 hy with rfl | hy
            · exact ih x (hm x (List.mem_cons_self ..))
            · exact il (fun z hz => hm z (List.mem_cons_of_mem _ hz)) y hy
      refine vk_do _ _ _ _ ?_
      rw [List.getD_eq_getElem?_getD]
      cases hx : (comeL row ks).1[0]? with
      | none => exact vk_z
      | some y => exact key ks (fun _ h => h) y (List.mem_of_getElem? hx)
theorem mayP_parts {k d : Int} {op : Int} {v : Val} {tb nm : ByteArray} {n : Int} {A : Option Addr} {c : Nat} {ks : List XT} (h : mayP k (.mk op v tb nm n A c ks) d = true) (hd : d = 0) : 1 ≤ op ∧ op ≤ 19 ∧ fitsB op ks.length = true ∧ (op = 2 → 0 ≤ n ∧ n < k) ∧ ∀ x ∈ ks, mayP k x 0 = true := by
  subst hd
  rw [mayP, Bool.and_eq_true, Bool.and_eq_true] at h
  obtain ⟨⟨h1, h2⟩, h3⟩ := h
  have h1' := of_decide_eq_true h1
  have hg : groupedB op = false := by
    cases hg : groupedB op
    · rfl
    · rw [hg] at h1'; simp at h1'
  rw [hg] at h3
  simp only [Bool.false_eq_true, if_false] at h3
  unfold mayH at h2
  rw [Bool.and_eq_true, Bool.and_eq_true] at h2
  obtain ⟨⟨hf, _⟩, hc2⟩ := h2
  obtain ⟨f1, f2, _, _⟩ := fits_op hf
  refine ⟨f1, ?_, hf, fun e => ?_, fun x hx => ?_⟩
  · unfold groupedB at hg
    simp at hg
    omega
  · subst e
    simpa using hc2
  · rw [all_map] at h3
    exact List.all_eq_true.1 h3 (mayP k x 0) (List.mem_map_of_mem hx)
theorem fits_m {op : Int} {m : Nat} (h : fitsB op m = true) (h3 : 3 ≤ op) (h19 : op ≤ 19) : m = 1 ∨ m = 2 := by
  unfold fitsB at h
  repeat' split at h
  all_goals simp at h
  all_goals omega
/-- scope.come, of any expression that may be for a row -/
theorem come_tree (row : List Val) (RA : Option Addr) (rn rc g : Nat) (T : XT) : ∀ w : World, InT w w.heap.size T → RowS row RA rn rc g w → mayP rn T 0 = true →
    Calls Try.prog 34 #[scV 43 ⟨g, 0, none⟩ none 0 0, exV T.ex] w fun e w' => e = .returned (.tuple #[valV (comeP row T).1, .int .i64 (comeP row T).2]) ∧ Below w.heap.size w w' := by
  induction T using xt_ind with
  | h op v tb nm n A c ks ih =>
    intro w hin hrow hM
    obtain ⟨m1, m19, hf, m2, mk⟩ := mayP_parts hM rfl
    have hvk : ∀ x ∈ ks, Vk (comeP row x).1 := fun x hx => by
      cases hin with
      | mk _ _ _ _ _ _ _ _ h0 h1 h2 h3 h4 hk hi => exact vk_come row hrow.2.2.2.2 (hi x hx)
    cases hin with
    | mk _ _ _ _ _ _ _ _ h0 h1 h2 h3 h4 hk hi =>
    show Calls Try.prog 34 #[scV 43 ⟨g, 0, none⟩ none 0 0, exV ⟨op, v, tb, nm, n, A, ks.length, c⟩] w _
    rw [comeP]
    by_cases o1 : op = 1
    · subst o1
      rw [if_pos rfl]
      exact come_leaf _ _ none 0 0 v tb nm n A ks.length c w
    rw [if_neg o1]
    by_cases o2 : op = 2
    · subst o2
      rw [if_pos rfl]
      have hr := m2 rfl
      obtain ⟨p, rfl⟩ : ∃ p : Nat, (p : Int) = n := ⟨n.toNat, by omega⟩
      rw [Int.toNat_natCast]
      exact come_coln _ none 0 0 v tb nm p A ks.length c _ w (Lib.hid fun W hW => rows_col (rows_step hrow hW) p (by omega))
    rw [if_neg o2]
    have IH : ∀ (j : Nat) (y : Ex), (ks.map XT.ex)[j]? = some y → ∀ x, ks[j]? = some x → ∀ W, Below w.heap.size w W → Calls Try.prog 34 #[scV 43 ⟨g, 0, none⟩ none 0 0, exV y] W fun e w' => e = .returned (.tuple #[valV (comeP row x).1, .int .i64 (comeP row x).2]) ∧ Below W.heap.size W w' := by
      intro j y hy x hx W hW
      rw [List.getElem?_map, hx] at hy
      simp only [Option.map_some, Option.some.injEq] at hy
      subst hy
      have hm := List.mem_of_getElem? hx
      exact ih x hm W (int_step (hi x hm) hW) (rows_step hrow hW) (mk x hm)
    have RK : ∀ a b : Val, Vk a → Vk b → (¬ op = 11 ∧ ¬ op = 4 ∧ ¬ op = 5 ∧ ¬ op = 18 ∧ ¬ op = 19 ∧ comparesB op = false) → ∀ W, Calls Try.prog 52 #[.int .u8 op, .int .i64 a.2.1, .int .i64 b.2.1] W fun e w' => e = .returned (.tuple #[valV (rzZ op a b).1, .int .i64 (rzZ op a b).2]) ∧ Below W.heap.size W w' := by
      intro a b ha hb hc W
      have hcm : ¬ (12 ≤ op ∧ op ≤ 17) := by
        have := hc.2.2.2.2.2
        unfold comparesB at this
        simp at this
        omega
      rw [show rzZ op a b = numZ op a.2.1 b.2.1 by unfold rzZ; rw [if_neg hc.1]]
      exact reckon_any op a.2.1 b.2.1 (by omega) ha.1.2.2 hb.1.2.2 W
    have JK : ∀ a b : Val, Vk a → Vk b → op = 11 → ∀ W, Calls Try.prog 51 #[valV a, valV b] W fun e w' => e = .returned (.tuple #[valV (rzZ op a b).1, .int .i64 (rzZ op a b).2]) ∧ Below W.heap.size W w' := by
      intro a b ha hb hc W
      rw [show rzZ op a b = joinZ a b by unfold rzZ; rw [if_pos hc]]
      exact join_any a b W ha.2 hb.2
    have h3' : 3 ≤ op := by omega
    rcases fits_m hf h3' m19 with hl | hl
    · match ks, hl with
      | [x], _ =>
        rw [comeL, comeL]
        by_cases he : (comeP row x).2 = 0
        · rw [if_neg (by simpa using he)]
          have hc := come_all 43 ⟨g, 0, none⟩ none 0 0 op v tb nm n A 1 c ([x].map XT.ex) (comeP row x).1 zV (rzZ op (comeP row x).1 zV) w h3' m19 rfl (.inl ⟨rfl, rfl⟩) hk
            (fun y hy W hW => by have := IH 0 y hy x rfl W hW; rwa [he] at this) (fun y hy => by simp at hy) (JK _ _ (hvk x (List.mem_cons_self ..)) vk_z) (RK _ _ (hvk x (List.mem_cons_self ..)) vk_z)
          exact hc
        · rw [if_pos he]
          have hc := come_err0 43 ⟨g, 0, none⟩ none 0 0 op v tb nm n A 1 c ([x].map XT.ex) (comeP row x).1 (comeP row x).2 w h3' m19 rfl (by omega) he hk (fun y hy W hW => IH 0 y hy x rfl W hW)
          rw [show comeF op [x].length ([], (comeP row x).2) = (zV, (comeP row x).2) by unfold comeF; rw [if_pos he]]
          exact hc
    · match ks, hl with
      | [x, y], _ =>
        rw [comeL, comeL, comeL]
        by_cases he : (comeP row x).2 = 0
        · rw [if_neg (by simpa using he)]
          by_cases he2 : (comeP row y).2 = 0
          · rw [if_neg (by simpa using he2)]
            have hc := come_all 43 ⟨g, 0, none⟩ none 0 0 op v tb nm n A 2 c ([x, y].map XT.ex) (comeP row x).1 (comeP row y).1 (rzZ op (comeP row x).1 (comeP row y).1) w h3' m19 rfl (.inr rfl) hk
              (fun z hz W hW => by have := IH 0 z hz x rfl W hW; rwa [he] at this) (fun z hz W hW => by have := IH 1 z hz y rfl W hW; rwa [he2] at this) (JK _ _ (hvk x (List.mem_cons_self ..)) (hvk y (by simp))) (RK _ _ (hvk x (List.mem_cons_self ..)) (hvk y (by simp)))
            exact hc
          · rw [if_pos he2]
            have hc := come_err1 43 ⟨g, 0, none⟩ none 0 0 op v tb nm n A 2 c ([x, y].map XT.ex) (comeP row x).1 (comeP row y).1 (comeP row y).2 w h3' m19 rfl rfl he2 hk
              (fun z hz W hW => by have := IH 0 z hz x rfl W hW; rwa [he] at this) (fun z hz W hW => IH 1 z hz y rfl W hW)
            rw [show comeF op [x, y].length ([(comeP row x).1], (comeP row y).2) = (zV, (comeP row y).2) by unfold comeF; rw [if_pos he2]]
            exact hc
        · rw [if_pos he]
          have hc := come_err0 43 ⟨g, 0, none⟩ none 0 0 op v tb nm n A 2 c ([x, y].map XT.ex) (comeP row x).1 (comeP row x).2 w h3' m19 rfl (by omega) he hk (fun z hz W hW => IH 0 z hz x rfl W hW)
          rw [show comeF op [x, y].length ([], (comeP row x).2) = (zV, (comeP row x).2) by unfold comeF; rw [if_pos he]]
          exact hc
end Go.Proofs.Ytkgpcodccpckeaa
