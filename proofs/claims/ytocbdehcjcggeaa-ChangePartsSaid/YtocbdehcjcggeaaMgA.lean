/- Layer 22: an order of changes; sorting, deleting; the map of keys. Conditions: those of each lemma. -/
import Derived.Test.YtocbdehcjcggeaaBelD
import Derived.Test.YtocbdehcjcggeaaCg9
import Derived.Test.YtocbdehcjcggeaaSortK
import Derived.Test.YtocbdehcjcggeaaRecR1
import Derived.Shelf.SlSortCmp.NoneTotal
import Derived.Lib.SliceRun
import Derived.Maps.OwnSet
import Derived.Maps.OwnOps
import Derived.Maps.Views
import Derived.Maps.Ext
import Derived.DeepKeys4
namespace Go.Proofs.Ytocbdehcjcggeaa
open Go.RowKit Go
set_option linter.unusedVariables false
set_option linter.unusedSimpArgs false
/-- an order in which some may stand equal -/
structure Pre {α : Type} (c : α → α → Int) : Prop where
  neg : ∀ x y, c y x = - c x y
  tr : ∀ x y z, c x y ≤ 0 → c y z ≤ 0 → c x z ≤ 0
theorem Pre.zero {α : Type} {c : α → α → Int} (h : Pre c) (x : α) : c x x = 0 := by have := h.neg x x; omega
theorem Pre.both {α : Type} {c : α → α → Int} (h : Pre c) {x y z : α} (h1 : c x y ≤ 0) (h2 : c y z ≤ 0) (h3 : c x z = 0) : c x y = 0 ∧ c y z = 0 := by
  have a1 := h.neg x z
  have a2 := h.neg x y
  have a3 := h.neg y z
  have b1 := h.tr z x y (by omega) h1
  have b2 := h.tr y z x h2 (by omega)
  have c1 := h.neg z y
  have c2 := h.neg y x
  omega
theorem cmpI_neg (a b : Int) : cmpI b a = - cmpI a b := by
  unfold cmpI
  rcases Int.lt_trichotomy a b with h | h | h
  · rw [if_neg (by omega), if_pos (by omega), if_pos h]; rfl
  · rw [if_neg (by omega), if_neg (by omega), if_neg (by omega), if_neg (by omega)]; rfl
  · rw [if_pos h, if_neg (by omega), if_pos h]
theorem cmpI_le {a b : Int} : cmpI a b ≤ 0 ↔ a ≤ b := by
  rcases Int.lt_trichotomy a b with h | h | h
  · have : cmpI a b = -1 := by unfold cmpI; rw [if_pos h]
    omega
  · have : cmpI a b = 0 := by unfold cmpI; rw [if_neg (by omega), if_neg (by omega)]
    omega
  · have : cmpI a b = 1 := by unfold cmpI; rw [if_neg (by omega), if_pos (by omega)]
    omega
theorem cmpI_zero {a b : Int} (h : cmpI a b = 0) : a = b := by
  have h1 := cmpI_le (a := a) (b := b)
  have h2 := cmpI_le (a := b) (b := a)
  have h3 := cmpI_neg a b
  omega
theorem cmpI_pre : Pre cmpI := ⟨cmpI_neg, fun x y z h1 h2 => cmpI_le.2 (by have := cmpI_le.1 h1; have := cmpI_le.1 h2; omega)⟩
theorem cmpL_neg : ∀ a b : List Nat, cmpL b a = - cmpL a b
  | [], [] => rfl
  | [], _ :: _ => rfl
  | _ :: _, [] => rfl
  | x :: a, y :: b => by
    rcases Nat.lt_trichotomy x y with h | rfl | h
    · rw [cmpL_lt h, cmpL_gt h]; rfl
    · rw [cmpL_eq, cmpL_eq]; exact cmpL_neg a b
    · rw [cmpL_gt h, cmpL_lt h]
theorem cmpL_tr : ∀ a b c : List Nat, cmpL a b ≤ 0 → cmpL b c ≤ 0 → cmpL a c ≤ 0
  | [], _, [], _, _ => by simp [cmpL]
  | [], _, _ :: _, _, _ => by simp [cmpL]
  | _ :: _, [], _, h, _ => by simp [cmpL] at h
  | _ :: _, _ :: _, [], _, h => by simp [cmpL] at h
  | x :: a, y :: b, z :: c, h1, h2 => by
    rcases Nat.lt_trichotomy x y with h | rfl | h
    · rcases Nat.lt_trichotomy y z with k | rfl | k
      · rw [cmpL_lt (by omega)]; omega
      · rw [cmpL_lt h]; omega
      · rw [cmpL_gt k] at h2; omega
    · rcases Nat.lt_trichotomy x z with k | rfl | k
      · rw [cmpL_lt k]; omega
      · rw [cmpL_eq] at h1 h2 ⊢; exact cmpL_tr a b c h1 h2
      · rw [cmpL_gt k] at h2; omega
    · rw [cmpL_gt h] at h1; omega
theorem cmpL_zero : ∀ {a b : List Nat}, cmpL a b = 0 → a = b
  | [], [], _ => rfl
  | [], _ :: _, h => by simp [cmpL] at h
  | _ :: _, [], h => by simp [cmpL] at h
  | x :: a, y :: b, h => by
    rcases Nat.lt_trichotomy x y with k | rfl | k
    · rw [cmpL_lt k] at h; cases h
    · rw [cmpL_eq] at h; rw [cmpL_zero h]
    · rw [cmpL_gt k] at h; cases h
theorem cmpL_pre : Pre cmpL := ⟨cmpL_neg, cmpL_tr⟩
theorem valCmp_ne {x y : Val} (h : x.1 ≠ y.1) : valCmp x y = cmpI x.1 y.1 := by unfold valCmp; rw [if_pos h]
theorem valCmp_1 {x y : Val} (h : x.1 = y.1) (h1 : x.1 = 1) : valCmp x y = cmpI x.2.1 y.2.1 := by unfold valCmp; rw [if_neg (fun e => e h), if_pos h1]
theorem valCmp_23 {x y : Val} (h : x.1 = y.1) (h1 : x.1 = 2 ∨ x.1 = 3) : valCmp x y = cmpL (bts x.2.2) (bts y.2.2) := by unfold valCmp; rw [if_neg (fun e => e h), if_neg (by omega), if_pos h1]
theorem valCmp_o {x y : Val} (h : x.1 = y.1) (h1 : ¬ x.1 = 1) (h2 : ¬ (x.1 = 2 ∨ x.1 = 3)) : valCmp x y = 0 := by unfold valCmp; rw [if_neg (fun e => e h), if_neg h1, if_neg h2]
theorem valCmp_pre : Pre valCmp := by
  refine ⟨fun x y => ?_, fun x y z h1 h2 => ?_⟩
  · by_cases h : x.1 = y.1
    · by_cases k1 : x.1 = 1
      · rw [valCmp_1 h k1, valCmp_1 h.symm (by omega)]; exact cmpI_neg _ _
      · by_cases k2 : x.1 = 2 ∨ x.1 = 3
        · rw [valCmp_23 h k2, valCmp_23 h.symm (by omega)]; exact cmpL_neg _ _
        · rw [valCmp_o h k1 k2, valCmp_o h.symm (by omega) (by omega)]; rfl
    · rw [valCmp_ne h, valCmp_ne (fun e => h e.symm)]; exact cmpI_neg _ _
  · have e1 : x.1 ≤ y.1 := by
      by_cases h : x.1 = y.1
      · omega
      · rw [valCmp_ne h] at h1; exact cmpI_le.1 h1
    have e2 : y.1 ≤ z.1 := by
      by_cases h : y.1 = z.1
      · omega
      · rw [valCmp_ne h] at h2; exact cmpI_le.1 h2
    by_cases h : x.1 = z.1
    · have hxy : x.1 = y.1 := by omega
      have hyz : y.1 = z.1 := by omega
      by_cases k1 : x.1 = 1
      · rw [valCmp_1 hxy k1] at h1
        rw [valCmp_1 hyz (by omega)] at h2
        rw [valCmp_1 h k1]
        exact cmpI_pre.tr _ _ _ h1 h2
      · by_cases k2 : x.1 = 2 ∨ x.1 = 3
        · rw [valCmp_23 hxy k2] at h1
          rw [valCmp_23 hyz (by omega)] at h2
          rw [valCmp_23 h k2]
          exact cmpL_tr _ _ _ h1 h2
        · rw [valCmp_o h k1 k2]; omega
    · rw [valCmp_ne h]; exact cmpI_le.2 (by omega)
theorem rowCmp_neg : ∀ a b : List Val, rowCmp b a = - rowCmp a b
  | [], [] => rfl
  | [], _ :: _ => rfl
  | _ :: _, [] => rfl
  | x :: a, y :: b => by
    have h := valCmp_pre.neg x y
    simp only [rowCmp]
    by_cases h0 : valCmp x y = 0
    · rw [if_neg (by omega), if_neg (by omega)]; exact rowCmp_neg a b
    · rw [if_pos (by omega), if_pos h0]; exact h
theorem rowCmp_tr : ∀ a b c : List Val, rowCmp a b ≤ 0 → rowCmp b c ≤ 0 → rowCmp a c ≤ 0
  | [], _, [], _, _ => by simp [rowCmp]
  | [], _, _ :: _, _, _ => by simp [rowCmp]
  | _ :: _, [], _, h, _ => by simp [rowCmp] at h
  | _ :: _, _ :: _, [], _, h => by simp [rowCmp] at h
  | x :: a, y :: b, z :: c, h1, h2 => by
    simp only [rowCmp] at h1 h2 ⊢
    have e1 : valCmp x y ≤ 0 := by
      by_cases h0 : valCmp x y = 0
      · omega
      · rw [if_pos h0] at h1; exact h1
    have e2 : valCmp y z ≤ 0 := by
      by_cases h0 : valCmp y z = 0
      · omega
      · rw [if_pos h0] at h2; exact h2
    have e3 := valCmp_pre.tr x y z e1 e2
    by_cases h0 : valCmp x z = 0
    · obtain ⟨f1, f2⟩ := valCmp_pre.both e1 e2 h0
      rw [if_neg (by omega)] at h1 h2
      rw [if_neg (by omega)]
      exact rowCmp_tr a b c h1 h2
    · rw [if_pos h0]; exact e3
theorem rowCmp_pre : Pre rowCmp := ⟨rowCmp_neg, rowCmp_tr⟩
theorem cgCmp_pre : Pre cgCmp := by
  refine ⟨fun x y => ?_, fun x y z h1 h2 => ?_⟩
  · have h := cmpL_neg (bts x.t) (bts y.t)
    have k := rowCmp_neg x.k y.k
    unfold cgCmp or2
    by_cases h0 : cmpL (bts x.t) (bts y.t) = 0
    · rw [if_pos (by omega), if_pos h0]; exact k
    · rw [if_neg (by omega), if_neg h0]; exact h
  · unfold cgCmp or2 at h1 h2 ⊢
    have e1 : cmpL (bts x.t) (bts y.t) ≤ 0 := by
      by_cases h0 : cmpL (bts x.t) (bts y.t) = 0
      · omega
      · rw [if_neg h0] at h1; exact h1
    have e2 : cmpL (bts y.t) (bts z.t) ≤ 0 := by
      by_cases h0 : cmpL (bts y.t) (bts z.t) = 0
      · omega
      · rw [if_neg h0] at h2; exact h2
    have e3 := cmpL_tr _ _ _ e1 e2
    by_cases h0 : cmpL (bts x.t) (bts z.t) = 0
    · obtain ⟨f1, f2⟩ := cmpL_pre.both e1 e2 h0
      rw [if_pos f1] at h1
      rw [if_pos f2] at h2
      rw [if_pos h0]
      exact rowCmp_tr _ _ _ h1 h2
    · rw [if_neg h0]; exact e3
theorem valCmp_zero {x y : Val} (h : valCmp x y = 0) (hx : chk x = 0) (hy : chk y = 0) (fx : 0 ≤ x.1) : x = y := by
  obtain ⟨a1, a2, a3, a4⟩ := chk_of hx
  obtain ⟨b1, b2, b3, b4⟩ := chk_of hy
  obtain ⟨p, q, s⟩ := x
  obtain ⟨p', q', s'⟩ := y
  simp only at a1 a2 a3 b1 b2 b3 fx
  have hp : p = p' := by
    by_cases e : p = p'
    · exact e
    · rw [valCmp_ne (x := (p, q, s)) (y := (p', q', s')) e] at h; exact cmpI_zero h
  subst hp
  have hem : ∀ z : ByteArray, z.size = 0 → z = ⟨#[]⟩ := fun z hz => by
    have h1 : bts z = [] := List.eq_nil_of_length_eq_zero (by rw [bts_length]; exact hz)
    rw [← bstr_bts z, h1]
    rfl
  by_cases k1 : p = 1
  · rw [valCmp_1 (x := (p, q, s)) (y := (p, q', s')) rfl k1] at h
    have := cmpI_zero h
    simp only at this
    rw [this, hem s (a3 (by omega)), hem s' (b3 (by omega))]
  · rw [a2 k1, b2 k1]
    by_cases k2 : p = 2 ∨ p = 3
    · rw [valCmp_23 (x := (p, q, s)) (y := (p, q', s')) rfl k2] at h
      have e : s = s' := bts_inj (cmpL_zero h)
      rw [e]
    · rw [hem s (a3 (by omega)), hem s' (b3 (by omega))]
theorem rowCmp_zero : ∀ {a b : List Val}, rowCmp a b = 0 → (∀ x ∈ a, chk x = 0 ∧ 0 ≤ x.1) → (∀ x ∈ b, chk x = 0) → a = b
  | [], [], _, _, _ => rfl
  | [], _ :: _, h, _, _ => by simp [rowCmp] at h
  | _ :: _, [], h, _, _ => by simp [rowCmp] at h
  | x :: a, y :: b, h, ha, hb => by
    simp only [rowCmp] at h
    by_cases h0 : valCmp x y = 0
    · rw [if_neg (by omega)] at h
      rw [valCmp_zero h0 (ha x (List.mem_cons_self ..)).1 (hb y (List.mem_cons_self ..)) (ha x (List.mem_cons_self ..)).2, rowCmp_zero h (fun z hz => ha z (List.mem_cons_of_mem _ hz)) (fun z hz => hb z (List.mem_cons_of_mem _ hz))]
    · rw [if_pos h0] at h; exact absurd h h0
theorem may_key {x : Cg} (h : mayC x = true) : x.k ≠ [] ∧ ∀ y ∈ x.k, chk y = 0 := by
  unfold mayC at h
  simp only [Bool.and_eq_true, decide_eq_true_eq] at h
  have h3 := h.2.2.1
  have h4 := h.2.2.2.1
  unfold sizeZ at h4
  split at h4
  · rename_i h5
    exact ⟨fun e => by rw [e] at h3; simp at h3, chkL_mem (chkR_chkL h5)⟩
  · cases h4
/-- of two that may be: which stand equal have one table and one key -/
theorem cgCmp_zero {x y : Cg} (h : cgCmp x y = 0) (hx : mayC x = true) (hy : mayC y = true) (fx : ∀ z ∈ x.k, Fits z) : x.t = y.t ∧ x.k = y.k := by
  unfold cgCmp or2 at h
  by_cases h0 : cmpL (bts x.t) (bts y.t) = 0
  · rw [if_pos h0] at h
    exact ⟨bts_inj (cmpL_zero h0), rowCmp_zero h (fun z hz => ⟨(may_key hx).2 z hz, (fx z hz).1⟩) (may_key hy).2⟩
  · rw [if_neg h0] at h; exact absurd h h0
theorem swo_of {α β : Type} {c : α → α → Int} (h : Pre c) (f : β → α) : Sort.SWO (ltOf fun x y => c (f x) (f y)) where
  irrefl x := by show decide (c (f x) (f x) < 0) = false; rw [h.zero]; rfl
  trans x y z h1 h2 := by
    unfold ltOf at *
    simp only [decide_eq_true_eq] at *
    have h3 := h.tr (f x) (f y) (f z) (by omega) (by omega)
    by_cases e : c (f x) (f z) = 0
    · have := (h.both (x := f x) (y := f y) (z := f z) (by omega) (by omega) e).1; omega
    · omega
  ntrans x y z h1 h2 := by
    unfold ltOf at *
    simp only [decide_eq_false_iff_not] at *
    have a1 := h.neg (f x) (f y)
    have a2 := h.neg (f y) (f z)
    have a3 := h.neg (f x) (f z)
    have h3 := h.tr (f z) (f y) (f x) (by omega) (by omega)
    omega
end Go.Proofs.Ytocbdehcjcggeaa
namespace Go.Proofs.Ytocbdehcjcggeaa
open Go.RowKit Go
set_option linter.unusedVariables false
set_option linter.unusedSimpArgs false
abbrev cgE (x : Cg) : List Value := [.string x.t, .slice x.kA x.k.length x.kc, .slice x.oA x.o.length x.oc, .slice x.nA x.n.length x.nc]
def cgCs (l : List Cg) : List Value := l.flatMap cgE
theorem cgCs_cons (x : Cg) (l : List Cg) : cgCs (x :: l) = cgE x ++ cgCs l := by simp [cgCs]
theorem cgCs_len (l : List Cg) : (cgCs l).length = l.length * 4 := by
  induction l with
  | nil => rfl
  | cons x l ih => rw [cgCs_cons, List.length_append, ih, List.length_cons]; simp; omega
theorem cgCs_snoc (l : List Cg) (x : Cg) : cgCs (l ++ [x]) = cgCs l ++ cgE x := by simp [cgCs]
theorem cgCs_get : ∀ (l : List Cg) (i c : Nat) (x : Cg), l[i]? = some x → c < 4 → (cgCs l)[i * 4 + c]? = some (cgE x)[c]!
  | [], i, c, x, h, _ => by simp at h
  | y :: l, 0, c, x, h, hc => by
    simp only [List.getElem?_cons_zero, Option.some.injEq] at h
    subst h
    rw [cgCs_cons, List.getElem?_append_left (by simp; omega)]
    have : c = 0 ∨ c = 1 ∨ c = 2 ∨ c = 3 := by omega
    rcases this with rfl | rfl | rfl | rfl <;> rfl
  | y :: l, i + 1, c, x, h, hc => by
    simp only [List.getElem?_cons_succ] at h
    rw [cgCs_cons, List.getElem?_append_right (by simp; omega)]
    have e : (i + 1) * 4 + c - (cgE y).length = i * 4 + c := by simp; omega
    rw [e]
    exact cgCs_get l i c x h hc
/-- what stands in a slice of one's own -/
theorem own_cells {W : World} {base g n cap : Nat} {l : List Cg} (h : W.ownsRow base 33 4 (.slice (some ⟨g, 0, none⟩) n cap) n (cgCs l)) (hn : n = l.length) {i : Nat} {x : Cg} (hx : l[i]? = some x) : CgAt W g (i * 4) x := by
  have hi : i < n := by
    rcases Nat.lt_or_ge i l.length with h1 | h1
    · omega
    · rw [List.getElem?_eq_none h1] at hx; cases hx
  have hc : ∀ c, c < 4 → W.cell? ⟨g, i * 4 + c, none⟩ = some (cgE x)[c]! := fun c hc => by
    rw [h.cellAt (i * 4 + c) (by omega)]
    exact cgCs_get l i c x hx hc
  exact ⟨hc 0 (by omega), hc 1 (by omega), hc 2 (by omega), hc 3 (by omega)⟩
theorem eg34 : ∀ args w, (callFunc 34 args).run Try.prog w = .ok (.enter 34 args) w := enters_of Try.func34 (by kernel_rfl) rfl
theorem own_of_holds {w : World} {base g n cap : Nat} {l l' : List Cg} {W : World} {cur : Array Value} (hg : W.heap[g]? = some (.cells cur 33 (0, 0))) (hb : base ≤ g) (hn : n = l'.length) (hnc : n ≤ cap) (hcm : cap ≤ maxLen) (hcs : cur.size = cap * 4)
    (hc : ∀ (i c : Nat) x, l'[i]? = some x → c < 4 → W.cell? ⟨g, i * 4 + c, none⟩ = some (cgE x)[c]!) : W.ownsRow base 33 4 (.slice (some ⟨g, 0, none⟩) n cap) n (cgCs l') := by
  refine ⟨by rw [cgCs_len, hn], .inr ⟨g, cap, cur, rfl, hb, hg, hnc, hcm, hcs, ?_⟩⟩
  apply List.ext_getElem?
  intro j
  by_cases hj : j < n * 4
  · rw [List.getElem?_take_of_lt hj]
    have hi : j / 4 < l'.length := by omega
    have h1 := hc (j / 4) (j % 4) l'[j / 4] (List.getElem?_eq_getElem hi) (by omega)
    have h2 := cgCs_get l' (j / 4) (j % 4) l'[j / 4] (List.getElem?_eq_getElem hi) (by omega)
    rw [show j / 4 * 4 + j % 4 = j by omega] at h1 h2
    rw [h2, ← h1]
    simp [World.cell?, hg]
  · rw [List.getElem?_eq_none (by rw [List.length_take]; omega), List.getElem?_eq_none (by rw [cgCs_len]; omega)]
set_option maxHeartbeats 2000000 in
theorem sort_own (base : Nat) (A : Option Addr) (cap n : Nat) (l : List Cg) (w : World) (hO : w.ownsRow base 33 4 (.slice A n cap) n (cgCs l)) (hn : n = l.length) (hI : ∀ x ∈ l, CgIn w base x) (hL : ∀ x ∈ l, x.k.length ≤ 100) (hbw : base ≤ w.heap.size) (hsm : n ≤ 100000) :
    Calls Try.prog 33 #[.slice A n cap, .func (.func 34) #[] #[]] w fun e w' => e = .returned (.tuple #[]) ∧ ∃ l', l'.Perm l ∧ (∀ (i j : Nat) x y, i < j → l'[i]? = some x → l'[j]? = some y → cgCmp x y ≤ 0) ∧ w'.ownsRow base 33 4 (.slice A n cap) n (cgCs l') ∧ Below base w w' := by
  rcases hO.2 with ⟨hv, h0⟩ | ⟨g, cap', cur, hv, hbg, hg, hnc, hcm, hcs, htk⟩
  · subst h0
    obtain rfl : l = [] := List.eq_nil_of_length_eq_zero hn.symm
    have h := AnyF.slices_SortFunc_none (P := Try.prog) (ρ := Try.sortK_ren) Try.sortK A cap (.func (.func 34) #[] #[]) w
    exact h.mono fun e w' he => ⟨he.1, [], List.Perm.refl _, fun i j x y _ hx _ => by simp at hx, by rw [he.2]; exact hO, by rw [he.2]; exact Below.refl _ _⟩
  · simp only [Value.slice.injEq] at hv
    obtain ⟨rfl, _, rfl⟩ := hv
    by_cases h0 : l = []
    · subst h0
      obtain rfl : n = 0 := hn
      have h := AnyF.slices_SortFunc_none (P := Try.prog) (ρ := Try.sortK_ren) Try.sortK (some ⟨g, 0, none⟩) cap (.func (.func 34) #[] #[]) w
      exact h.mono fun e w' he => ⟨he.1, [], List.Perm.refl _, fun i j x y _ hx _ => by simp at hx, by rw [he.2]; exact hO, by rw [he.2]; exact Below.refl _ _⟩
    · have hgl : g < w.heap.size := by
        rcases Nat.lt_or_ge g w.heap.size with h | h
        · exact h
        · rw [Array.getElem?_eq_none h] at hg; cases hg
      obtain ⟨a, l0, hal⟩ := List.exists_cons_of_ne_nil h0
      haveI : Inhabited {x // x ∈ l} := ⟨⟨a, by rw [hal]; exact List.mem_cons_self ..⟩⟩
      have hds : l.attach.toArray.size = n := by simp [hn]
      have hdg : ∀ i, (hi : i < l.length) → (l.attach.toArray[i]!).1 = l[i] := fun i hi => by
        rw [getElem!_pos _ i (by simpa using hi)]
        simp
      have hH : Sort.HoldsK (fun x : {x // x ∈ l} => cgE x.1) 4 w g 0 l.attach.toArray := fun j hj => by
        rw [Sort.size_flatK, hds] at hj
        rw [Sort.get_flatK _ _ _ _ (by rw [hds]; exact hj), Nat.zero_add, hdg _ (by omega)]
        refine ⟨?_, hO.frozenAt j⟩
        rw [hO.cellAt j hj]
        have := cgCs_get l (j / 4) (j % 4) l[j / 4] (List.getElem?_eq_getElem (by omega)) (by omega)
        rw [show j / 4 * 4 + j % 4 = j by omega] at this
        exact this
      have hbel : ∀ (m : Nat) (os : Array Obj) (dk : Array {x // x ∈ l}), Below base w (sortWorldK (fun x : {x // x ∈ l} => cgE x.1) 4 w g 0 m dk os) := fun m os dk => by
        refine ⟨rfl, rfl, rfl, size_sortWorldK_c _ _ _ _ _ _ _ _, fun k hk => ?_⟩
        unfold sortWorldK
        rw [Sort.heap_grow_old _ _ (by show k < (Sort.putRowK _ 4 _ g 0 dk).heap.size; unfold Sort.putRowK; rw [Sort.size_putRow]; show k < w.heap.size; omega)]
        unfold Sort.putRowK Sort.putRow Sort.mapBlock
        rw [Array.getElem?_modify, if_neg (by omega)]
        rfl
      have hcmp : CmpLays Try.prog 34 #[] (fun x : {x // x ∈ l} => cgE x.1) 4 (fun x y => cgCmp x.1 y.1) g 0 l.attach.toArray.size w := fun m os dk hdk x y => by
        have hb := hbel m os dk
        have hx := vals_mono (vals_below (hI x.1 x.2).1 hb) (Nat.le_trans hbw hb.size)
        have hy := vals_mono (vals_below (hI y.1 y.2).1 hb) (Nat.le_trans hbw hb.size)
        exact (D.cgcompare_any x.1 y.1 _ hx hy (hL _ x.2) (hL _ y.2)).mono fun e w' he => ⟨he.1, D.grow_of he.2⟩
      have hcon := AnyQ.slices_SortFunc Try.sortK 4 (fun _ => by kernel_rfl) (fun _ => by kernel_rfl) (fun x : {x // x ∈ l} => cgE x.1) (fun _ => rfl) (fun x v hv => by simp at hv; rcases hv with rfl | rfl | rfl | rfl <;> rfl) (fun x y => cgCmp x.1 y.1) (swo_of cgCmp_pre Subtype.val) 34 #[] g 0 cap l.attach.toArray w eg34 hcmp hH hgl (by rw [hds]; omega)
      rw [hds] at hcon
      refine hcon.mono ?_
      rintro e w' ⟨rfl, d', q, os, hp, hs, rfl⟩
      have hd' : d'.size = n := hp.1.trans hds
      have hdg' : ∀ i, (hi : i < n) → (d'.toList.map Subtype.val)[i]? = some (d'[i]!).1 := fun i hi => by
        rw [List.getElem?_map, Array.getElem?_toList, Array.getElem?_eq_getElem (by omega), getElem!_pos d' i (by omega)]
        rfl
      have hlen : (d'.toList.map Subtype.val).length = n := by simp [hd']
      have hget : ∀ (i : Nat) x, (d'.toList.map Subtype.val)[i]? = some x → i < n ∧ x = (d'[i]!).1 := fun i x hx => by
        have hi : i < n := by
          rcases Nat.lt_or_ge i n with h | h
          · exact h
          · rw [List.getElem?_eq_none (by omega)] at hx; cases hx
        rw [hdg' i hi] at hx
        exact ⟨hi, (Option.some.inj hx).symm⟩
      have hHW := holdsK_sortWorldK_c (fun x : {x // x ∈ l} => cgE x.1) 4 w g 0 l.attach.toArray d' q os hH hgl (by rw [hd', hds])
      refine ⟨rfl, d'.toList.map Subtype.val, ?_, ?_, ?_, hbel _ _ _⟩
      · have h1 := hp.2.2
        rw [show n = d'.size from hd'.symm] at h1
        have e1 : (d'.extract 0 d'.size).toList = d'.toList := by rw [Array.extract_size]
        have e2 : ((l.attach.toArray).extract 0 d'.size).toList = l.attach := by rw [hd', ← hds, Array.extract_size]
        rw [e1, e2] at h1
        have h2 := h1.map Subtype.val
        rw [List.attach_map_subtype_val] at h2
        exact h2
      · intro i j x y hij hx hy
        obtain ⟨hi, rfl⟩ := hget i x hx
        obtain ⟨hj, rfl⟩ := hget j y hy
        have h1 := hs i j (by omega) hij (by omega)
        unfold ltOf at h1
        have h2 : ¬ cgCmp (d'[j]!).1 (d'[i]!).1 < 0 := of_decide_eq_false h1
        have h3 := cgCmp_pre.neg (d'[i]!).1 (d'[j]!).1
        omega
      · have hgW : ∃ cur', (sortWorldK (fun x : {x // x ∈ l} => cgE x.1) 4 w g 0 q d' os).heap[g]? = some (.cells cur' 33 (0, 0)) ∧ cur'.size = cur.size := by
          unfold sortWorldK
          rw [Sort.heap_grow_old _ _ (by show g < (Sort.putRowK _ 4 _ g 0 d').heap.size; unfold Sort.putRowK; rw [Sort.size_putRow]; exact hgl)]
          unfold Sort.putRowK Sort.putRow Sort.mapBlock
          rw [Array.getElem?_modify, if_pos rfl]
          have : (Sort.ahead w q).heap[g]? = some (.cells cur 33 (0, 0)) := hg
          rw [this]
          exact ⟨_, rfl, by simp [Sort.putCells]⟩
        obtain ⟨cur', hgW, hcs'⟩ := hgW
        refine own_of_holds (w := w) (l := l) hgW hbg hlen.symm hnc hcm (by omega) (fun i c x hx hc => ?_)
        obtain ⟨hi, rfl⟩ := hget i x hx
        have := (hHW.cell (i := i) (c := c) (by omega) hc).1
        rw [Nat.zero_add] at this
        exact this
end Go.Proofs.Ytocbdehcjcggeaa
namespace Go.Proofs.Ytocbdehcjcggeaa
open Go.RowKit Go
set_option linter.unusedVariables false
set_option linter.unusedSimpArgs false
/-- a change that changes nothing -/
def goneC (x : Cg) : Bool := decide (x.o = x.n)
abbrev delV : Value := .func (.func 32) #[] #[]
set_option maxRecDepth 100000 in
set_option maxHeartbeats 2000000 in
theorem gone_any (x : Cg) (w : World) (hI : CgIn w w.heap.size x) (hl : x.o.length ≤ maxLen) :
    Calls Try.prog 32 #[.agg (cgC x)] w fun e w' => e = .returned (.bool (goneC x)) ∧ Below w.heap.size w w' := by
  have HX := Lib.hid (show Cb w (cgC x) (w.alloc (.cells (cgC x) 33)) from ⟨Blk.new w _ _, one_allocC⟩)
  have HEQ := Lib.hid (rowEq_any x.oA x.nA x.o x.n x.o.length x.n.length x.oc x.nc (w.alloc (.cells (cgC x) 33)) (vals_mono (vals_below hI.2.1 HX.out.2) HX.out.2.size) (vals_mono (vals_below hI.2.2 HX.out.2) HX.out.2.size) rfl rfl hl)
  obtain ⟨p0, p1, p2, p3⟩ := cb_cells HX.out
  clear hI hl
  unfold goneC
  generalize decide (x.o = x.n) = r at *
  go_enter Try.func32, Try.ntmps32
  go_wp2_with fail
  refine (HEQ.out).mono ?_
  rintro e w1 ⟨rfl, hb⟩
  have HB := Lib.hid (bj HX.out.2 hb)
  clear p0 p1 p2 p3 hb
  go_wp2
  go_ret
  exact ⟨rfl, HB.out⟩
/-- what slices.IndexFunc tells -/
def IdxP (l : List Cg) (e : Ending) : Prop :=
  (∃ (j : Nat) (x : Cg), l[j]? = some x ∧ goneC x = true ∧ (∀ (k : Nat) y, k < j → l[k]? = some y → goneC y = false) ∧ e = .returned (.int .i64 j)) ∨ ((∀ x ∈ l, goneC x = false) ∧ e = .returned (.int .i64 (-1)))
set_option maxRecDepth 100000 in
set_option maxHeartbeats 4000000 in
theorem index_own (base : Nat) (A : Option Addr) (cap n : Nat) (l : List Cg) (w : World) (hO : w.ownsRow base 33 4 (.slice A n cap) n (cgCs l)) (hn : n = l.length) (hI : ∀ x ∈ l, CgIn w base x) (hL : ∀ x ∈ l, x.o.length ≤ maxLen) (hbw : base ≤ w.heap.size) (hsm : n ≤ 100000) :
    Calls Try.prog 56 #[.slice A n cap, delV] w fun e w' => IdxP l e ∧ Below w.heap.size w w' := by
  have HN := Lib.hid hn
  have HO := Lib.hid hO
  have HI := Lib.hid hI
  have HL := Lib.hid hL
  have HB := Lib.hid hbw
  have hnI : (n : Int) ≤ 100000 := by omega
  clear hO hI hL hbw hn
  go_enter Try.func56, Try.ntmps56
  go_wp2
  go_loopw [8] (fun i wr => ∃ j : Nat, j ≤ n ∧ i = .int .i64 j ∧ (∀ (k : Nat) y, k < j → l[k]? = some y → goneC y = false) ∧ Below w.heap.size w wr) (fun i _ => n - (intOf i).toNat)
  case atStart => exact ⟨0, by omega, rfl, fun k y h => by omega, Below.refl _ _⟩
  case round =>
    obtain ⟨j, hj, rfl, hall, hb⟩ := hrel
    by_cases hjn : j < n
    · have hlt : j < l.length := by have := HN.out; omega
      obtain ⟨g, rfl⟩ : ∃ g, A = some ⟨g, 0, none⟩ := by
        rcases HO.out.2 with ⟨hv, h0⟩ | ⟨g, cap', cur, hv, _⟩
        · omega
        · simp only [Value.slice.injEq] at hv
          exact ⟨g, hv.1⟩
      have hox := own_below HO.out hb
      obtain ⟨a0, a1, a2, a3⟩ := own_cells hox HN.out (List.getElem?_eq_getElem hlt)
      have HX := Lib.hid (gone_any l[j] wr (cgIn_mono (cgIn_below (HI.out _ (List.getElem_mem hlt)) (hb.mono HB.out)) (Nat.le_trans HB.out hb.size)) (HL.out _ (List.getElem_mem hlt)))
      have HLJ := Lib.hid (List.getElem?_eq_getElem hlt)
      have HALL := Lib.hid hall
      have HBR := Lib.hid hb
      have hjI : (j : Int) < n := by omega
      generalize l[j] = x at *
      clear hox hall hb hlt
      rcases hgx : goneC x with _ | _
      · have HS := Lib.hid (show ∀ (k : Nat) y, k < j + 1 → l[k]? = some y → goneC y = false from fun k y hk hy => by
          rcases Nat.lt_or_ge k j with h | h
          · exact HALL.out k y h hy
          · obtain rfl : k = j := by omega
            rw [HLJ.out] at hy
            cases hy
            exact hgx)
        rw [hgx] at HX
        clear hgx
        go_wp2_with fail
        refine (HX.out).mono ?_
        rintro e w1 ⟨rfl, hb⟩
        go_wp2
        go_roundw
        case rel => exact ⟨j + 1, by omega, by go_num, HS.out, bj HBR.out hb⟩
        case measure => simp [intOf]; omega
      · have HS := Lib.hid hgx
        rw [hgx] at HX
        clear hgx
        go_wp2_with fail
        refine (HX.out).mono ?_
        rintro e w1 ⟨rfl, hb⟩
        go_wp2
        go_ret
        exact ⟨.inl ⟨j, x, HLJ.out, HS.out, HALL.out, rfl⟩, bj HBR.out hb⟩
    · obtain rfl : j = n := by omega
      have HALL := Lib.hid (show ∀ x ∈ l, goneC x = false from fun x hx => by
        obtain ⟨k, hk, rfl⟩ := List.mem_iff_getElem.1 hx
        exact hall k _ (by have := HN.out; omega) (List.getElem?_eq_getElem hk))
      clear hall
      go_wp2
      go_ret
      exact ⟨.inr ⟨HALL.out, rfl⟩, hb⟩
theorem cgCs_set : ∀ (m : List Cg) (i : Nat) (x : Cg), i < m.length → ((((cgCs m).set (i * 4) (.string x.t)).set (i * 4 + 1) (.slice x.kA x.k.length x.kc)).set (i * 4 + 2) (.slice x.oA x.o.length x.oc)).set (i * 4 + 3) (.slice x.nA x.n.length x.nc) = cgCs (m.set i x)
  | [], i, x, h => by simp at h
  | y :: m, 0, x, h => by simp [cgCs_cons]
  | y :: m, i + 1, x, h => by
    have ih := cgCs_set m i x (by simpa using h)
    rw [List.set_cons_succ, cgCs_cons, cgCs_cons, ← ih]
    have e0 : (i + 1) * 4 = i * 4 + 1 + 1 + 1 + 1 := by omega
    rw [e0]
    simp [cgE]
theorem cgCs_take : ∀ (m : List Cg) (k : Nat), cgCs (m.take k) = (cgCs m).take (k * 4)
  | [], k => by simp [cgCs]
  | y :: m, 0 => by simp [cgCs]
  | y :: m, k + 1 => by
    rw [List.take_succ_cons, cgCs_cons, cgCs_cons, cgCs_take m k]
    have e0 : (k + 1) * 4 = k * 4 + 1 + 1 + 1 + 1 := by omega
    rw [e0]
    simp [cgE]
/-- a change stored into one's own slice -/
theorem own_setC {W : World} {base g n cap : Nat} {m : List Cg} (h : W.ownsRow base 33 4 (.slice (some ⟨g, 0, none⟩) n cap) n (cgCs m)) (i : Nat) (x : Cg) (hi : i < m.length) :
    ((((W.setCell ⟨g, i * 4, none⟩ (.string x.t)).setCell ⟨g, i * 4 + 1, none⟩ (.slice x.kA x.k.length x.kc)).setCell ⟨g, i * 4 + 2, none⟩ (.slice x.oA x.o.length x.oc)).setCell ⟨g, i * 4 + 3, none⟩ (.slice x.nA x.n.length x.nc)).ownsRow base 33 4 (.slice (some ⟨g, 0, none⟩) n cap) n (cgCs (m.set i x)) := by
  rw [← cgCs_set m i x hi]
  exact (((h.stored (i * 4) _).1.stored (i * 4 + 1) _).1.stored (i * 4 + 2) _).1.stored (i * 4 + 3) _ |>.1
theorem own_less {W : World} {base g n cap k : Nat} {m : List Cg} (h : W.ownsRow base 33 4 (.slice (some ⟨g, 0, none⟩) n cap) n (cgCs m)) (hk : k ≤ n) (hn : n = m.length) :
    W.ownsRow base 33 4 (.slice (some ⟨g, 0, none⟩) k cap) k (cgCs (m.take k)) := by
  rcases h.2 with ⟨hv, _⟩ | ⟨g', cap', cur, hv, hb, hg, hnc, hcm, hcs, htk⟩
  · cases hv
  · simp only [Value.slice.injEq, Option.some.injEq, Addr.mk.injEq, and_true, true_and] at hv
    obtain ⟨rfl, rfl⟩ := hv
    refine ⟨by rw [cgCs_len, List.length_take]; omega, .inr ⟨g, cap, cur, rfl, hb, hg, by omega, hcm, hcs, ?_⟩⟩
    rw [cgCs_take, ← htk, List.take_take, Nat.min_eq_left (by omega)]
theorem own_past {base g n cap : Nat} {xs : List Value} : ∀ (vs : List Value) (j : Nat) (W : World), n * 4 ≤ j → W.ownsRow base 33 4 (.slice (some ⟨g, 0, none⟩) n cap) n xs → (W.setCells g j vs).ownsRow base 33 4 (.slice (some ⟨g, 0, none⟩) n cap) n xs
  | [], j, W, _, h => h
  | v :: vs, j, W, hj, h => by
    have h1 := (h.stored j v).1
    rw [List.set_eq_of_length_le (by rw [h.1]; exact hj)] at h1
    exact own_past vs (j + 1) _ (by omega) h1
theorem below_cells {B g : Nat} : ∀ (vs : List Value) (j : Nat) (w W : World), B ≤ g → Below B w W → Below B w (W.setCells g j vs)
  | [], _, _, _, _, h => h
  | v :: vs, j, w, W, hg, h => below_cells vs (j + 1) w _ hg (h.setCell (p := ⟨g, j, none⟩) hg v)
theorem zeroChange (w : World) : (zeroValue 33).run Try.prog w = .ok (.agg #[.string ⟨#[]⟩, .slice none 0 0, .slice none 0 0, .slice none 0 0]) w := by kernel_rfl
/-- 'clear(s[k:])' of one's own slice -/
theorem clear_own {W : World} {base g n cap k : Nat} {xs : List Value} (h : W.ownsRow base 33 4 (.slice (some ⟨g, 0, none⟩) n cap) n xs) (hk : k < n) (ty : TypeId) (c : Nat) :
    ∃ vs, (Builtin.clear_ #[28] ty #[.slice (some ⟨g, k * 4, none⟩) (n - k) c]).run Try.prog W = .ok (.tuple #[]) (W.setCells g (k * 4) vs) := by
  have hz : ∀ v ∈ (Builtin.zeroCells #[.string ⟨#[]⟩, .slice none 0 0, .slice none 0 0, .slice none 0 0] (n - k)).toList, v.oneCell' = true := by
    intro v hv
    simp only [Builtin.zeroCells, Array.toList_map, Array.toList_range, List.mem_map] at hv
    obtain ⟨i, _, rfl⟩ := hv
    have : i % 4 = 0 ∨ i % 4 = 1 ∨ i % 4 = 2 ∨ i % 4 = 3 := by omega
    rcases this with h | h | h | h <;> simp [h, Value.oneCell']
  have hzl : (Builtin.zeroCells #[.string ⟨#[]⟩, .slice none 0 0, .slice none 0 0, .slice none 0 0] (n - k)).toList.length = (n - k) * 4 := by simp [Builtin.zeroCells]
  have hst := run_storeCells_cells (P := Try.prog) g (k * 4) (Builtin.zeroCells #[.string ⟨#[]⟩, .slice none 0 0, .slice none 0 0, .slice none 0 0] (n - k)).toList 0 W (fun j hj => by
    rw [hzl] at hj
    have : W.cell? ⟨g, k * 4 + j, none⟩ = xs[k * 4 + j]? := h.cellAt (k * 4 + j) (by omega)
    rw [Nat.add_zero, this, List.getElem?_eq_getElem (by rw [h.1]; omega)]
    rfl) (fun j hj => h.frozenAt _) hz
  simp only [Nat.add_zero] at hst
  obtain ⟨q, hq⟩ : ∃ q, n - k = q + 1 := ⟨n - k - 1, by omega⟩
  refine ⟨(Builtin.zeroCells #[.string ⟨#[]⟩, .slice none 0 0, .slice none 0 0, .slice none 0 0] (n - k)).toList, ?_⟩
  rw [hq] at hst ⊢
  simp [Builtin.clear_, run_underlying Try.underlying28, zeroChange, Value.cells, hst, Result.andThen]
def keepL (l : List Cg) : List Cg := l.filter fun x => !goneC x
theorem keep_all {l : List Cg} (h : ∀ x ∈ l, goneC x = false) : keepL l = l := by
  unfold keepL
  rw [List.filter_eq_self]
  intro x hx
  rw [h x hx]; rfl
theorem keep_snoc (l : List Cg) (x : Cg) : keepL (l ++ [x]) = keepL l ++ if goneC x = true then [] else [x] := by
  unfold keepL
  rw [List.filter_append]
  cases h : goneC x <;> simp [h]
theorem keep_le (l : List Cg) : (keepL l).length ≤ l.length := List.length_filter_le _ _
/-- in the midst of slices.DeleteFunc -/
structure Df (w : World) (base g n cap : Nat) (l : List Cg) (i j : Nat) (W : World) : Prop where
  e : ∃ m : List Cg, m.length = n ∧ W.ownsRow base 33 4 (.slice (some ⟨g, 0, none⟩) n cap) n (cgCs m) ∧ m.take i = keepL (l.take j) ∧ m.drop j = l.drop j
  i : i < j
  b : Below base w W
set_option maxRecDepth 100000 in
set_option maxHeartbeats 8000000 in
theorem delete_own (base : Nat) (A : Option Addr) (cap n : Nat) (l : List Cg) (w : World) (hO : w.ownsRow base 33 4 (.slice A n cap) n (cgCs l)) (hn : n = l.length) (hI : ∀ x ∈ l, CgIn w base x) (hL : ∀ x ∈ l, x.o.length ≤ maxLen) (hbw : base ≤ w.heap.size) (hsm : n ≤ 100000) :
    Calls Try.prog 31 #[.slice A n cap, delV] w fun e w' => ∃ k, k = (keepL l).length ∧ e = .returned (.slice A k cap) ∧ w'.ownsRow base 33 4 (.slice A k cap) k (cgCs (keepL l)) ∧ Below base w w' := by
  have HIX := Lib.hid (index_own base A cap n l w hO hn hI hL hbw hsm)
  have HN := Lib.hid hn
  have HO := Lib.hid hO
  have HI := Lib.hid hI
  have HL := Lib.hid hL
  have HB := Lib.hid hbw
  have hnI : (n : Int) ≤ 100000 := by omega
  clear hO hI hL hbw hn
  go_enter Try.func31, Try.ntmps31
  go_wp2_with fail
  refine (HIX.out).mono ?_
  rintro e w1 ⟨hix, hb1⟩
  have hb1' := hb1.mono HB.out
  rcases hix with ⟨j, x, hj, hgx, hlo, rfl⟩ | ⟨hall, rfl⟩
  · have hjn : j < n := by
      rcases Nat.lt_or_ge j l.length with h | h
      · have := HN.out; omega
      · rw [List.getElem?_eq_none h] at hj; cases hj
    obtain ⟨g, rfl⟩ : ∃ g, A = some ⟨g, 0, none⟩ := by
      rcases HO.out.2 with ⟨hv, h0⟩ | ⟨g, cap', cur, hv, _⟩
      · omega
      · simp only [Value.slice.injEq] at hv
        exact ⟨g, hv.1⟩
    have hjl : j < l.length := by have := HN.out; omega
    have HDF := Lib.hid (show Df w base g n cap l j (j + 1) w1 from by
      refine ⟨⟨l, HN.out.symm, own_below HO.out hb1, ?_, rfl⟩, by omega, hb1'⟩
      have hk : keepL (l.take j) = l.take j := keep_all (fun y hy => by
        obtain ⟨k, hk, rfl⟩ := List.mem_iff_getElem.1 hy
        rw [List.length_take] at hk
        have : l[k]? = some (l.take j)[k] := by rw [List.getElem_take, List.getElem?_eq_getElem (by omega)]
        exact hlo k _ (by omega) this)
      rw [take_snocC hjl, keep_snoc, hk]
      have : l[j] = x := by rw [List.getElem?_eq_getElem hjl] at hj; exact Option.some.inj hj
      rw [this, if_pos hgx, List.append_nil])
    have hjI : (j : Int) < 100000 := by omega
    have hwj : IntKind.i64.wrap ((j : Int) + 1) = j + 1 := by rw [IntKind.wrap_i64]; omega
    have hne : ((j : Int) == -1) = false := by rw [beq_eq_false_iff_ne]; omega
    have HBW := Lib.hid (Nat.le_trans HB.out hb1.size)
    clear hb1 hb1' hj hgx hlo hjl
    go_wp2
    go_loopw [5, 6] (fun iv jv wr => ∃ i j : Nat, j ≤ n ∧ iv = .int .i64 i ∧ jv = .int .i64 j ∧ Df w base g n cap l i j wr) (fun _ j _ => n - (intOf j).toNat)
    case atStart => exact ⟨j, j + 1, by omega, rfl, by go_num, HDF.out⟩
    case round =>
      clear HDF hjn hjI hwj hne
      obtain ⟨i, j, hjn, rfl, rfl, hdf⟩ := hrel
      obtain ⟨⟨m, hml, hom, htk, hdr⟩, hij, hbb⟩ := hdf
      by_cases hj : j < n
      · have hlt : j < l.length := by have := HN.out; omega
        have hmj : m[j]? = some l[j] := by
          have h1 : (m.drop j)[0]? = (l.drop j)[0]? := by rw [hdr]
          rw [List.getElem?_drop, List.getElem?_drop, Nat.add_zero, List.getElem?_eq_getElem hlt] at h1
          exact h1
        have hcm := own_cells hom hml.symm hmj
        obtain ⟨a0, a1, a2, a3⟩ := hcm
        have hsn : keepL (l.take (j + 1)) = keepL (l.take j) ++ if goneC l[j] = true then [] else [l[j]] := by rw [take_snocC hlt, keep_snoc]
        have hdd : m.drop (j + 1) = l.drop (j + 1) := by
          have h1 := congrArg (List.drop 1) hdr
          rw [List.drop_drop, List.drop_drop] at h1
          exact h1
        have HXI := Lib.hid (HI.out _ (List.getElem_mem hlt))
        have HXL := Lib.hid (HL.out _ (List.getElem_mem hlt))
        obtain ⟨x, hx⟩ : ∃ x, l[j] = x := ⟨_, rfl⟩
        rw [hx] at hsn a0 a1 a2 a3 HXI HXL
        have HC := Lib.hid (show Ck w1 wr.heap.size x (wr.alloc (.cells (cgC x) 33)) ∨ True from .inr trivial)
        have HWS := Lib.hid (Nat.le_trans HB.out hbb.size)
        have HBA := Lib.hid (show Below base wr (wr.alloc (.cells (cgC x) 33)) from (one_allocC).mono HWS.out)
        have HG := Lib.hid (gone_any x (wr.alloc (.cells (cgC x) 33)) (cgIn_mono (cgIn_below (cgIn_below HXI.out hbb) HBA.out) (Nat.le_trans HWS.out (one_allocC (w := wr)).size)) HXL.out)
        have HGL := Lib.hid (show g < wr.heap.size from (hom.lt g rfl).2)
        have HSN := Lib.hid hsn
        have HDD := Lib.hid hdd
        have HTK := Lib.hid htk
        have HOM := Lib.hid hom
        have HML := Lib.hid hml
        have HBB := Lib.hid hbb
        have HIJ := Lib.hid hij
        have hjI : (j : Int) < n := by omega
        have h0j : (0 : Int) ≤ j := by omega
        have hwj : IntKind.i64.wrap ((j : Int) + 1) = j + 1 := by rw [IntKind.wrap_i64]; omega
        clear hom htk hdr hml hbb hsn hdd hmj hlt hx HC hij
        rcases hgx : goneC x with _ | _
        · have HKX := Lib.hid hgx
          rw [hgx] at HG
          clear hgx
          go_wp2_with fail
          refine (HG.out).mono ?_
          rintro e w3 ⟨rfl, hb3⟩
          have hb30 := bj (one_allocC (o := .cells (cgC x) 33)) hb3
          have hblk := (Blk.new wr 33 (cgC x)).below hb3 (by simp)
          have c0 : w3.cell? ⟨wr.heap.size, 0, none⟩ = some (.string x.t) := hblk.cell 0
          have c1 : w3.cell? ⟨wr.heap.size, 1, none⟩ = some (.slice x.kA x.k.length x.kc) := hblk.cell 1
          have c2 : w3.cell? ⟨wr.heap.size, 2, none⟩ = some (.slice x.oA x.o.length x.oc) := hblk.cell 2
          have c3 : w3.cell? ⟨wr.heap.size, 3, none⟩ = some (.slice x.nA x.n.length x.nc) := hblk.cell 3
          have hi : i < m.length := by have := HML.out; have := HIJ.out; omega
          have hom3 := own_below HOM.out hb30
          have hx3 := own_cells hom3 HML.out.symm (List.getElem?_eq_getElem hi)
          obtain ⟨y, hy⟩ : ∃ y, m[i] = y := ⟨_, rfl⟩
          rw [hy] at hx3
          clear hy
          obtain ⟨d0, d1, d2, d3⟩ := hx3
          have f0 := hom3.frozenAt (i * 4)
          have f1 := hom3.frozenAt (i * 4 + 1)
          have f2 := hom3.frozenAt (i * 4 + 2)
          have f3 := hom3.frozenAt (i * 4 + 3)
          have HW := Lib.hid (own_setC hom3 i x hi)
          have HBW3 := Lib.hid ((((((HBB.out.trans (hb30.mono HWS.out)).setCell (p := ⟨g, i * 4, none⟩) (HOM.out.lt g rfl).1 (.string x.t)).setCell (p := ⟨g, i * 4 + 1, none⟩) (HOM.out.lt g rfl).1 (.slice x.kA x.k.length x.kc)).setCell (p := ⟨g, i * 4 + 2, none⟩) (HOM.out.lt g rfl).1 (.slice x.oA x.o.length x.oc)).setCell (p := ⟨g, i * 4 + 3, none⟩) (HOM.out.lt g rfl).1 (.slice x.nA x.n.length x.nc)))
          have hiI : (i : Int) < n := by have := HIJ.out; omega
          have h0i : (0 : Int) ≤ i := by omega
          have hwi : IntKind.i64.wrap ((i : Int) + 1) = i + 1 := by rw [IntKind.wrap_i64]; omega
          have hne : wr.heap.size ≠ g := by have := HGL.out; omega
          have HHI := Lib.hid hi
          clear hb3 hb30 hblk hom3 hi a0 a1 a2 a3
          go_wp2_with fail
          go_roundw
          case rel =>
            refine ⟨i + 1, j + 1, by omega, by go_num, by go_num, ⟨⟨m.set i x, by rw [List.length_set]; exact HML.out, HW.out, ?_, ?_⟩, by have := HIJ.out; omega, HBW3.out⟩⟩
            · rw [HSN.out, if_neg (by rw [HKX.out]; simp), ← HTK.out, List.take_set, List.take_succ_eq_append_getElem HHI.out]
              rw [List.set_append_right _ _ (by rw [List.length_take]; omega)]
              simp [List.length_take, Nat.min_eq_left (Nat.le_of_lt HHI.out)]
            · rw [List.drop_set, if_pos (by have := HIJ.out; omega)]; exact HDD.out
          case measure => simp only [intOf]; omega
        · have HKX := Lib.hid hgx
          rw [hgx] at HG
          clear hgx
          go_wp2_with fail
          refine (HG.out).mono ?_
          rintro e w3 ⟨rfl, hb3⟩
          have hb30 := bj (one_allocC (o := .cells (cgC x) 33)) hb3
          have HW := Lib.hid (own_below HOM.out hb30)
          have HB3 := Lib.hid (HBB.out.trans (hb30.mono HWS.out))
          clear hb3 hb30 a0 a1 a2 a3
          go_wp2_with fail
          go_roundw
          case rel => exact ⟨i, j + 1, by omega, rfl, by go_num, ⟨⟨m, HML.out, HW.out, by rw [HTK.out, HSN.out, if_pos HKX.out, List.append_nil], HDD.out⟩, by have := HIJ.out; omega, HB3.out⟩⟩
          case measure => simp only [intOf]; omega
      · obtain rfl : j = n := by omega
        have hi : i < j := hij
        obtain ⟨vs, hcl⟩ := clear_own hom hi 0 (cap - i)
        have hkl : keepL l = m.take i := by rw [htk, List.take_of_length_le (by have := HN.out; omega)]
        have hlen : (m.take i).length = i := by rw [List.length_take]; omega
        have hle := (hom.lt g rfl).1
        have hcap : j ≤ cap := by
          rcases hom.2 with ⟨hv, _⟩ | ⟨g', cap', cur, hv, _, _, hnc, _⟩
          · cases hv
          · simp only [Value.slice.injEq, Option.some.injEq, Addr.mk.injEq, and_true, true_and] at hv
            omega
        have HF := Lib.hid (own_past vs (i * 4) _ (by omega) (own_less hom (Nat.le_of_lt hi) hml.symm))
        have HBF := Lib.hid (below_cells vs (i * 4) w wr hle hbb)
        have HKL := Lib.hid hkl
        have HLEN := Lib.hid hlen
        have hiI : (i : Int) ≤ j := by omega
        have h0i : (0 : Int) ≤ i := by omega
        have hicI : (i : Int) ≤ cap := by omega
        have hci : ¬ cap = i := by omega
        have hiN : i ≤ j := by omega
        clear hom htk hdr hml hbb hij hi hkl hlen hle
        go_wp2_with fail
        go_ret
        exact ⟨i, by rw [HKL.out, HLEN.out], rfl, by rw [HKL.out]; exact HF.out, HBF.out⟩
  · have HK := Lib.hid (keep_all hall)
    have HOW := Lib.hid (own_below HO.out hb1)
    have HBB := Lib.hid hb1'
    clear hall hb1 hb1'
    go_wp2
    go_ret
    exact ⟨n, by rw [HK.out]; exact HN.out, rfl, by rw [HK.out]; exact HOW.out, HBB.out⟩
end Go.Proofs.Ytocbdehcjcggeaa
namespace Go.Proofs.Ytocbdehcjcggeaa
open Go.RowKit Go
set_option linter.unusedVariables false
set_option linter.unusedSimpArgs false
theorem laidOut22 : laidOutB Try.prog = true := by kernel_rfl
theorem keyedR : Go.Maps.Keyed Try.prog 63 := Go.Maps.Keyed.of_law (deep_law_laid laidOut22 (m := 2) (by omega) (of_decide_eq_true (by kernel_rfl)) (by kernel_rfl) (by kernel_rfl))
def rowL (t s : ByteArray) : Lit := .string (keyBytes [.string t.data.toList, .string s.data.toList])
theorem row_lit (t s : ByteArray) (h1 : t.size ≤ maxLen) (h2 : s.size ≤ maxLen) : keyOf Try.prog 63 (.agg #[.string t, .string s]) = some (rowL t s) := by
  have hu := Try.underlying63
  have hk : Try.prog.keyType 63 = true := by kernel_rfl
  have hc : Try.prog.cellsOf 63 = 2 := by kernel_rfl
  have hcs : Try.prog.cellsOf 9 = 1 := by kernel_rfl
  have hus := Try.underlying9
  obtain ⟨d, hd⟩ : ∃ d, Try.prog.types.size + 1 = d + 2 := ⟨Try.prog.types.size - 1, by have : 2 ≤ Try.prog.types.size := of_decide_eq_true (by kernel_rfl); omega⟩
  unfold keyOf rowL
  rw [hu, hd]
  simp [hk, Value.formed, hu, hc, Value.cells, Program.keyLits, hcs, hus, h1, h2]
theorem rowL_inj {t s t' s' : ByteArray} (h1 : t.size ≤ maxLen) (h2 : s.size ≤ maxLen) (h1' : t'.size ≤ maxLen) (h2' : s'.size ≤ maxLen) (h : rowL t s = rowL t' s') : t = t' ∧ s = s' := by
  have a := row_lit t s h1 h2
  have b := row_lit t' s' h1' h2'
  rw [← h] at b
  have := keyedR.inj a b
  simp only [Value.agg.injEq, Array.mk.injEq, List.cons.injEq, Value.string.injEq, and_true] at this
  exact this
/-- a map of whole numbers -/
def heldR (v : Value) : Option (DataW Value × List MemPlace) := some (.held v, [])
/-- what the map tells: of each row its place -/
def KM (D : DataW Value) (acc : List Cg) : Prop :=
  Maps.IsMap D ∧ (∀ k, Maps.has D k = true → ∃ (i : Nat) (x : Cg), acc[i]? = some x ∧ k = rowL x.t (bstr (kbL x.k))) ∧
    ∀ (i : Nat) (x : Cg), acc[i]? = some x → Maps.has D (rowL x.t (bstr (kbL x.k))) = true ∧ ∀ z, D.atKey (rowL x.t (bstr (kbL x.k))) z = .held (.int .i64 i)
/-- a change whose key may be -/
structure KeyOk (x : Cg) : Prop where
  ne : x.k ≠ []
  le : x.k.length ≤ 16
  fit : ∀ y ∈ x.k, Fits y ∧ y.2.2.size ≤ 1000
  t : x.t.size ≤ 32
theorem kb_size {x : Cg} (h : KeyOk x) : (bstr (kbL x.k)).size ≤ maxLen := by
  rw [bstr_size]
  have h1 := kbL_len x.k (fun y hy => (h.fit y hy).2)
  have h2 := h.le
  unfold maxLen
  omega
theorem key_row {x : Cg} (h : KeyOk x) : keyOf Try.prog 63 (.agg #[.string x.t, .string (bstr (kbL x.k))]) = some (rowL x.t (bstr (kbL x.k))) :=
  row_lit _ _ (by have := h.t; unfold maxLen; omega) (kb_size h)
theorem fourL_inj {a b : Nat} (ha : a < 4294967296) (hb : b < 4294967296) (h : fourL a = fourL b) : a = b := by
  simp only [fourL, List.cons.injEq, and_true] at h
  omega
theorem eightL_inj {a b : Nat} (ha : a < 18446744073709551616) (hb : b < 18446744073709551616) (h : eightL a = eightL b) : a = b := by
  unfold eightL at h
  have h1 := List.append_inj h rfl
  have e1 := fourL_inj (by omega) (by omega) h1.1
  have e2 := fourL_inj (by omega) (by omega) h1.2
  omega
theorem e8_inj {a b : Int} (ha : -9223372036854775808 ≤ a ∧ a ≤ 9223372036854775807) (hb : -9223372036854775808 ≤ b ∧ b ≤ 9223372036854775807) (h : e8 a = e8 b) : a = b := by
  have h1 := u64_pos a
  have h2 := u64_pos b
  have h3 := eightL_inj (by omega) (by omega) h
  have h4 : IntKind.u64.wrap a = IntKind.u64.wrap b := by omega
  rw [IntKind.wrap_u64, IntKind.wrap_u64] at h4
  omega
theorem kbL_inj : ∀ {a b : List Val}, (∀ y ∈ a, Fits y ∧ y.2.2.size ≤ 1000) → (∀ y ∈ b, Fits y ∧ y.2.2.size ≤ 1000) → kbL a = kbL b → a = b
  | [], [], _, _, _ => rfl
  | [], y :: b, _, _, h => by simp [kbL, kbV] at h
  | x :: a, [], _, _, h => by simp [kbL, kbV] at h
  | x :: a, y :: b, ha, hb, h => by
    obtain ⟨⟨f0, f1, f2, f3⟩, f4⟩ := ha x (List.mem_cons_self ..)
    obtain ⟨⟨g0, g1, g2, g3⟩, g4⟩ := hb y (List.mem_cons_self ..)
    simp only [kbL, List.flatMap_cons, kbV, List.cons_append, List.append_assoc, List.cons.injEq] at h
    obtain ⟨h0, h'⟩ := h
    obtain ⟨h1, h''⟩ := List.append_inj h' rfl
    obtain ⟨h2, h'''⟩ := List.append_inj h'' rfl
    have e1 := e8_inj ⟨f2, f3⟩ ⟨g2, g3⟩ h1
    have e2 := e8_inj (by omega) (by omega) h2
    obtain ⟨h3, hL⟩ := List.append_inj h''' (by rw [bts_length, bts_length]; omega)
    have e3 := bts_inj h3
    obtain ⟨p, q, s⟩ := x
    obtain ⟨p', q', s'⟩ := y
    simp only at h0 e1 e3 f0 g0
    have e0 : p = p' := by omega
    rw [e0, e1, e3, kbL_inj (fun z hz => ha z (List.mem_cons_of_mem _ hz)) (fun z hz => hb z (List.mem_cons_of_mem _ hz)) hL]
/-- the same row's -/
def SameK (x y : Cg) : Prop := x.t = y.t ∧ x.k = y.k
instance (x y : Cg) : Decidable (SameK x y) := inferInstanceAs (Decidable (_ ∧ _))
theorem sameK_lit {x y : Cg} (hx : KeyOk x) (hy : KeyOk y) : rowL x.t (bstr (kbL x.k)) = rowL y.t (bstr (kbL y.k)) ↔ SameK x y := by
  constructor
  · intro h
    obtain ⟨h1, h2⟩ := rowL_inj (by have := hx.t; unfold maxLen; omega) (kb_size hx) (by have := hy.t; unfold maxLen; omega) (kb_size hy) h
    have h3 : ∀ a : List Val, (∀ z ∈ a, Fits z ∧ z.2.2.size ≤ 1000) → ∀ z ∈ kbL a, z < 256 := fun a ha z hz => by
      simp only [kbL, List.mem_flatMap] at hz
      obtain ⟨v, hv, hz⟩ := hz
      have hfv := (ha v hv).1
      simp only [kbV, List.mem_cons, List.mem_append] at hz
      have h8 : ∀ q, ∀ y ∈ e8 q, y < 256 := fun q y hy => by
        simp only [e8, eightL, fourL, List.mem_append, List.mem_cons, List.not_mem_nil, or_false] at hy
        omega
      rcases hz with rfl | (hz | hz) | hz
      · have := hfv.1; have := hfv.2.1; omega
      · exact h8 _ z hz
      · exact h8 _ z hz
      · exact bts_lt _ z hz
    have h4 := congrArg bts h2
    rw [bts_bstr _ (h3 _ hx.fit), bts_bstr _ (h3 _ hy.fit)] at h4
    exact ⟨h1, kbL_inj hx.fit hy.fit h4⟩
  · rintro ⟨h1, h2⟩
    rw [h1, h2]
/-- what a list of changes comes to, one more behind it -/
def newN (x c : Cg) : Cg := { x with nA := c.nA, nc := c.nc, n := c.n }
def putC (acc : List Cg) (c : Cg) : Option (List Cg) :=
  match acc.findIdx? (fun x => decide (SameK x c)) with
  | none => some (acc ++ [c])
  | some i => match acc[i]? with
    | some x => if x.n = c.o then some (acc.set i (newN x c)) else none
    | none => none
def mergeA : List Cg → List Cg → Option (List Cg)
  | acc, [] => some acc
  | acc, c :: r => match putC acc c with
    | none => none
    | some a => mergeA a r
theorem mergeA_drop {l : List Cg} {j : Nat} (h : j < l.length) (acc : List Cg) : mergeA acc (l.drop j) = match putC acc l[j] with | none => none | some a => mergeA a (l.drop (j + 1)) := by
  rw [List.drop_eq_getElem_cons h]
  rfl
theorem km_empty : KM (.map []) [] := ⟨Maps.isMap_empty, fun k hk => by simp [Maps.has] at hk, fun i x hx => by simp at hx⟩
theorem km_has {D : DataW Value} {acc : List Cg} (h : KM D acc) (ha : ∀ x ∈ acc, KeyOk x) {c : Cg} (hc : KeyOk c) : Maps.has D (rowL c.t (bstr (kbL c.k))) = (acc.findIdx? (fun x => decide (SameK x c))).isSome := by
  rw [Bool.eq_iff_iff]
  rw [List.findIdx?_isSome]
  simp only [List.any_eq_true, decide_eq_true_eq]
  constructor
  · intro hh
    obtain ⟨i, x, hx, he⟩ := h.2.1 _ hh
    have hm := List.mem_of_getElem? hx
    exact ⟨x, hm, (sameK_lit (ha x hm) hc).1 he.symm⟩
  · rintro ⟨x, hm, hs⟩
    obtain ⟨i, hi⟩ := List.getElem?_of_mem hm
    have := (h.2.2 i x hi).1
    rw [(sameK_lit (ha x hm) hc).2 hs] at this
    exact this
theorem find_some {acc : List Cg} {c : Cg} {i : Nat} (h : acc.findIdx? (fun x => decide (SameK x c)) = some i) : ∃ x, acc[i]? = some x ∧ SameK x c := by
  rw [List.findIdx?_eq_some_iff_getElem] at h
  obtain ⟨hi, h1, _⟩ := h
  exact ⟨acc[i], List.getElem?_eq_getElem hi, of_decide_eq_true h1⟩
theorem km_at {D : DataW Value} {acc : List Cg} (h : KM D acc) (ha : ∀ x ∈ acc, KeyOk x) {c : Cg} (hc : KeyOk c) {i : Nat} (hi : acc.findIdx? (fun x => decide (SameK x c)) = some i) (z : DataW Value) : D.atKey (rowL c.t (bstr (kbL c.k))) z = .held (.int .i64 i) := by
  obtain ⟨x, hx, hs⟩ := find_some hi
  have := (h.2.2 i x hx).2 z
  rw [(sameK_lit (ha x (List.mem_of_getElem? hx)) hc).2 hs] at this
  exact this
theorem km_snoc {D : DataW Value} {acc : List Cg} (h : KM D acc) (ha : ∀ x ∈ acc, KeyOk x) {c : Cg} (hc : KeyOk c) (hn : acc.findIdx? (fun x => decide (SameK x c)) = none) :
    KM (D.put (rowL c.t (bstr (kbL c.k))) (.held (.int .i64 acc.length))) (acc ++ [c]) := by
  have hlit : ∀ x ∈ acc, rowL x.t (bstr (kbL x.k)) ≠ rowL c.t (bstr (kbL c.k)) := fun x hx e => by
    have h1 := (sameK_lit (ha x hx) hc).1 e
    have := List.findIdx?_eq_none_iff.1 hn x hx
    simp [h1] at this
  have hkey : WideAt.IsKeyLit (rowL c.t (bstr (kbL c.k))) := trivial
  refine ⟨h.1.put _ _, fun k hk => ?_, fun i x hx => ?_⟩
  · by_cases e : k = rowL c.t (bstr (kbL c.k))
    · exact ⟨acc.length, c, by simp, e⟩
    · rw [Maps.has_put_other e] at hk
      obtain ⟨i, x, hx, he⟩ := h.2.1 k hk
      exact ⟨i, x, by rw [List.getElem?_append_left (by rcases Nat.lt_or_ge i acc.length with h | h; exact h; rw [List.getElem?_eq_none h] at hx; cases hx)]; exact hx, he⟩
  · rcases Nat.lt_or_ge i acc.length with hi | hi
    · rw [List.getElem?_append_left hi] at hx
      have hne := hlit x (List.mem_of_getElem? hx)
      obtain ⟨h1, h2⟩ := h.2.2 i x hx
      exact ⟨by rw [Maps.has_put_other hne]; exact h1, fun z => by rw [Maps.atKey_put_other hne]; exact h2 z⟩
    · rw [List.getElem?_append_right hi] at hx
      have h0 : i - acc.length = 0 := by
        rcases Nat.lt_or_ge (i - acc.length) 1 with h | h
        · omega
        · rw [List.getElem?_eq_none (by simpa using h)] at hx; cases hx
      rw [h0] at hx
      simp only [List.getElem?_cons_zero, Option.some.injEq] at hx
      subst hx
      obtain rfl : i = acc.length := by omega
      exact ⟨Maps.has_put_same h.1 hkey _, fun z => Maps.atKey_put_same h.1 hkey _ _⟩
theorem km_set {D : DataW Value} {acc : List Cg} (h : KM D acc) {i : Nat} {x c : Cg} (hx : acc[i]? = some x) : KM D (acc.set i (newN x c)) := by
  have hkey : ∀ (j : Nat) y, (acc.set i (newN x c))[j]? = some y → ∃ y', acc[j]? = some y' ∧ y'.t = y.t ∧ y'.k = y.k := fun j y hy => by
    by_cases e : i = j
    · subst e
      have hlt : i < acc.length := by
        rcases Nat.lt_or_ge i acc.length with h | h
        · exact h
        · rw [List.getElem?_eq_none h] at hx; cases hx
      rw [List.getElem?_set_self hlt] at hy
      cases hy
      exact ⟨x, hx, rfl, rfl⟩
    · rw [List.getElem?_set_ne e] at hy
      exact ⟨y, hy, rfl, rfl⟩
  refine ⟨h.1, fun k hk => ?_, fun j y hy => ?_⟩
  · obtain ⟨j, y, hy, he⟩ := h.2.1 k hk
    by_cases e : i = j
    · subst e
      rw [hx] at hy
      cases hy
      have hlt : i < acc.length := by
        rcases Nat.lt_or_ge i acc.length with h | h
        · exact h
        · rw [List.getElem?_eq_none h] at hx; cases hx
      exact ⟨i, newN x c, List.getElem?_set_self hlt, he⟩
    · exact ⟨j, y, by rw [List.getElem?_set_ne e]; exact hy, he⟩
  · obtain ⟨y', hy', e1, e2⟩ := hkey j y hy
    obtain ⟨h1, h2⟩ := h.2.2 j y' hy'
    rw [e1, e2] at h1 h2
    exact ⟨h1, h2⟩
end Go.Proofs.Ytocbdehcjcggeaa
