/- Layer 22: it makes no difference which two come together first: plain mathematics. Conditions: those of each lemma. -/
import Derived.Test.YtocbdehcjcggeaaMgE
namespace Go.Proofs.Ytocbdehcjcggeaa
open Go.RowKit Go
set_option linter.unusedVariables false
set_option linter.unusedSimpArgs false
/-- what a list says of a key: the row ahead, the row behind -/
def atK (q : ByteArray × List Val) (l : List Cg) : Option (List Val × List Val) := (l.find? (fun x => decide (kC x = q))).map (fun x => (x.o, x.n))
/-- one behind the other -/
def comb : Option (List Val × List Val) → Option (List Val × List Val) → Option (List Val × List Val)
  | none, y => y
  | some x, none => some x
  | some x, some y => some (x.1, y.2)
def keepO (v : Option (List Val × List Val)) : Option (List Val × List Val) := v.filter (fun p => !decide (p.1 = p.2))
/-- they fit -/
def fitsO : Option (List Val × List Val) → Option (List Val × List Val) → Prop
  | some x, some y => x.2 = y.1
  | _, _ => True
theorem keepO_some {x : List Val × List Val} (h : x.1 ≠ x.2) : keepO (some x) = some x := by unfold keepO; simp [Option.filter, h]
theorem keepO_gone {x : List Val × List Val} (h : x.1 = x.2) : keepO (some x) = none := by unfold keepO; simp [Option.filter, h]
theorem keepO_idem (v : Option (List Val × List Val)) : keepO (keepO v) = keepO v := by
  rcases v with _ | ⟨a, b⟩
  · rfl
  · by_cases h : a = b
    · rw [keepO_gone (x := (a, b)) h]; rfl
    · rw [keepO_some (x := (a, b)) h, keepO_some (x := (a, b)) h]
theorem comb_none (v : Option (List Val × List Val)) : comb v none = v := by cases v <;> rfl
/-- at each key it makes no difference -/
theorem comb_assoc (x y z : Option (List Val × List Val)) (hx : keepO x = x) (hy : keepO y = y) (hz : keepO z = z) (h1 : fitsO x y) (h2 : fitsO y z) : keepO (comb (keepO (comb x y)) z) = keepO (comb x (keepO (comb y z))) := by
  rcases x with _ | ⟨o1, n1⟩
  · show keepO (comb (keepO y) z) = keepO (keepO (comb y z))
    rw [hy, keepO_idem]
  · rcases z with _ | ⟨o3, n3⟩
    · rw [comb_none, comb_none, keepO_idem, hy]
    · rcases y with _ | ⟨o2, n2⟩
      · show keepO (comb (keepO (some (o1, n1))) (some (o3, n3))) = keepO (comb (some (o1, n1)) (keepO (some (o3, n3))))
        rw [hx, hz]
      · have h1' : n1 = o2 := h1
        have h2' : n2 = o3 := h2
        subst h1' h2'
        have hl : keepO (comb (keepO (some (o1, n2))) (some (n2, n3))) = keepO (some (o1, n3)) := by
          by_cases h : o1 = n2
          · rw [keepO_gone (x := (o1, n2)) h, h]; rfl
          · rw [keepO_some (x := (o1, n2)) h]; rfl
        have hr : keepO (comb (some (o1, n1)) (keepO (some (n1, n3)))) = keepO (some (o1, n3)) := by
          by_cases h : n1 = n3
          · rw [keepO_gone (x := (n1, n3)) h, ← h]; rfl
          · rw [keepO_some (x := (n1, n3)) h]; rfl
        show keepO (comb (keepO (some (o1, n2))) (some (n2, n3))) = keepO (comb (some (o1, n1)) (keepO (some (n1, n3))))
        rw [hl, hr]
theorem atK_none {q : ByteArray × List Val} {l : List Cg} : atK q l = none ↔ ∀ x ∈ l, kC x ≠ q := by
  unfold atK
  rw [Option.map_eq_none_iff, List.find?_eq_none]
  constructor
  · intro h x hx e
    exact h x hx (decide_eq_true e)
  · intro h x hx e
    exact h x hx (of_decide_eq_true e)
theorem atK_mem {l : List Cg} (hnd : (l.map kC).Nodup) {x : Cg} (hx : x ∈ l) : atK (kC x) l = some (x.o, x.n) := by
  unfold atK
  rcases hf : l.find? (fun y => decide (kC y = kC x)) with _ | y
  · exact absurd (decide_eq_true rfl) (List.find?_eq_none.1 hf x hx)
  · have hy := List.mem_of_find?_eq_some hf
    have hk : kC y = kC x := of_decide_eq_true (List.find?_some (p := fun y => decide (kC y = kC x)) hf)
    obtain ⟨i, hi⟩ := List.getElem?_of_mem hx
    obtain ⟨j, hj⟩ := List.getElem?_of_mem hy
    have h1 : (l.map kC)[i]? = some (kC x) := by rw [List.getElem?_map, hi]; rfl
    have h2 : (l.map kC)[j]? = some (kC x) := by rw [List.getElem?_map, hj, Option.map_some, hk]
    have e := nodup_at hnd h1 h2
    subst e
    rw [hi] at hj
    cases hj
    rfl
theorem atK_some {q : ByteArray × List Val} {l : List Cg} {v : List Val × List Val} (h : atK q l = some v) : ∃ x ∈ l, kC x = q ∧ (x.o, x.n) = v := by
  unfold atK at h
  rw [Option.map_eq_some_iff] at h
  obtain ⟨x, hx, hv⟩ := h
  exact ⟨x, List.mem_of_find?_eq_some hx, of_decide_eq_true (List.find?_some (p := fun y => decide (kC y = q)) hx), hv⟩
/-- two changesets that say the same of each key are the same -/
theorem okC_at {l m : List Cg} (hl : OkC l) (hm : OkC m) (h : ∀ q, atK q l = atK q m) : l.map vC = m.map vC := by
  have nd : ∀ {l : List Cg}, OkC l → (l.map vC).Nodup := fun {l} hl => by
    have := okC_nodup hl
    rw [map_kC] at this
    exact List.Pairwise.of_map _ (fun a b hab e => hab (by rw [e])) this
  have sub : ∀ {l m : List Cg}, OkC l → OkC m → (∀ q, atK q l = atK q m) → ∀ v ∈ l.map vC, v ∈ m.map vC := fun {l m} hl hm h v hv => by
    obtain ⟨x, hx, rfl⟩ := List.mem_map.1 hv
    have h1 := atK_mem (okC_nodup hl) hx
    rw [h] at h1
    obtain ⟨y, hy, hk, hv⟩ := atK_some h1
    have hxy : vC y = vC x := by
      unfold kC at hk
      simp only [Prod.mk.injEq] at hk hv
      exact vC_eq.2 ⟨hk.1, hk.2, hv.1, hv.2⟩
    rw [← hxy]
    exact List.mem_map_of_mem hy
  exact okC_uniq hl hm ((List.perm_ext_iff_of_nodup (nd hl) (nd hm)).2 fun v => ⟨sub hl hm h v, sub hm hl (fun q => (h q).symm) v⟩)
theorem atK_cons (q : ByteArray × List Val) (c : Cg) (l : List Cg) : atK q (c :: l) = if kC c = q then some (c.o, c.n) else atK q l := by
  unfold atK
  rw [List.find?_cons]
  by_cases h : kC c = q
  · rw [decide_eq_true h, if_pos h]; rfl
  · rw [decide_eq_false h, if_neg h]
theorem atK_snoc {q : ByteArray × List Val} {c : Cg} {l : List Cg} (h : ∀ x ∈ l, kC x ≠ kC c) : atK q (l ++ [c]) = if kC c = q then some (c.o, c.n) else atK q l := by
  by_cases hq : kC c = q
  · rw [if_pos hq]
    unfold atK
    rw [List.find?_append, List.find?_eq_none.2 (fun x hx => by simpa using fun e => h x hx (e.trans hq.symm))]
    simp [hq]
  · rw [if_neg hq]
    unfold atK
    rw [List.find?_append]
    simp [hq]
theorem atK_set {q : ByteArray × List Val} {x y : Cg} : ∀ {l : List Cg} {i : Nat}, (l.map kC).Nodup → l[i]? = some x → kC y = kC x → atK q (l.set i y) = if kC x = q then some (y.o, y.n) else atK q l
  | [], i, _, h, _ => by simp at h
  | a :: l, 0, hnd, h, hk => by
    have e : a = x := by simpa using h
    subst e
    rw [List.set_cons_zero, atK_cons, atK_cons, hk]
    by_cases hq : kC a = q
    · rw [if_pos hq, if_pos hq]
    · rw [if_neg hq, if_neg hq, if_neg hq]
  | a :: l, i + 1, hnd, h, hk => by
    rw [List.map_cons, List.nodup_cons] at hnd
    have hx : l[i]? = some x := by simpa using h
    rw [List.set_cons_succ, atK_cons, atK_cons, atK_set hnd.2 hx hk]
    by_cases hq : kC x = q
    · have ha : ¬ kC a = q := fun e => hnd.1 (by rw [e, ← hq]; exact List.mem_map_of_mem (List.mem_of_getElem? hx))
      rw [if_neg ha, if_pos hq, if_pos hq]
    · rw [if_neg hq, if_neg hq]
/-- one change more, key by key -/
theorem putC_atK {acc acc' : List Cg} {c : Cg} (hnd : (acc.map kC).Nodup) (h : putC acc c = some acc') :
    (acc'.map kC).Nodup ∧ fitsO (atK (kC c) acc) (some (c.o, c.n)) ∧ ∀ q, atK q acc' = if kC c = q then comb (atK q acc) (some (c.o, c.n)) else atK q acc := by
  by_cases hex : ∃ x ∈ acc, kC x = kC c
  · obtain ⟨x, hx, hk⟩ := hex
    obtain ⟨i, hi⟩ := List.getElem?_of_mem hx
    rw [putC_at hi hk hnd] at h
    have hat := atK_mem hnd hx
    rw [hk] at hat
    by_cases ho : x.n = c.o
    · rw [if_pos ho] at h
      cases h
      refine ⟨?_, by rw [hat]; exact ho, fun q => ?_⟩
      · have : (acc.set i (newN x c)).map kC = acc.map kC := by
          apply List.ext_getElem?
          intro j
          rw [List.getElem?_map, List.getElem?_map, List.getElem?_set]
          by_cases e : i = j
          · subst e
            rw [if_pos rfl, if_pos (List.getElem?_eq_some_iff.1 hi).1, hi]
            rfl
          · rw [if_neg e]
        rw [this]
        exact hnd
      · rw [atK_set (y := newN x c) hnd hi rfl, hk]
        by_cases hq : kC c = q
        · rw [if_pos hq, if_pos hq, ← hq, hat]
          rfl
        · rw [if_neg hq, if_neg hq]
    · rw [if_neg ho] at h; cases h
  · have hno : ∀ x ∈ acc, kC x ≠ kC c := fun x hx e => hex ⟨x, hx, e⟩
    rw [putC_new hno] at h
    cases h
    have hat : atK (kC c) acc = none := atK_none.2 hno
    refine ⟨?_, by rw [hat]; trivial, fun q => ?_⟩
    · rw [List.map_append, List.map_cons, List.map_nil, List.nodup_append]
      refine ⟨hnd, by simp, fun a ha b hb e => ?_⟩
      obtain ⟨x, hx, rfl⟩ := List.mem_map.1 ha
      rw [List.mem_singleton.1 hb] at e
      exact hno x hx e
    · rw [atK_snoc hno]
      by_cases hq : kC c = q
      · rw [if_pos hq, if_pos hq, ← hq, hat]
        rfl
      · rw [if_neg hq, if_neg hq]
theorem merge_atK : ∀ {b acc acc' : List Cg}, (acc.map kC).Nodup → (b.map kC).Nodup → mergeA acc b = some acc' →
    (acc'.map kC).Nodup ∧ ∀ q, atK q acc' = comb (atK q acc) (atK q b) ∧ fitsO (atK q acc) (atK q b)
  | [], acc, acc', hnd, _, h => by
    cases h
    exact ⟨hnd, fun q => ⟨(comb_none _).symm, by unfold atK; cases (acc.find? _) <;> trivial⟩⟩
  | c :: b, acc, acc', hnd, hb, h => by
    rw [List.map_cons, List.nodup_cons] at hb
    have h' : (match putC acc c with | none => none | some a => mergeA a b) = some acc' := h
    rcases hp : putC acc c with _ | a
    · rw [hp] at h'; cases h'
    · rw [hp] at h'
      obtain ⟨p1, p2, p3⟩ := putC_atK hnd hp
      obtain ⟨m1, m2⟩ := merge_atK p1 hb.2 h'
      refine ⟨m1, fun q => ?_⟩
      obtain ⟨e1, e2⟩ := m2 q
      rw [p3] at e1 e2
      rw [atK_cons]
      by_cases hq : kC c = q
      · have hn : atK q b = none := atK_none.2 fun x hx e => hb.1 (by rw [hq, ← e]; exact List.mem_map_of_mem hx)
        rw [if_pos hq] at e1
        rw [hn, comb_none] at e1
        rw [if_pos hq, e1]
        refine ⟨rfl, ?_⟩
        rw [← hq]
        exact p2
      · rw [if_neg hq] at e1 e2
        rw [if_neg hq]
        exact ⟨e1, e2⟩
theorem atK_iff {q : ByteArray × List Val} {l : List Cg} {v : List Val × List Val} (hnd : (l.map kC).Nodup) : atK q l = some v ↔ ∃ x ∈ l, kC x = q ∧ (x.o, x.n) = v := by
  refine ⟨atK_some, ?_⟩
  rintro ⟨x, hx, hk, hv⟩
  rw [← hk, atK_mem hnd hx, hv]
theorem keep_nodup {l : List Cg} (h : (l.map kC).Nodup) : ((keepL l).map kC).Nodup := List.Nodup.sublist (List.Sublist.map _ List.filter_sublist) h
theorem atK_keep {q : ByteArray × List Val} {l : List Cg} (hnd : (l.map kC).Nodup) : atK q (keepL l) = keepO (atK q l) := by
  apply Option.ext
  intro v
  rw [atK_iff (keep_nodup hnd)]
  unfold keepO
  rw [Option.filter_eq_some_iff, atK_iff hnd]
  unfold keepL goneC
  constructor
  · rintro ⟨x, hx, hk, hv⟩
    rw [List.mem_filter] at hx
    refine ⟨⟨x, hx.1, hk, hv⟩, ?_⟩
    rw [← hv]
    exact hx.2
  · rintro ⟨⟨x, hx, hk, hv⟩, h⟩
    refine ⟨x, List.mem_filter.2 ⟨hx, ?_⟩, hk, hv⟩
    rw [← hv] at h
    exact h
theorem atK_perm {q : ByteArray × List Val} {l m : List Cg} (hnd : (m.map kC).Nodup) (hp : (l.map vC).Perm (m.map vC)) : atK q l = atK q m := by
  have hnl : (l.map kC).Nodup := by
    rw [map_kC, (hp.map _).nodup_iff, ← map_kC]
    exact hnd
  have sub : ∀ {l m : List Cg}, (l.map vC).Perm (m.map vC) → ∀ v, (∃ x ∈ l, kC x = q ∧ (x.o, x.n) = v) → ∃ x ∈ m, kC x = q ∧ (x.o, x.n) = v := fun {l m} hp v ⟨x, hx, hk, hv⟩ => by
    obtain ⟨y, hy, hyx⟩ := List.mem_map.1 (hp.mem_iff.1 (List.mem_map_of_mem hx))
    refine ⟨y, hy, (kC_vC hyx).trans hk, ?_⟩
    obtain ⟨_, _, h3, h4⟩ := vC_eq.1 hyx
    rw [h3, h4]
    exact hv
  apply Option.ext
  intro v
  rw [atK_iff hnl, atK_iff hnd]
  exact ⟨sub hp v, sub hp.symm v⟩
theorem okC_keepO {l : List Cg} (h : OkC l) (q : ByteArray × List Val) : keepO (atK q l) = atK q l := by
  rw [← atK_keep (okC_nodup h), okC_keep h]
/-- r is what a and b come to -/
def Res (a b r : List Cg) : Prop := OkC r ∧ ∃ acc, mergeA [] (a ++ b) = some acc ∧ (r.map vC).Perm ((keepL acc).map vC)
theorem res_atK {a b r : List Cg} (ha : OkC a) (hb : OkC b) (h : Res a b r) (q : ByteArray × List Val) : atK q r = keepO (comb (atK q a) (atK q b)) ∧ fitsO (atK q a) (atK q b) := by
  obtain ⟨hr, acc, hm, hp⟩ := h
  rw [mergeA_app, merge_self ha] at hm
  obtain ⟨h1, h2⟩ := merge_atK (okC_nodup ha) (okC_nodup hb) (show mergeA a b = some acc from hm)
  refine ⟨?_, (h2 q).2⟩
  rw [atK_perm (keep_nodup h1) hp, atK_keep h1, (h2 q).1]
/-- of three changesets it makes no difference which two come together first -/
theorem parts_same {a b c ab bc x y : List Cg} (ha : OkC a) (hb : OkC b) (hc : OkC c) (h1 : Res a b ab) (h2 : Res b c bc) (h3 : Res ab c x) (h4 : Res a bc y) : x.map vC = y.map vC := by
  refine okC_at h3.1 h4.1 fun q => ?_
  rw [(res_atK h1.1 hc h3 q).1, (res_atK ha h2.1 h4 q).1, (res_atK ha hb h1 q).1, (res_atK hb hc h2 q).1]
  exact comb_assoc _ _ _ (okC_keepO ha q) (okC_keepO hb q) (okC_keepO hc q) (res_atK ha hb h1 q).2 (res_atK hb hc h2 q).2
/-- what Concat answers: an error, or what the two come to -/
def CcR (a b : List Cg) (w : World) (e : Ending) (w' : World) : Prop := Below w.heap.size w w' ∧ ((∃ z, z ≠ 0 ∧ e = .returned (.tuple #[.slice none 0 0, .int .i64 z])) ∨ (∃ A' k' r, e = .returned (.tuple #[.slice A' r.length k', .int .i64 0]) ∧ Cgs w' w'.heap.size A' r ∧ OkC a ∧ OkC b ∧ Res a b r ∧ ∀ X ∈ r, FitC X))
theorem concat_res {A C : Option Addr} {a b : List Cg} {n c n' c' : Nat} {w : World} (ha : Cgs w w.heap.size A a) (hb : Cgs w w.heap.size C b) (hn : n = a.length) (hn' : n' = b.length) (hs : n + n' ≤ 1000) (hfa : ∀ X ∈ a, FitC X) (hfb : ∀ X ∈ b, FitC X) :
    Calls Try.prog 16 #[.slice A n c, .slice C n' c'] w (CcR a b w) :=
  (concat_any A C a b n c n' c' w ha hb hn hn' hs hfa hfb).mono fun e w' he => by
    refine ⟨he.1, ?_⟩
    by_cases oa : chkG a = 0
    · by_cases ob : chkG b = 0
      · have hm := he.2.2.2 oa ob
        unfold MergeR at hm
        rcases hq : mergeA [] (a ++ b) with _ | acc
        · rw [hq] at hm
          exact .inl ⟨220, by omega, hm⟩
        · rw [hq] at hm
          obtain ⟨l', h1, h2, h3, h4, h5⟩ := hm
          by_cases ol : chkG l' = 0
          · obtain ⟨A', k, k', e1, e2, e3⟩ := h5 ol
            subst e2
            exact .inr ⟨A', k', l', e1, e3, chkG_zero oa, chkG_zero ob, ⟨chkG_zero ol, acc, hq, h1.map vC⟩, fun X hX => (h3 X hX).1⟩
          · exact .inl ⟨_, ol, h4 ol⟩
      · exact .inl ⟨_, ob, he.2.2.1 oa ob⟩
    · exact .inl ⟨_, oa, he.2.1 oa⟩
/-- and Merge of both lists is the same -/
theorem merge_res {A : Option Addr} {a b r : List Cg} {n c : Nat} {w : World} (hO : Cgs w w.heap.size A (a ++ b)) (hn : n = (a ++ b).length) (hs : n ≤ 1000) (hfa : ∀ X ∈ a, FitC X) (hfb : ∀ X ∈ b, FitC X) (oa : OkC a) (ob : OkC b) (h : Res a b r) :
    Calls Try.prog 12 #[.slice A n c] w fun e w' => ∃ A' c' l', e = .returned (.tuple #[.slice A' l'.length c', .int .i64 0]) ∧ Cgs w' w'.heap.size A' l' ∧ Below w.heap.size w w' ∧ l'.map vC = r.map vC ∧ ∀ X ∈ l', FitC X := by
  obtain ⟨hr, acc, hm, hp⟩ := h
  have hf : ∀ X ∈ a ++ b, FitC X ∧ mayC X = true := fun X hX => by
    rcases List.mem_append.1 hX with hX | hX
    · exact ⟨hfa X hX, okC_may oa X hX⟩
    · exact ⟨hfb X hX, okC_may ob X hX⟩
  exact merge_yes hO hn hs (fun X hX => (hf X hX).1) (fun X hX => may_keyOk (hf X hX).2 (hf X hX).1) hm hr hp.symm
end Go.Proofs.Ytocbdehcjcggeaa
