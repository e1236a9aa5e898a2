/- Layer 22: the law's small functions, plain mathematics, works. Conditions: those of each lemma. -/
import Derived.Test.YtocbdehcjcggeaaMgD
import Derived.Laws.EntriesVeiled
namespace Go.Proofs.Ytocbdehcjcggeaa
open Go.RowKit Go
set_option linter.unusedVariables false
set_option linter.unusedSimpArgs false
def nrow (z : Int) : List Val := if z = 0 then [] else [(1, z, ⟨#[]⟩)]
set_option maxRecDepth 100000 in
set_option maxHeartbeats 4000000 in
theorem number_any (z : Int) (w : World) : Calls Try.prog 35 #[.int .i64 z] w fun e w' => ∃ A c, e = .returned (.slice A (nrow z).length c) ∧ Vals w' w'.heap.size A (nrow z) ∧ Below w.heap.size w w' := by
  by_cases h0 : z = 0
  · subst h0
    go_enter Try.func35, Try.ntmps35
    go_wp2
    go_ret
    exact ⟨none, 0, rfl, .inl rfl, Below.refl _ _⟩
  · have hz : (z == 0) = false := by rw [beq_eq_false_iff_ne]; exact h0
    have HN := Lib.hid (show nrow z = [(1, z, ⟨#[]⟩)] from if_neg h0)
    clear h0
    go_enter Try.func35, Try.ntmps35
    go_wp2
    go_ret
    rw [HN.out]
    exact ⟨_, _, rfl, vals_one (x := ((1 : Int), z, (⟨#[]⟩ : ByteArray))) (Blk.new w _ _) (by simp), one_allocC⟩
/-- a change of the law's own table -/
def ofV (a b c : Int) : ByteArray × List Val × List Val × List Val := (⟨#[116]⟩, nrow a, nrow b, nrow c)
def OfP (a b c : Int) (w : World) (e : Ending) (w' : World) : Prop := ∃ X, e = .returned (.agg (cgC X)) ∧ vC X = ofV a b c ∧ CgIn w' w'.heap.size X ∧ Below w.heap.size w w'
set_option maxRecDepth 100000 in
set_option maxHeartbeats 4000000 in
theorem of_any (a b c : Int) (w : World) : Calls Try.prog 13 #[.int .i64 a, .int .i64 b, .int .i64 c] w (OfP a b c w) := by
  have HG := Lib.hid (one_allocC (w := w) (o := .cells #[.string ⟨#[]⟩, .slice none 0 0, .slice none 0 0, .slice none 0 0] 33))
  have HB := Lib.hid (show Blk (w.alloc (.cells #[.string ⟨#[]⟩, .slice none 0 0, .slice none 0 0, .slice none 0 0] 33)) w.heap.size 33 #[.string ⟨#[]⟩, .slice none 0 0, .slice none 0 0, .slice none 0 0] from Blk.new _ _ _)
  have HNA := Lib.hid (fun W => number_any a W)
  have HNB := Lib.hid (fun W => number_any b W)
  have HNC := Lib.hid (fun W => number_any c W)
  go_enter Try.func13, Try.ntmps13
  go_wp2_with fail
  refine (HNA.out _).mono ?_
  rintro e w1 ⟨A1, c1, rfl, hv1, hb1⟩
  have HV1 := Lib.hid hv1
  have HB1 := Lib.hid hb1
  clear hv1 hb1
  go_wp2_with fail
  refine (HNB.out _).mono ?_
  rintro e w2 ⟨A2, c2, rfl, hv2, hb2⟩
  have HV2 := Lib.hid hv2
  have HB2 := Lib.hid hb2
  clear hv2 hb2
  go_wp2_with fail
  refine (HNC.out _).mono ?_
  rintro e w3 ⟨A3, c3, rfl, hv3, hb3⟩
  have hbl : Blk w3 w.heap.size 33 #[.string ⟨#[]⟩, .slice none 0 0, .slice none 0 0, .slice none 0 0] := ((HB.out.below HB1.out HB.out.lt).below HB2.out (HB.out.below HB1.out HB.out.lt).lt).below hb3 ((HB.out.below HB1.out HB.out.lt).below HB2.out (HB.out.below HB1.out HB.out.lt).lt).lt
  have HBL := Lib.hid hbl
  have HBB := Lib.hid (bj (bj (bj HG.out HB1.out) HB2.out) hb3)
  have HV13 := Lib.hid (vals_step (vals_step HV1.out HB2.out) hb3)
  have HV23 := Lib.hid (vals_step HV2.out hb3)
  have HV3 := Lib.hid hv3
  have d0 := hbl.cell 0
  have d1 := hbl.cell 1
  have d2 := hbl.cell 2
  have d3 := hbl.cell 3
  have f0 := hbl.frozen 0
  have f1 := hbl.frozen 1
  have f2 := hbl.frozen 2
  have f3 := hbl.frozen 3
  replace d0 : w3.cell? ⟨w.heap.size, 0, none⟩ = some (.string ⟨#[]⟩) := d0
  replace d1 : w3.cell? ⟨w.heap.size, 1, none⟩ = some (.slice none 0 0) := d1
  replace d2 : w3.cell? ⟨w.heap.size, 2, none⟩ = some (.slice none 0 0) := d2
  replace d3 : w3.cell? ⟨w.heap.size, 3, none⟩ = some (.slice none 0 0) := d3
  clear hv3 hb3 hbl
  go_wp2_with fail
  have HE := Lib.hid (show Blk ((((w3.setCell ⟨w.heap.size, 0, none⟩ (.string ⟨#[116]⟩)).setCell ⟨w.heap.size, 1, none⟩ (.slice A1 (nrow a).length c1)).setCell ⟨w.heap.size, 2, none⟩ (.slice A2 (nrow b).length c2)).setCell ⟨w.heap.size, 3, none⟩ (.slice A3 (nrow c).length c3)) w.heap.size 33 (cgC ⟨⟨#[116]⟩, A1, c1, nrow a, A2, c2, nrow b, A3, c3, nrow c⟩) from (((HBL.out.set_ 0 (.string ⟨#[116]⟩)).set_ 1 (.slice A1 (nrow a).length c1)).set_ 2 (.slice A2 (nrow b).length c2)).set_ 3 (.slice A3 (nrow c).length c3))
  have hnv : Nv w3 w.heap.size := ⟨_, _, HBL.out, fun i p => by
    match i with
    | 0 => simp
    | 1 => simp
    | 2 => simp
    | 3 => simp
    | i + 4 => simp⟩
  have hoth : ∀ k, k < w3.heap.size → k ≠ w.heap.size → ((((w3.setCell ⟨w.heap.size, 0, none⟩ (.string ⟨#[116]⟩)).setCell ⟨w.heap.size, 1, none⟩ (.slice A1 (nrow a).length c1)).setCell ⟨w.heap.size, 2, none⟩ (.slice A2 (nrow b).length c2)).setCell ⟨w.heap.size, 3, none⟩ (.slice A3 (nrow c).length c3)).heap[k]? = w3.heap[k]? := fun k _ hk => (Below.heap_setCell _ _ _ _ hk).trans ((Below.heap_setCell _ _ _ _ hk).trans ((Below.heap_setCell _ _ _ _ hk).trans (Below.heap_setCell _ _ _ _ hk)))
  have HCI := Lib.hid (show CgIn ((((w3.setCell ⟨w.heap.size, 0, none⟩ (.string ⟨#[116]⟩)).setCell ⟨w.heap.size, 1, none⟩ (.slice A1 (nrow a).length c1)).setCell ⟨w.heap.size, 2, none⟩ (.slice A2 (nrow b).length c2)).setCell ⟨w.heap.size, 3, none⟩ (.slice A3 (nrow c).length c3)) ((((w3.setCell ⟨w.heap.size, 0, none⟩ (.string ⟨#[116]⟩)).setCell ⟨w.heap.size, 1, none⟩ (.slice A1 (nrow a).length c1)).setCell ⟨w.heap.size, 2, none⟩ (.slice A2 (nrow b).length c2)).setCell ⟨w.heap.size, 3, none⟩ (.slice A3 (nrow c).length c3)).heap.size ⟨⟨#[116]⟩, A1, c1, nrow a, A2, c2, nrow b, A3, c3, nrow c⟩ from cgIn_mono (B := w3.heap.size) ⟨vals_nv HV13.out hnv hoth, vals_nv HV23.out hnv hoth, vals_nv HV3.out hnv hoth⟩ (by simp [World.setCell]))
  have HBE := Lib.hid (show Below w.heap.size w ((((w3.setCell ⟨w.heap.size, 0, none⟩ (.string ⟨#[116]⟩)).setCell ⟨w.heap.size, 1, none⟩ (.slice A1 (nrow a).length c1)).setCell ⟨w.heap.size, 2, none⟩ (.slice A2 (nrow b).length c2)).setCell ⟨w.heap.size, 3, none⟩ (.slice A3 (nrow c).length c3)) from (((HBB.out.setCell (Nat.le_refl _) _).setCell (Nat.le_refl _) _).setCell (Nat.le_refl _) _).setCell (Nat.le_refl _) _)
  clear hnv hoth d0 d1 d2 d3 f0 f1 f2 f3
  generalize ((((w3.setCell ⟨w.heap.size, 0, none⟩ (.string ⟨#[116]⟩)).setCell ⟨w.heap.size, 1, none⟩ (.slice A1 (nrow a).length c1)).setCell ⟨w.heap.size, 2, none⟩ (.slice A2 (nrow b).length c2)).setCell ⟨w.heap.size, 3, none⟩ (.slice A3 (nrow c).length c3)) = W at *
  have q0 : W.cell? ⟨w.heap.size, 0, none⟩ = some (.string ⟨#[116]⟩) := HE.out.cell 0
  have q1 : W.cell? ⟨w.heap.size, 1, none⟩ = some (.slice A1 (nrow a).length c1) := HE.out.cell 1
  have q2 : W.cell? ⟨w.heap.size, 2, none⟩ = some (.slice A2 (nrow b).length c2) := HE.out.cell 2
  have q3 : W.cell? ⟨w.heap.size, 3, none⟩ = some (.slice A3 (nrow c).length c3) := HE.out.cell 3
  exact bodyPost_ret (v := .agg (cgC ⟨⟨#[116]⟩, A1, c1, nrow a, A2, c2, nrow b, A3, c3, nrow c⟩)) (by simp [results, Try.results13, go_sem, q0, q1, q2, q3]) rfl ⟨_, rfl, rfl, HCI.out, HBE.out⟩
/-- the box of a list of changes -/
def Bl (W : World) (q : Nat) (A : Option Addr) (n c : Nat) : Prop := Blk W q 28 #[.slice A n c]
abbrev isV (q : Nat) : Value := .func (.func 28) #[] #[.pointer (some ⟨q, 0, none⟩)]
abbrev notV (q : Nat) : Value := .func (.func 36) #[] #[.pointer (some ⟨q, 0, none⟩)]
set_option maxRecDepth 100000 in
set_option maxHeartbeats 4000000 in
theorem is_any (A : Option Addr) (n c : Nat) (w : World) : Calls Try.prog 11 #[.slice A n c] w fun e w' => e = .returned (isV w.heap.size) ∧ Bl w' w.heap.size A n c ∧ Below w.heap.size w w' := by
  have HB := Lib.hid (show Bl (w.alloc (.cells #[.slice A n c] 28)) w.heap.size A n c from Blk.new _ _ _)
  go_enter Try.func11, Try.ntmps11
  go_wp2
  go_ret
  exact ⟨rfl, HB.out, one_allocC⟩
set_option maxRecDepth 100000 in
set_option maxHeartbeats 4000000 in
theorem not_any (z : Int) (w : World) : Calls Try.prog 14 #[.int .i64 z] w fun e w' => e = .returned (notV w.heap.size) ∧ Blk w' w.heap.size 22 #[.int .i64 z] ∧ Below w.heap.size w w' := by
  have HB := Lib.hid (show Blk (w.alloc (.cells #[.int .i64 z] 22)) w.heap.size 22 #[.int .i64 z] from Blk.new _ _ _)
  go_enter Try.func14, Try.ntmps14
  go_wp2
  go_ret
  exact ⟨rfl, HB.out, one_allocC⟩
set_option maxRecDepth 100000 in
set_option maxHeartbeats 4000000 in
theorem is1_any (A C : Option Addr) (l m : List Cg) (n c n' c' q : Nat) (w : World) (hO : Cgs w w.heap.size A l) (hQ : Cgs w w.heap.size C m) (hq : Bl w q C n' c') (hn : n = l.length) (hn' : n' = m.length) (hm : n ≤ 100000) (hv : l.map vC = m.map vC) (hfit : ∀ X ∈ l, SmR X) :
    Calls Try.prog 28 #[.slice A n c, .int .i64 0, .pointer (some ⟨q, 0, none⟩)] w fun e w' => e = .returned (.bool true) ∧ Below w.heap.size w w' := by
  have HS := Lib.hid (csame_any A C l m n c n' c' w hO hQ hn (by rw [hn', hn, len_vC hv]) hm hv hfit)
  have d0 : w.cell? ⟨q, 0, none⟩ = some (.slice C n' c') := Blk.cell hq 0
  clear hO hQ hq hn hn' hm hv hfit
  go_enter Try.func28, Try.ntmps28
  go_wp2_with fail
  refine (HS.out).mono ?_
  rintro e w1 ⟨rfl, hb⟩
  go_wp2
  go_ret
  exact ⟨rfl, hb⟩
set_option maxRecDepth 100000 in
set_option maxHeartbeats 4000000 in
theorem not1_any (A : Option Addr) (c : Nat) (z : Int) (q : Nat) (w : World) (hq : Blk w q 22 #[.int .i64 z]) :
    Calls Try.prog 36 #[.slice A 0 c, .int .i64 z, .pointer (some ⟨q, 0, none⟩)] w fun e w' => e = .returned (.bool true) ∧ Below w.heap.size w w' := by
  have d0 : w.cell? ⟨q, 0, none⟩ = some (.int .i64 z) := Blk.cell hq 0
  have hz : (z == z) = true := by simp
  clear hq
  go_enter Try.func36, Try.ntmps36
  go_wp2
  go_ret
  exact ⟨rfl, Below.refl _ _⟩
end Go.Proofs.Ytocbdehcjcggeaa
namespace Go.Proofs.Ytocbdehcjcggeaa
open Go.RowKit Go
set_option linter.unusedVariables false
set_option linter.unusedSimpArgs false
def kC (x : Cg) : ByteArray × List Val := (x.t, x.k)
theorem sameK_iff {x y : Cg} : SameK x y ↔ kC x = kC y := by unfold SameK kC; simp only [Prod.mk.injEq]
theorem putC_new {acc : List Cg} {c : Cg} (h : ∀ x ∈ acc, kC x ≠ kC c) : putC acc c = some (acc ++ [c]) := by
  have h0 : acc.findIdx? (fun x => decide (SameK x c)) = none := List.findIdx?_eq_none_iff.2 fun x hx => decide_eq_false fun e => h x hx (sameK_iff.1 e)
  unfold putC
  rw [h0]
theorem nodup_at {α : Type} {l : List α} (h : l.Nodup) {i j : Nat} {x : α} (hi : l[i]? = some x) (hj : l[j]? = some x) : i = j := by
  have hp := List.pairwise_iff_getElem.1 h
  obtain ⟨h1, e1⟩ := List.getElem?_eq_some_iff.1 hi
  obtain ⟨h2, e2⟩ := List.getElem?_eq_some_iff.1 hj
  rcases Nat.lt_trichotomy i j with hlt | he | hlt
  · exact absurd (e1.trans e2.symm) (hp i j h1 h2 hlt)
  · exact he
  · exact absurd (e2.trans e1.symm) (hp j i h2 h1 hlt)
theorem putC_at {acc : List Cg} {c x : Cg} {i : Nat} (hx : acc[i]? = some x) (hs : kC x = kC c) (hnd : (acc.map kC).Nodup) : putC acc c = if x.n = c.o then some (acc.set i (newN x c)) else none := by
  have h0 : acc.findIdx? (fun x => decide (SameK x c)) = some i := by
    rcases hf : acc.findIdx? (fun x => decide (SameK x c)) with _ | i'
    · have := List.findIdx?_eq_none_iff.1 hf x (List.mem_of_getElem? hx)
      exact absurd (sameK_iff.2 hs) (of_decide_eq_false this)
    · obtain ⟨y, hy, hys⟩ := find_some hf
      have h1 : (acc.map kC)[i]? = some (kC c) := by rw [List.getElem?_map, hx, Option.map_some, hs]
      have h2 : (acc.map kC)[i']? = some (kC c) := by rw [List.getElem?_map, hy, Option.map_some, sameK_iff.1 hys]
      rw [nodup_at hnd h1 h2]
  unfold putC
  rw [h0]
  simp only [hx]
theorem mergeA_app : ∀ (l m acc : List Cg), mergeA acc (l ++ m) = (mergeA acc l).bind (fun a => mergeA a m)
  | [], m, acc => rfl
  | c :: l, m, acc => by
    show (match putC acc c with | none => none | some a => mergeA a (l ++ m)) = _
    show _ = (match putC acc c with | none => none | some a => mergeA a l).bind (fun a => mergeA a m)
    cases putC acc c with
    | none => rfl
    | some a => exact mergeA_app l m a
theorem mergeA_new : ∀ (l acc : List Cg), ((acc ++ l).map kC).Nodup → mergeA acc l = some (acc ++ l)
  | [], acc, _ => by rw [List.append_nil]; rfl
  | c :: l, acc, h => by
    have h1 : putC acc c = some (acc ++ [c]) := putC_new fun x hx e => by
      rw [List.map_append, List.map_cons] at h
      have := (List.nodup_append.1 h).2.2 (kC x) (List.mem_map_of_mem hx) (kC c) (by simp)
      exact this e
    show (match putC acc c with | none => none | some a => mergeA a l) = _
    rw [h1]
    show mergeA (acc ++ [c]) l = _
    rw [mergeA_new l (acc ++ [c]) (by rw [List.append_assoc]; exact h), List.append_assoc]
    rfl
theorem kC_vC {x y : Cg} (h : vC x = vC y) : kC x = kC y := by
  obtain ⟨h1, h2, _, _⟩ := vC_eq.1 h
  unfold kC
  rw [h1, h2]
theorem cmp_kC {x y : Cg} (h : kC x = kC y) : cgCmp x y = 0 := by
  unfold kC at h
  simp only [Prod.mk.injEq] at h
  have : cgCmp x y = cgCmp y y := by unfold cgCmp; rw [h.1, h.2]
  rw [this]
  exact cgCmp_pre.zero y
theorem okC_lt {l : List Cg} (h : OkC l) : ∀ (d i : Nat) (x y : Cg), l[i]? = some x → l[i + d + 1]? = some y → cgCmp x y < 0
  | 0, i, x, y, hx, hy => by
    have hl : i + 1 < l.length := (List.getElem?_eq_some_iff.1 hy).1
    obtain ⟨z, hz, _, h3⟩ := h.2 (i + 1) hl
    rw [show i + 0 + 1 = i + 1 from rfl, hz] at hy
    cases hy
    exact h3 i x rfl hx
  | d + 1, i, x, y, hx, hy => by
    have hl : i + (d + 1) + 1 < l.length := (List.getElem?_eq_some_iff.1 hy).1
    have hz : l[i + d + 1]? = some (l[i + d + 1]'(by omega)) := List.getElem?_eq_getElem _
    have h1 := okC_lt h d i x _ hx hz
    have h2 := okC_lt h 0 (i + d + 1) _ y hz (by rw [← hy]; congr 1)
    have h3 := cgCmp_pre.tr x (l[i + d + 1]'(by omega)) y (by omega) (by omega)
    rcases Int.lt_or_eq_of_le h3 with h4 | h4
    · exact h4
    · have := (cgCmp_pre.both (x := x) (y := l[i + d + 1]'(by omega)) (z := y) (by omega) (by omega) h4).1
      omega
theorem okC_less {l : List Cg} (h : OkC l) {i j : Nat} {x y : Cg} (hij : i < j) (hx : l[i]? = some x) (hy : l[j]? = some y) : cgCmp x y < 0 := by
  obtain ⟨d, rfl⟩ : ∃ d, j = i + d + 1 := ⟨j - i - 1, by omega⟩
  exact okC_lt h d i x y hx hy
theorem okC_nodup {l : List Cg} (h : OkC l) : (l.map kC).Nodup := by
  refine List.pairwise_iff_getElem.2 fun i j hi hj hij e => ?_
  rw [List.length_map] at hi hj
  simp only [List.getElem_map] at e
  have := okC_less h hij (List.getElem?_eq_getElem hi) (List.getElem?_eq_getElem hj)
  have := cmp_kC e
  omega
theorem okC_of {l : List Cg} (hs : SortedC l) (hm : ∀ x ∈ l, mayC x = true) (hf : ∀ x ∈ l, FitC x) (hnd : (l.map kC).Nodup) (hlen : l.length ≤ 1000) : OkC l := by
  refine ⟨hlen, fun j hj => ⟨l[j], List.getElem?_eq_getElem hj, hm _ (List.getElem_mem hj), fun i y hi hy => ?_⟩⟩
  have h1 := hs i j y l[j] (by omega) hy (List.getElem?_eq_getElem hj)
  rcases Int.lt_or_eq_of_le h1 with h2 | h2
  · exact h2
  · have hym := List.mem_of_getElem? hy
    obtain ⟨e1, e2⟩ := cgCmp_zero h2 (hm y hym) (hm _ (List.getElem_mem hj)) (fun z hz => ((hf y hym).2.2.2.2.1 z hz).1)
    have a1 : (l.map kC)[i]? = some (kC y) := by rw [List.getElem?_map, hy]; rfl
    have a2 : (l.map kC)[j]? = some (kC y) := by rw [List.getElem?_map, List.getElem?_eq_getElem hj, Option.map_some]; unfold kC; rw [e1, e2]
    have := nodup_at hnd a1 a2
    omega
abbrev CV := ByteArray × List Val × List Val × List Val
def mkC (v : CV) : Cg := ⟨v.1, none, 0, v.2.1, none, 0, v.2.2.1, none, 0, v.2.2.2⟩
theorem vC_mkC (x : Cg) : vC (mkC (vC x)) = vC x := rfl
theorem okC_pair {l : List Cg} (h : OkC l) : (l.map vC).Pairwise (fun a b => cgCmp (mkC a) (mkC b) < 0) := by
  refine List.pairwise_iff_getElem.2 fun i j hi hj hij => ?_
  rw [List.length_map] at hi hj
  simp only [List.getElem_map]
  have := okC_less h hij (List.getElem?_eq_getElem hi) (List.getElem?_eq_getElem hj)
  rw [cmp_vC (vC_mkC l[i]) (vC_mkC l[j])]
  exact this
theorem okC_uniq {l m : List Cg} (hl : OkC l) (hm : OkC m) (hp : (l.map vC).Perm (m.map vC)) : l.map vC = m.map vC :=
  List.Perm.eq_of_pairwise (le := fun a b => cgCmp (mkC a) (mkC b) < 0) (fun a b _ _ h1 h2 => by
    have := cgCmp_pre.neg (mkC a) (mkC b)
    omega) (okC_pair hl) (okC_pair hm) hp
theorem map_kC (l : List Cg) : l.map kC = (l.map vC).map (fun v => (v.1, v.2.1)) := by rw [List.map_map]; rfl
/-- Merge answers the changeset that its changes come to -/
theorem mergeR_yes {l m acc : List Cg} {e : Ending} {w' : World} (h : MergeR l e w') (ha : mergeA [] l = some acc) (hm : OkC m) (hp : ((keepL acc).map vC).Perm (m.map vC)) :
    ∃ A k c' l', e = .returned (.tuple #[.slice A k c', .int .i64 0]) ∧ k = l'.length ∧ Cgs w' w'.heap.size A l' ∧ l'.map vC = m.map vC ∧ ∀ x ∈ l', FitC x := by
  unfold MergeR at h
  rw [ha] at h
  obtain ⟨l', h1, h2, h3, h4, h5⟩ := h
  have hp' : (l'.map vC).Perm (m.map vC) := (h1.map vC).trans hp
  have hmay : ∀ x ∈ l', mayC x = true := fun x hx => by
    obtain ⟨y, hy, hyx⟩ := List.mem_map.1 (hp'.mem_iff.1 (List.mem_map_of_mem hx))
    rw [← may_vC hyx]
    exact okC_may hm y hy
  have hnd : (l'.map kC).Nodup := by
    rw [map_kC, (hp'.map _).nodup_iff, ← map_kC]
    exact okC_nodup hm
  have hlen : l'.length ≤ 1000 := by
    have := hp'.length_eq
    rw [List.length_map, List.length_map] at this
    rw [this]
    exact hm.1
  have hok := okC_of h2 hmay (fun x hx => (h3 x hx).1) hnd hlen
  obtain ⟨A, k, c', e1, e2, e3⟩ := h5 (chkG_ok hok)
  exact ⟨A, k, c', l', e1, e2, e3, okC_uniq hok hm hp', fun x hx => (h3 x hx).1⟩
theorem may_gone {x : Cg} (h : mayC x = true) : goneC x = false := by
  unfold mayC at h
  unfold goneC
  simp only [Bool.and_eq_true, Bool.not_eq_true'] at h
  exact h.2.2.2.2.2.2
theorem okC_keep {l : List Cg} (h : OkC l) : keepL l = l := keep_all fun x hx => may_gone (okC_may h x hx)
theorem merge_self {l : List Cg} (h : OkC l) : mergeA [] l = some l := by
  have := mergeA_new l [] (by simpa using okC_nodup h)
  simpa using this
theorem okC_nil : OkC [] := ⟨by simp, fun j hj => by simp at hj⟩
theorem okC_one {x : Cg} (h : mayC x = true) : OkC [x] := ⟨by simp, fun j hj => by
  obtain rfl : j = 0 := by simpa using hj
  exact ⟨x, rfl, h, fun i y hi _ => by omega⟩⟩
theorem okC_two {x y : Cg} (h : mayC x = true) (k : mayC y = true) (hxy : cgCmp x y < 0) : OkC [x, y] := ⟨by simp, fun j hj => by
  have : j = 0 ∨ j = 1 := by simp at hj; omega
  rcases this with rfl | rfl
  · exact ⟨x, rfl, h, fun i y hi _ => by omega⟩
  · refine ⟨y, rfl, k, fun i z hi hz => ?_⟩
    obtain rfl : i = 0 := by omega
    cases hz
    exact hxy⟩
/-- turned about -/
theorem may_swap {x : Cg} (h : mayC x = true) : mayC (swapC x) = true := by
  unfold mayC swapC at *
  simp only [Bool.and_eq_true, decide_eq_true_eq, Bool.not_eq_true', decide_eq_false_iff_not] at h ⊢
  exact ⟨h.1, h.2.1, h.2.2.1, h.2.2.2.1, h.2.2.2.2.2.1, h.2.2.2.2.1, fun e => h.2.2.2.2.2.2 e.symm⟩
theorem okC_swap {l : List Cg} (h : OkC l) : OkC (l.map swapC) := by
  refine ⟨by rw [List.length_map]; exact h.1, fun j hj => ?_⟩
  rw [List.length_map] at hj
  obtain ⟨x, hx, h1, h2⟩ := h.2 j hj
  refine ⟨swapC x, by rw [List.getElem?_map, hx]; rfl, may_swap h1, fun i y hi hy => ?_⟩
  rw [List.getElem?_map] at hy
  rcases hz : l[i]? with _ | z
  · rw [hz] at hy; cases hy
  · rw [hz] at hy
    cases hy
    exact h2 i z hi hz
theorem swap_swap (l : List Cg) : (l.map swapC).map swapC = l := by
  rw [List.map_map]
  have : (swapC ∘ swapC) = id := by funext x; rfl
  rw [this, List.map_id]
theorem fit_swap {x : Cg} (h : FitC x) : FitC (swapC x) := ⟨h.1, h.2.1, h.2.2.2.1, h.2.2.1, h.2.2.2.2.1, h.2.2.2.2.2.2, h.2.2.2.2.2.1⟩
/-- undone by what it was turned about -/
def undo (x : Cg) : Cg := newN x (swapC x)
theorem mergeA_undo (l : List Cg) (hnd : (l.map kC).Nodup) : ∀ (r d : List Cg), l = d ++ r → mergeA (d.map undo ++ r) (r.map swapC) = some (l.map undo)
  | [], d, h => by rw [h, List.append_nil, List.append_nil]; rfl
  | c :: r, d, h => by
    have h1 : (d.map undo ++ c :: r)[d.length]? = some c := by
      rw [List.getElem?_append_right (by simp)]
      simp
    have h2 : ((d.map undo ++ c :: r).map kC).Nodup := by
      have : (d.map undo ++ c :: r).map kC = l.map kC := by
        rw [h, List.map_append, List.map_append, List.map_map]
        rfl
      rw [this]
      exact hnd
    have h3 := putC_at (c := swapC c) h1 rfl h2
    rw [if_pos (show c.n = (swapC c).o from rfl)] at h3
    have h4 : (d.map undo ++ c :: r).set d.length (newN c (swapC c)) = (d ++ [c]).map undo ++ r := by
      rw [List.set_append_right _ _ (by simp), List.length_map, Nat.sub_self, List.set_cons_zero, List.map_append, List.append_assoc]
      rfl
    rw [h4] at h3
    show (match putC (d.map undo ++ c :: r) (swapC c) with | none => none | some a => mergeA a (r.map swapC)) = _
    rw [h3]
    exact mergeA_undo l hnd r (d ++ [c]) (by rw [h, List.append_assoc]; rfl)
theorem merge_undo {l : List Cg} (h : OkC l) : mergeA [] (l ++ l.map swapC) = some (l.map undo) := by
  rw [mergeA_app, merge_self h]
  exact mergeA_undo l (okC_nodup h) l [] rfl
theorem keep_undo (l : List Cg) : keepL (l.map undo) = [] := by
  unfold keepL
  rw [List.filter_eq_nil_iff]
  intro x hx
  obtain ⟨y, _, rfl⟩ := List.mem_map.1 hx
  unfold goneC undo newN swapC
  simp
end Go.Proofs.Ytocbdehcjcggeaa
namespace Go.Proofs.Ytocbdehcjcggeaa
open Go.RowKit Go
set_option linter.unusedVariables false
set_option linter.unusedSimpArgs false
theorem cgi_step {W W' : World} {x : Cg} (h : CgIn W W.heap.size x) (hb : Below W.heap.size W W') : CgIn W' W'.heap.size x := cgIn_mono (cgIn_below h hb) hb.size
/-- changes side by side in a block -/
theorem cgs_blk {W : World} {g : Nat} {t : TypeId} {l : List Cg} {cs : Array Value} (h : Blk W g t cs) (hc : cs = (cgCs l).toArray) (hI : ∀ x ∈ l, CgIn W W.heap.size x) : Cgs W W.heap.size (some ⟨g, 0, none⟩) l := by
  subst hc
  have hcell : ∀ (j c : Nat) x, l[j]? = some x → c < 4 → W.cell? ⟨g, 0 + j * 4 + c, none⟩ = some (cgE x)[c]! := fun j c x hx hc => by
    rw [Blk.cell h, List.getElem?_toArray, Nat.zero_add, cgCs_get l j c x hx hc]
  exact .inr ⟨g, 0, rfl, h.lt, fun j x hx => ⟨⟨hcell j 0 x hx (by omega), hcell j 1 x hx (by omega), hcell j 2 x hx (by omega), hcell j 3 x hx (by omega)⟩, hI x (List.mem_of_getElem? hx)⟩⟩
def sm (a : Int) : Prop := -100 ≤ a ∧ a ≤ 100
theorem nrow_fit {a : Int} (h : sm a) : (nrow a).length ≤ maxLen ∧ ∀ y ∈ nrow a, FitsS y := by
  unfold nrow sm at *
  split
  · exact ⟨by simp, fun y hy => (by cases hy)⟩
  · refine ⟨by unfold maxLen; simp, fun y hy => ?_⟩
    rw [List.mem_singleton.1 hy]
    exact ⟨⟨by show (0 : Int) ≤ 1; omega, by show (1 : Int) < 256; omega, by show -9223372036854775808 ≤ a; omega, by show a ≤ 9223372036854775807; omega⟩, by show (0 : Nat) ≤ _; omega⟩
theorem of_fit {X : Cg} {a b c : Int} (h : vC X = ofV a b c) (ha : sm a) (hb : sm b) (hc : sm c) : FitC X :=
  fit_vC (x := mkC (ofV a b c)) h.symm ⟨by show (1 : Nat) ≤ _; omega, (nrow_fit ha).1, (nrow_fit hb).1, (nrow_fit hc).1, (nrow_fit ha).2, (nrow_fit hb).2, (nrow_fit hc).2⟩
theorem of_may {X : Cg} {a b c : Int} (h : vC X = ofV a b c) (k : mayC (mkC (ofV a b c)) = true) : mayC X = true := by
  rw [may_vC (y := mkC (ofV a b c)) h]; exact k
theorem sm_of {a : Int} (h : decide (-100 ≤ a) && decide (a ≤ 100) = true) : sm a := by
  simp only [Bool.and_eq_true, decide_eq_true_eq] at h
  exact h
theorem may_101 : mayC (mkC (ofV 1 0 1)) = true := by decide +kernel
theorem may_256 : mayC (mkC (ofV 2 5 6)) = true := by decide +kernel
theorem may_102 : mayC (mkC (ofV 1 0 2)) = true := by decide +kernel
theorem no_111 : mayC (mkC (ofV 1 1 1)) = false := by decide +kernel
theorem ok_12 {X Y : Cg} {b c b' c' : Int} (h : vC X = ofV 1 b c) (k : vC Y = ofV 2 b' c') (hx : mayC X = true) (hy : mayC Y = true) : OkC [X, Y] :=
  okC_two hx hy (by
    have : cgCmp X Y = cgCmp (mkC (ofV 1 b c)) (mkC (ofV 2 b' c')) := cmp_vC h k
    rw [this]
    have h2 : cgCmp (mkC (ofV 1 b c)) (mkC (ofV 2 b' c')) = cgCmp (mkC (ofV 1 0 0)) (mkC (ofV 2 0 0)) := rfl
    rw [h2]
    decide +kernel)
theorem no_one {X : Cg} {v : CV} (h : vC X = v) (k : mayC (mkC v) = false) : chkG [X] = 2 := chkG_no fun hok => by
  have := okC_may hok X (by simp)
  rw [may_vC (y := mkC v) h, k] at this
  cases this
theorem gone_vC {x y : Cg} (h : vC x = vC y) : goneC x = goneC y := by
  obtain ⟨_, _, h3, h4⟩ := vC_eq.1 h
  unfold goneC
  rw [h3, h4]
theorem mg_works {Z1 Z2 Z3 Y1 Y2 : Cg} (h1 : vC Z1 = ofV 2 5 6) (h2 : vC Z2 = ofV 1 0 1) (h3 : vC Z3 = ofV 1 1 2) (k1 : vC Y1 = ofV 1 0 2) (k2 : vC Y2 = ofV 2 5 6) :
    ∃ acc, mergeA [] [Z1, Z2, Z3] = some acc ∧ ((keepL acc).map vC).Perm ([Y1, Y2].map vC) := by
  have e1 : kC Z1 = (⟨#[116]⟩, nrow 2) := by rw [show kC Z1 = ((vC Z1).1, (vC Z1).2.1) from rfl, h1]; rfl
  have e2 : kC Z2 = (⟨#[116]⟩, nrow 1) := by rw [show kC Z2 = ((vC Z2).1, (vC Z2).2.1) from rfl, h2]; rfl
  have e3 : kC Z3 = (⟨#[116]⟩, nrow 1) := by rw [show kC Z3 = ((vC Z3).1, (vC Z3).2.1) from rfl, h3]; rfl
  have hnd : ([Z1, Z2].map kC).Nodup := by
    simp only [List.map_cons, List.map_nil, e1, e2]
    decide +kernel
  have hm1 := mergeA_new [Z1, Z2] [] hnd
  have hno : Z2.n = Z3.o := by
    rw [show Z2.n = (vC Z2).2.2.2 from rfl, show Z3.o = (vC Z3).2.2.1 from rfl, h2, h3]; rfl
  have hp := putC_at (acc := [Z1, Z2]) (i := 1) (x := Z2) (c := Z3) rfl (by rw [e2, e3]) hnd
  rw [if_pos hno] at hp
  have hv : vC (newN Z2 Z3) = ofV 1 0 2 := by
    rw [show vC (newN Z2 Z3) = ((vC Z2).1, (vC Z2).2.1, (vC Z2).2.2.1, (vC Z3).2.2.2) from rfl, h2, h3]; rfl
  refine ⟨[Z1, newN Z2 Z3], ?_, ?_⟩
  · rw [show [Z1, Z2, Z3] = [Z1, Z2] ++ [Z3] from rfl, mergeA_app, hm1]
    show (match putC [Z1, Z2] Z3 with | none => none | some a => mergeA a []) = _
    rw [hp]
    rfl
  · rw [keep_all (fun z hz => by
      simp only [List.mem_cons, List.not_mem_nil, or_false] at hz
      rcases hz with rfl | rfl
      · exact may_gone (of_may h1 may_256)
      · exact may_gone (of_may hv may_102))]
    simp only [List.map_cons, List.map_nil, h1, hv, k1, k2]
    exact List.Perm.swap _ _ _
end Go.Proofs.Ytocbdehcjcggeaa
namespace Go.Proofs.Ytocbdehcjcggeaa
open Go.RowKit Go
set_option linter.unusedVariables false
set_option linter.unusedSimpArgs false
theorem bl_step {W W' : World} {q : Nat} {A : Option Addr} {n c : Nat} (h : Bl W q A n c) (hb : Below W.heap.size W W') : Bl W' q A n c := Blk.below h hb h.lt
theorem putG_size {l : List Cg} (h : OkC l) (hf : ∀ X ∈ l, FitC X) : (bstr (putG l)).size ≤ 1000000000 := by
  rw [bstr_size, putG, List.length_append, putL_length]
  have h1 := (sz_le l.length).2
  have h2 := chgsL_len (l := l) (fun X hX => ⟨okC_may h X hX, (may_keyOk (okC_may h X hX) (hf X hX)).t⟩)
  have h3 := h.1
  have h4 : 70000 * l.length ≤ 70000 * 1000 := Nat.mul_le_mul_left _ h3
  omega
theorem putG_bts {l : List Cg} (h : OkC l) : bts (bstr (putG l)) = putG l := bts_bstr _ (by
  intro y hy
  have hrec : ∀ v : List Val, v.length ≤ 16 → ∀ z ∈ textL (recL v), z < 256 := fun v hv z hz => by
    unfold textL at hz
    rcases List.mem_append.1 hz with hz | hz
    · exact putL_lt _ _ hz
    · exact recL_lt v (by omega) z hz
  unfold putG chgsL at hy
  rcases List.mem_append.1 hy with hy | hy
  · exact putL_lt _ _ hy
  · obtain ⟨X, hXl, hX⟩ := List.mem_flatMap.1 hy
    have hm := okC_may h X hXl
    have hr := may_rows hm
    unfold chgL at hX
    simp only [List.mem_append] at hX
    rcases hX with ((hX | hX) | hX) | hX
    · exact hrec _ (by simp) _ hX
    · exact hrec _ (may_len hm) _ hX
    · exact hrec _ (chkR_len (row_ok hr.1).1) _ hX
    · exact hrec _ (chkR_len (row_ok hr.2).1) _ hX)
/-- what Take answers of what Put wrote -/
theorem take_put {l : List Cg} (h : OkC l) (hf : ∀ X ∈ l, FitC X) (w : World) : Calls Try.prog 18 #[.string (bstr (putG l))] w fun e w' => ∃ A c l', e = .returned (.tuple #[.slice A l'.length c, .int .i64 0]) ∧ Cgs w' w'.heap.size A l' ∧ Below w.heap.size w w' ∧ l'.map vC = l.map vC := by
  refine (ctake_any _ w (putG_size h hf)).mono ?_
  rintro e w' ⟨A, c, er, l', rfl, hc, hb, hg⟩
  obtain ⟨rfl, hv⟩ := hg.2 l h hf (putG_bts h)
  exact ⟨A, c, l', rfl, hc, hb, hv⟩
theorem put_yes {A : Option Addr} {l : List Cg} {n c : Nat} {w : World} (hO : Cgs w w.heap.size A l) (hn : n = l.length) (h : OkC l) (hf : ∀ X ∈ l, FitC X) : Calls Try.prog 9 #[.slice A n c] w fun e w' => e = .returned (.tuple #[.string (bstr (putG l)), .int .i64 0]) ∧ Below w.heap.size w w' :=
  (put_gs A l n c w hO hn (by have := h.1; omega) hf).mono fun e w' he => ⟨he.2.2 (chkG_ok h), he.1⟩
theorem check_yes {A : Option Addr} {l : List Cg} {n c : Nat} {w : World} {z : Int} (hO : Cgs w w.heap.size A l) (hn : n = l.length) (h : chkG l = z) (hm : n ≤ 100000) (hf : ∀ X ∈ l, FitC X) : Calls Try.prog 17 #[.slice A n c] w fun e w' => e = .returned (.int .i64 z) ∧ Below w.heap.size w w' := by
  rw [← h]
  exact gcheck_any A l n c w hO hn (by unfold maxLen; omega) hf
theorem merge_yes {A : Option Addr} {l m acc : List Cg} {n c : Nat} {w : World} (hO : Cgs w w.heap.size A l) (hn : n = l.length) (hs : n ≤ 1000) (hf : ∀ X ∈ l, FitC X) (hk : ∀ X ∈ l, KeyOk X) (ha : mergeA [] l = some acc) (hm : OkC m) (hp : ((keepL acc).map vC).Perm (m.map vC)) :
    Calls Try.prog 12 #[.slice A n c] w fun e w' => ∃ A' c' l', e = .returned (.tuple #[.slice A' l'.length c', .int .i64 0]) ∧ Cgs w' w'.heap.size A' l' ∧ Below w.heap.size w w' ∧ l'.map vC = m.map vC ∧ ∀ X ∈ l', FitC X := by
  refine (merge_any A l n c w hO hn hs hf hk).mono ?_
  intro e w' he
  obtain ⟨A', k, c', l', h1, h2, h3, h4, h5⟩ := mergeR_yes (show MergeR l e w' from he.2) ha hm hp
  subst h2
  exact ⟨A', c', l', h1, h3, he.1, h4, h5⟩
set_option maxRecDepth 100000 in
set_option maxHeartbeats 16000000 in
theorem works22 (w : World) : Calls Try.prog 10 #[] w fun e w' => e = .returned (.bool true) ∧ Below w.heap.size w w' := by
  have HOF := Lib.hid (fun (a b c : Int) (W : World) => of_any a b c W)
  go_enter Try.func10, Try.ntmps10
  have HB := Lib.hid (Below.refl w.heap.size w)
  go_wp2_with fail
  refine (HOF.out 1 0 1 _).mono ?_
  rintro e w1 ⟨X, rfl, hvX, hcX, hb⟩
  have HVX := Lib.hid hvX
  have HFX := Lib.hid (of_fit hvX (sm_of (by decide)) (sm_of (by decide)) (sm_of (by decide)))
  have HCX := Lib.hid hcX
  replace HB := Lib.hid (bj HB.out hb)
  clear hb hvX hcX
  go_wp2_with fail
  refine (HOF.out 2 5 6 _).mono ?_
  rintro e w2 ⟨Y, rfl, hvY, hcY, hb⟩
  have HVY := Lib.hid hvY
  have HFY := Lib.hid (of_fit hvY (sm_of (by decide)) (sm_of (by decide)) (sm_of (by decide)))
  have HCY := Lib.hid hcY
  replace HB := Lib.hid (bj HB.out hb)
  replace HCX := Lib.hid (cgi_step HCX.out hb)
  clear hb hvY hcY
  have hb := one_allocC (w := w2) (o := .cells #[.string X.t, .slice X.kA X.k.length X.kc, .slice X.oA X.o.length X.oc, .slice X.nA X.n.length X.nc, .string Y.t, .slice Y.kA Y.k.length Y.kc, .slice Y.oA Y.o.length Y.oc, .slice Y.nA Y.n.length Y.nc] 33)
  replace HB := Lib.hid (bj HB.out hb)
  replace HCX := Lib.hid (cgi_step HCX.out hb)
  replace HCY := Lib.hid (cgi_step HCY.out hb)
  have HL := Lib.hid (cgs_blk (l := [X, Y]) (Blk.new w2 33 #[.string X.t, .slice X.kA X.k.length X.kc, .slice X.oA X.o.length X.oc, .slice X.nA X.n.length X.nc, .string Y.t, .slice Y.kA Y.k.length Y.kc, .slice Y.oA Y.o.length Y.oc, .slice Y.nA Y.n.length Y.nc]) rfl (by
    intro z hz
    simp only [List.mem_cons, List.not_mem_nil, or_false] at hz
    rcases hz with rfl | rfl
    · exact HCX.out
    · exact HCY.out))
  clear hb
  have HOK := Lib.hid (ok_12 HVX.out HVY.out (of_may HVX.out may_101) (of_may HVY.out may_256))
  have HFL := Lib.hid (show ∀ Z ∈ [X, Y], FitC Z from fun z hz => by
    simp only [List.mem_cons, List.not_mem_nil, or_false] at hz
    rcases hz with rfl | rfl
    · exact HFX.out
    · exact HFY.out)
  go_wp2_with fail
  refine (put_yes HL.out rfl HOK.out HFL.out).mono ?_
  rintro e w3 ⟨rfl, hb⟩
  replace HB := Lib.hid (bj HB.out hb)
  replace HCX := Lib.hid (cgi_step HCX.out hb)
  replace HCY := Lib.hid (cgi_step HCY.out hb)
  replace HL := Lib.hid (cgs_step HL.out hb)
  clear hb
  have HTP := Lib.hid (fun W => take_put HOK.out HFL.out W)
  generalize bstr (putG [X, Y]) = S at *
  go_wp2_with fail
  refine (is_any _ _ _ _).mono ?_
  rintro e w4 ⟨rfl, hbl, hb⟩
  have HBL := Lib.hid hbl
  replace HB := Lib.hid (bj HB.out hb)
  replace HCX := Lib.hid (cgi_step HCX.out hb)
  replace HCY := Lib.hid (cgi_step HCY.out hb)
  replace HL := Lib.hid (cgs_step HL.out hb)
  clear hb hbl
  go_wp2_with fail
  refine (HTP.out _).mono ?_
  rintro e w5 ⟨A5, c5, l5, rfl, hc5, hb, hv5⟩
  have HC5 := Lib.hid hc5
  replace HB := Lib.hid (bj HB.out hb)
  replace HCX := Lib.hid (cgi_step HCX.out hb)
  replace HCY := Lib.hid (cgi_step HCY.out hb)
  replace HL := Lib.hid (cgs_step HL.out hb)
  replace HBL := Lib.hid (bl_step HBL.out hb)
  have HV5 := Lib.hid hv5
  clear hb hc5 hv5
  have HS5 := Lib.hid (show ∀ Z ∈ l5, SmR Z from fun z hz => by
    obtain ⟨y, hy, hyz⟩ := List.mem_map.1 (HV5.out ▸ List.mem_map_of_mem hz)
    exact smR_of (fit_vC hyz (HFL.out y hy)))
  have HN5 := Lib.hid (show l5.length ≤ 100000 from by rw [len_vC HV5.out]; simp)
  go_wp2_with fail
  refine (is1_any _ _ _ _ _ _ _ _ _ _ HC5.out HL.out HBL.out rfl rfl HN5.out HV5.out HS5.out).mono ?_
  rintro e w6 ⟨rfl, hb⟩
  replace HB := Lib.hid (bj HB.out hb)
  replace HCX := Lib.hid (cgi_step HCX.out hb)
  replace HCY := Lib.hid (cgi_step HCY.out hb)
  replace HL := Lib.hid (cgs_step HL.out hb)
  replace HBL := Lib.hid (bl_step HBL.out hb)
  replace HC5 := Lib.hid (cgs_step HC5.out hb)
  clear hb
  clear HC5 HBL HS5 HN5 HV5 HTP
  go_wp2_with fail
  refine (HOF.out 1 0 2 _).mono ?_
  rintro e w7 ⟨P, rfl, hvP, hcP, hb⟩
  have HVP := Lib.hid hvP
  have HFP := Lib.hid (of_fit hvP (sm_of (by decide)) (sm_of (by decide)) (sm_of (by decide)))
  have HCP := Lib.hid hcP
  replace HB := Lib.hid (bj HB.out hb)
  replace HCX := Lib.hid (cgi_step HCX.out hb)
  replace HCY := Lib.hid (cgi_step HCY.out hb)
  replace HL := Lib.hid (cgs_step HL.out hb)
  clear hb hvP hcP
  go_wp2_with fail
  refine (HOF.out 2 5 6 _).mono ?_
  rintro e w8 ⟨Q, rfl, hvQ, hcQ, hb⟩
  have HVQ := Lib.hid hvQ
  have HFQ := Lib.hid (of_fit hvQ (sm_of (by decide)) (sm_of (by decide)) (sm_of (by decide)))
  have HCQ := Lib.hid hcQ
  replace HB := Lib.hid (bj HB.out hb)
  replace HCX := Lib.hid (cgi_step HCX.out hb)
  replace HCY := Lib.hid (cgi_step HCY.out hb)
  replace HL := Lib.hid (cgs_step HL.out hb)
  replace HCP := Lib.hid (cgi_step HCP.out hb)
  clear hb hvQ hcQ
  have hb := one_allocC (w := w8) (o := .cells #[.string P.t, .slice P.kA P.k.length P.kc, .slice P.oA P.o.length P.oc, .slice P.nA P.n.length P.nc, .string Q.t, .slice Q.kA Q.k.length Q.kc, .slice Q.oA Q.o.length Q.oc, .slice Q.nA Q.n.length Q.nc] 33)
  replace HB := Lib.hid (bj HB.out hb)
  replace HCX := Lib.hid (cgi_step HCX.out hb)
  replace HCY := Lib.hid (cgi_step HCY.out hb)
  replace HL := Lib.hid (cgs_step HL.out hb)
  replace HCP := Lib.hid (cgi_step HCP.out hb)
  replace HCQ := Lib.hid (cgi_step HCQ.out hb)
  have HM := Lib.hid (cgs_blk (l := [P, Q]) (Blk.new w8 33 #[.string P.t, .slice P.kA P.k.length P.kc, .slice P.oA P.o.length P.oc, .slice P.nA P.n.length P.nc, .string Q.t, .slice Q.kA Q.k.length Q.kc, .slice Q.oA Q.o.length Q.oc, .slice Q.nA Q.n.length Q.nc]) rfl (by
    intro z hz
    simp only [List.mem_cons, List.not_mem_nil, or_false] at hz
    rcases hz with rfl | rfl
    · exact HCP.out
    · exact HCQ.out))
  clear hb
  have HOM := Lib.hid (ok_12 HVP.out HVQ.out (of_may HVP.out may_102) (of_may HVQ.out may_256))
  go_wp2_with fail
  refine (is_any _ _ _ _).mono ?_
  rintro e w9 ⟨rfl, hbl, hb⟩
  have hsz : (w8.alloc (.cells #[.string P.t, .slice P.kA P.k.length P.kc, .slice P.oA P.o.length P.oc, .slice P.nA P.n.length P.nc, .string Q.t, .slice Q.kA Q.k.length Q.kc, .slice Q.oA Q.o.length Q.oc, .slice Q.nA Q.n.length Q.nc] 33)).heap.size = w8.heap.size + 1 := by simp
  rw [hsz] at hbl
  have HBL := Lib.hid hbl
  clear hsz
  replace HB := Lib.hid (bj HB.out hb)
  replace HCX := Lib.hid (cgi_step HCX.out hb)
  replace HCY := Lib.hid (cgi_step HCY.out hb)
  replace HL := Lib.hid (cgs_step HL.out hb)
  replace HCP := Lib.hid (cgi_step HCP.out hb)
  replace HCQ := Lib.hid (cgi_step HCQ.out hb)
  replace HM := Lib.hid (cgs_step HM.out hb)
  clear hb hbl
  go_wp2_with fail
  refine (HOF.out 2 5 6 _).mono ?_
  rintro e w10 ⟨R, rfl, hvR, hcR, hb⟩
  have HVR := Lib.hid hvR
  have HFR := Lib.hid (of_fit hvR (sm_of (by decide)) (sm_of (by decide)) (sm_of (by decide)))
  have HCR := Lib.hid hcR
  replace HB := Lib.hid (bj HB.out hb)
  replace HCX := Lib.hid (cgi_step HCX.out hb)
  replace HCY := Lib.hid (cgi_step HCY.out hb)
  replace HL := Lib.hid (cgs_step HL.out hb)
  replace HCP := Lib.hid (cgi_step HCP.out hb)
  replace HCQ := Lib.hid (cgi_step HCQ.out hb)
  replace HM := Lib.hid (cgs_step HM.out hb)
  replace HBL := Lib.hid (bl_step HBL.out hb)
  clear hb hvR hcR
  go_wp2_with fail
  refine (HOF.out 1 0 1 _).mono ?_
  rintro e w11 ⟨S1, rfl, hvS1, hcS1, hb⟩
  have HVS1 := Lib.hid hvS1
  have HFS1 := Lib.hid (of_fit hvS1 (sm_of (by decide)) (sm_of (by decide)) (sm_of (by decide)))
  have HCS1 := Lib.hid hcS1
  replace HB := Lib.hid (bj HB.out hb)
  replace HCX := Lib.hid (cgi_step HCX.out hb)
  replace HCY := Lib.hid (cgi_step HCY.out hb)
  replace HL := Lib.hid (cgs_step HL.out hb)
  replace HCP := Lib.hid (cgi_step HCP.out hb)
  replace HCQ := Lib.hid (cgi_step HCQ.out hb)
  replace HM := Lib.hid (cgs_step HM.out hb)
  replace HBL := Lib.hid (bl_step HBL.out hb)
  replace HCR := Lib.hid (cgi_step HCR.out hb)
  clear hb hvS1 hcS1
  go_wp2_with fail
  refine (HOF.out 1 1 2 _).mono ?_
  rintro e w12 ⟨T, rfl, hvT, hcT, hb⟩
  have HVT := Lib.hid hvT
  have HFT := Lib.hid (of_fit hvT (sm_of (by decide)) (sm_of (by decide)) (sm_of (by decide)))
  have HCT := Lib.hid hcT
  replace HB := Lib.hid (bj HB.out hb)
  replace HCX := Lib.hid (cgi_step HCX.out hb)
  replace HCY := Lib.hid (cgi_step HCY.out hb)
  replace HL := Lib.hid (cgs_step HL.out hb)
  replace HCP := Lib.hid (cgi_step HCP.out hb)
  replace HCQ := Lib.hid (cgi_step HCQ.out hb)
  replace HM := Lib.hid (cgs_step HM.out hb)
  replace HBL := Lib.hid (bl_step HBL.out hb)
  replace HCR := Lib.hid (cgi_step HCR.out hb)
  replace HCS1 := Lib.hid (cgi_step HCS1.out hb)
  clear hb hvT hcT
  have hb := one_allocC (w := w12) (o := .cells #[.string R.t, .slice R.kA R.k.length R.kc, .slice R.oA R.o.length R.oc, .slice R.nA R.n.length R.nc, .string S1.t, .slice S1.kA S1.k.length S1.kc, .slice S1.oA S1.o.length S1.oc, .slice S1.nA S1.n.length S1.nc, .string T.t, .slice T.kA T.k.length T.kc, .slice T.oA T.o.length T.oc, .slice T.nA T.n.length T.nc] 33)
  replace HB := Lib.hid (bj HB.out hb)
  replace HCX := Lib.hid (cgi_step HCX.out hb)
  replace HCY := Lib.hid (cgi_step HCY.out hb)
  replace HL := Lib.hid (cgs_step HL.out hb)
  replace HCP := Lib.hid (cgi_step HCP.out hb)
  replace HCQ := Lib.hid (cgi_step HCQ.out hb)
  replace HM := Lib.hid (cgs_step HM.out hb)
  replace HBL := Lib.hid (bl_step HBL.out hb)
  replace HCR := Lib.hid (cgi_step HCR.out hb)
  replace HCS1 := Lib.hid (cgi_step HCS1.out hb)
  replace HCT := Lib.hid (cgi_step HCT.out hb)
  have HZ := Lib.hid (cgs_blk (l := [R, S1, T]) (Blk.new w12 33 #[.string R.t, .slice R.kA R.k.length R.kc, .slice R.oA R.o.length R.oc, .slice R.nA R.n.length R.nc, .string S1.t, .slice S1.kA S1.k.length S1.kc, .slice S1.oA S1.o.length S1.oc, .slice S1.nA S1.n.length S1.nc, .string T.t, .slice T.kA T.k.length T.kc, .slice T.oA T.o.length T.oc, .slice T.nA T.n.length T.nc]) rfl (by
    intro z hz
    simp only [List.mem_cons, List.not_mem_nil, or_false] at hz
    rcases hz with rfl | rfl | rfl
    · exact HCR.out
    · exact HCS1.out
    · exact HCT.out))
  clear hb
  have HFZ := Lib.hid (show ∀ Z ∈ [R, S1, T], FitC Z ∧ KeyOk Z from fun z hz => by
    have hk : ∀ {Z : Cg} {a b c : Int}, vC Z = ofV a b c → sm a → sm b → sm c → a ≠ 0 → KeyOk Z := fun {Z a b c} h ha hb hc h0 => by
      obtain ⟨h1, h2, _, _⟩ := vC_eq.1 (show vC Z = vC (mkC (ofV a b c)) from h)
      have h3 : Z.k = [(1, a, ⟨#[]⟩)] := by rw [h2]; exact if_neg h0
      have h4 : Z.t = ⟨#[116]⟩ := h1
      refine ⟨by rw [h3]; simp, by rw [h3]; simp, fun y hy => ?_, by rw [h4]; decide⟩
      rw [h3] at hy
      rw [List.mem_singleton.1 hy]
      unfold sm at ha
      exact ⟨⟨by show (0 : Int) ≤ 1; omega, by show (1 : Int) < 256; omega, by show -9223372036854775808 ≤ a; omega, by show a ≤ 9223372036854775807; omega⟩, by show (0 : Nat) ≤ _; omega⟩
    simp only [List.mem_cons, List.not_mem_nil, or_false] at hz
    rcases hz with rfl | rfl | rfl
    · exact ⟨HFR.out, hk HVR.out (sm_of (by decide)) (sm_of (by decide)) (sm_of (by decide)) (by decide)⟩
    · exact ⟨HFS1.out, hk HVS1.out (sm_of (by decide)) (sm_of (by decide)) (sm_of (by decide)) (by decide)⟩
    · exact ⟨HFT.out, hk HVT.out (sm_of (by decide)) (sm_of (by decide)) (sm_of (by decide)) (by decide)⟩)
  obtain ⟨acc, hacc, hpm⟩ := mg_works HVR.out HVS1.out HVT.out HVP.out HVQ.out
  have HMG := Lib.hid (merge_yes HZ.out (n := 3) (c := 3) rfl (by omega) (fun z hz => (HFZ.out z hz).1) (fun z hz => (HFZ.out z hz).2) hacc HOM.out hpm)
  clear hacc hpm
  go_wp2_with fail
  refine (HMG.out).mono ?_
  rintro e w13 ⟨A13, c13, l13, rfl, hc13, hb, hv13, hf13⟩
  have HC13 := Lib.hid hc13
  have HV13 := Lib.hid hv13
  have HS13 := Lib.hid (show ∀ Z ∈ l13, SmR Z from fun z hz => smR_of (hf13 z hz))
  have HN13 := Lib.hid (show l13.length ≤ 100000 from by rw [len_vC hv13]; simp)
  replace HB := Lib.hid (bj HB.out hb)
  replace HCX := Lib.hid (cgi_step HCX.out hb)
  replace HCY := Lib.hid (cgi_step HCY.out hb)
  replace HL := Lib.hid (cgs_step HL.out hb)
  replace HCP := Lib.hid (cgi_step HCP.out hb)
  replace HCQ := Lib.hid (cgi_step HCQ.out hb)
  replace HM := Lib.hid (cgs_step HM.out hb)
  replace HBL := Lib.hid (bl_step HBL.out hb)
  replace HCR := Lib.hid (cgi_step HCR.out hb)
  replace HCS1 := Lib.hid (cgi_step HCS1.out hb)
  replace HCT := Lib.hid (cgi_step HCT.out hb)
  replace HZ := Lib.hid (cgs_step HZ.out hb)
  clear hb hc13 hv13 hf13 HMG
  go_wp2_with fail
  refine (is1_any _ _ _ _ _ _ _ _ _ _ HC13.out HM.out HBL.out rfl rfl HN13.out HV13.out HS13.out).mono ?_
  rintro e w14 ⟨rfl, hb⟩
  replace HB := Lib.hid (bj HB.out hb)
  replace HCX := Lib.hid (cgi_step HCX.out hb)
  replace HCY := Lib.hid (cgi_step HCY.out hb)
  replace HL := Lib.hid (cgs_step HL.out hb)
  replace HCP := Lib.hid (cgi_step HCP.out hb)
  replace HCQ := Lib.hid (cgi_step HCQ.out hb)
  replace HM := Lib.hid (cgs_step HM.out hb)
  replace HBL := Lib.hid (bl_step HBL.out hb)
  replace HCR := Lib.hid (cgi_step HCR.out hb)
  replace HCS1 := Lib.hid (cgi_step HCS1.out hb)
  replace HCT := Lib.hid (cgi_step HCT.out hb)
  replace HZ := Lib.hid (cgs_step HZ.out hb)
  replace HC13 := Lib.hid (cgs_step HC13.out hb)
  clear hb
  clear HC13 HBL HZ HM HS13 HN13 HV13
  go_wp2_with fail
  refine (check_yes HL.out rfl (chkG_ok HOK.out) (by simp) HFL.out).mono ?_
  rintro e w15 ⟨rfl, hb⟩
  replace HB := Lib.hid (bj HB.out hb)
  replace HCX := Lib.hid (cgi_step HCX.out hb)
  replace HCY := Lib.hid (cgi_step HCY.out hb)
  replace HL := Lib.hid (cgs_step HL.out hb)
  replace HCP := Lib.hid (cgi_step HCP.out hb)
  replace HCQ := Lib.hid (cgi_step HCQ.out hb)
  replace HCR := Lib.hid (cgi_step HCR.out hb)
  replace HCS1 := Lib.hid (cgi_step HCS1.out hb)
  replace HCT := Lib.hid (cgi_step HCT.out hb)
  clear hb
  go_wp2_with fail
  refine (HOF.out 1 1 1 _).mono ?_
  rintro e w16 ⟨U, rfl, hvU, hcU, hb⟩
  have HVU := Lib.hid hvU
  have HFU := Lib.hid (of_fit hvU (sm_of (by decide)) (sm_of (by decide)) (sm_of (by decide)))
  have HCU := Lib.hid hcU
  replace HB := Lib.hid (bj HB.out hb)
  replace HCX := Lib.hid (cgi_step HCX.out hb)
  replace HCY := Lib.hid (cgi_step HCY.out hb)
  replace HL := Lib.hid (cgs_step HL.out hb)
  replace HCP := Lib.hid (cgi_step HCP.out hb)
  replace HCQ := Lib.hid (cgi_step HCQ.out hb)
  replace HCR := Lib.hid (cgi_step HCR.out hb)
  replace HCS1 := Lib.hid (cgi_step HCS1.out hb)
  replace HCT := Lib.hid (cgi_step HCT.out hb)
  clear hb hvU hcU
  have hb := one_allocC (w := w16) (o := .cells #[.string U.t, .slice U.kA U.k.length U.kc, .slice U.oA U.o.length U.oc, .slice U.nA U.n.length U.nc] 33)
  replace HB := Lib.hid (bj HB.out hb)
  replace HCX := Lib.hid (cgi_step HCX.out hb)
  replace HCY := Lib.hid (cgi_step HCY.out hb)
  replace HL := Lib.hid (cgs_step HL.out hb)
  replace HCP := Lib.hid (cgi_step HCP.out hb)
  replace HCQ := Lib.hid (cgi_step HCQ.out hb)
  replace HCR := Lib.hid (cgi_step HCR.out hb)
  replace HCS1 := Lib.hid (cgi_step HCS1.out hb)
  replace HCT := Lib.hid (cgi_step HCT.out hb)
  replace HCU := Lib.hid (cgi_step HCU.out hb)
  have HU := Lib.hid (cgs_blk (l := [U]) (Blk.new w16 33 #[.string U.t, .slice U.kA U.k.length U.kc, .slice U.oA U.o.length U.oc, .slice U.nA U.n.length U.nc]) rfl (by
    intro z hz
    simp only [List.mem_cons, List.not_mem_nil, or_false] at hz
    rcases hz with rfl
    · exact HCU.out))
  clear hb
  go_wp2_with fail
  refine (check_yes HU.out rfl (no_one HVU.out no_111) (by simp) (fun z hz => by rw [List.mem_singleton.1 hz]; exact HFU.out)).mono ?_
  rintro e w17 ⟨rfl, hb⟩
  replace HB := Lib.hid (bj HB.out hb)
  clear hb
  go_wp2_with fail
  go_ret
  exact ⟨rfl, HB.out⟩
end Go.Proofs.Ytocbdehcjcggeaa
namespace Go.Proofs.Ytocbdehcjcggeaa
open Go.RowKit Go
set_option linter.unusedVariables false
set_option linter.unusedSimpArgs false
theorem may_110 : mayC (mkC (ofV 1 1 0)) = true := by decide +kernel
theorem may_210 : mayC (mkC (ofV 2 1 0)) = true := by decide +kernel
theorem putG_nil : bstr (putG []) = ⟨#[0]⟩ := by decide +kernel
theorem of_keyOk {Z : Cg} {a b c : Int} (h : vC Z = ofV a b c) (ha : sm a) (hb : sm b) (hc : sm c) (h0 : a ≠ 0) : KeyOk Z := by
  obtain ⟨h1, h2, _, _⟩ := vC_eq.1 (show vC Z = vC (mkC (ofV a b c)) from h)
  have h3 : Z.k = [(1, a, ⟨#[]⟩)] := by rw [h2]; exact if_neg h0
  have h4 : Z.t = ⟨#[116]⟩ := h1
  refine ⟨by rw [h3]; simp, by rw [h3]; simp, fun y hy => ?_, by rw [h4]; decide⟩
  rw [h3] at hy
  rw [List.mem_singleton.1 hy]
  unfold sm at ha
  exact ⟨⟨by show (0 : Int) ≤ 1; omega, by show (1 : Int) < 256; omega, by show -9223372036854775808 ≤ a; omega, by show a ≤ 9223372036854775807; omega⟩, by show (0 : Nat) ≤ _; omega⟩
theorem of_pair {P Q : Cg} {a b c b' c' : Int} (h : vC P = ofV a b c) (k : vC Q = ofV a b' c') : putC [P] Q = if nrow c = nrow b' then some [newN P Q] else none := by
  have h1 : kC P = kC Q := by rw [show kC P = ((vC P).1, (vC P).2.1) from rfl, show kC Q = ((vC Q).1, (vC Q).2.1) from rfl, h, k]; rfl
  have := putC_at (acc := [P]) (i := 0) (x := P) (c := Q) rfl h1 (by simp)
  rw [this, show P.n = (vC P).2.2.2 from rfl, show Q.o = (vC Q).2.2.1 from rfl, h, k]
  rfl
theorem mg_pair (P Q : Cg) : mergeA [] [P, Q] = putC [P] Q := by
  show (match putC [] P with | none => none | some a => mergeA a [Q]) = _
  rw [putC_new (acc := []) (c := P) (fun y hy => by cases hy)]
  show (match putC [P] Q with | none => none | some a => mergeA a []) = _
  cases putC [P] Q with
  | none => rfl
  | some a => rfl
theorem mg_gone {P Q : Cg} (h : vC P = ofV 1 0 1) (k : vC Q = ofV 1 1 0) : ∃ acc, mergeA [] [P, Q] = some acc ∧ keepL acc = [] := by
  refine ⟨[newN P Q], by rw [mg_pair, of_pair h k, if_pos rfl], ?_⟩
  have : goneC (newN P Q) = true := by
    unfold goneC
    rw [show (newN P Q).o = (vC P).2.2.1 from rfl, show (newN P Q).n = (vC Q).2.2.2 from rfl, h, k]
    rfl
  unfold keepL
  simp [this]
theorem mg_none {P Q : Cg} (h : vC P = ofV 1 0 1) (k : vC Q = ofV 1 0 1) : mergeA [] [P, Q] = none := by
  rw [mg_pair, of_pair h k, if_neg (by decide)]
theorem merge_no {A : Option Addr} {l : List Cg} {n c : Nat} {w : World} (hO : Cgs w w.heap.size A l) (hn : n = l.length) (hs : n ≤ 1000) (hf : ∀ X ∈ l, FitC X) (hk : ∀ X ∈ l, KeyOk X) (ha : mergeA [] l = none) :
    Calls Try.prog 12 #[.slice A n c] w fun e w' => e = .returned (.tuple #[.slice none 0 0, .int .i64 220]) ∧ Below w.heap.size w w' :=
  (merge_any A l n c w hO hn hs hf hk).mono fun e w' he => ⟨by have := he.2; rw [ha] at this; exact this, he.1⟩
theorem inv_yes {A : Option Addr} {l : List Cg} {n c : Nat} {w : World} (hO : Cgs w w.heap.size A l) (hn : n = l.length) (hf : ∀ X ∈ l, FitC X) (h : OkC l) :
    Calls Try.prog 15 #[.slice A n c] w fun e w' => ∃ A' c', e = .returned (.tuple #[.slice A' n c', .int .i64 0]) ∧ Cgs w' w'.heap.size A' (l.map swapC) ∧ Below w.heap.size w w' ∧ n ≤ c' :=
  (invert_any A l n c w hO hn (by have := h.1; omega) hf).mono fun e w' he => by
    obtain ⟨A', c', h1, h2, h3⟩ := he.2.2 (chkG_ok h)
    exact ⟨A', c', h1, h2, he.1, h3⟩
theorem concat_yes {A C : Option Addr} {a b m acc : List Cg} {n c n' c' : Nat} {w : World} (ha : Cgs w w.heap.size A a) (hb : Cgs w w.heap.size C b) (hn : n = a.length) (hn' : n' = b.length) (hs : n + n' ≤ 1000) (hfa : ∀ X ∈ a, FitC X) (hfb : ∀ X ∈ b, FitC X) (oa : OkC a) (ob : OkC b) (hm : mergeA [] (a ++ b) = some acc) (om : OkC m) (hp : ((keepL acc).map vC).Perm (m.map vC)) :
    Calls Try.prog 16 #[.slice A n c, .slice C n' c'] w fun e w' => ∃ A' k' l', e = .returned (.tuple #[.slice A' l'.length k', .int .i64 0]) ∧ Cgs w' w'.heap.size A' l' ∧ Below w.heap.size w w' ∧ l'.map vC = m.map vC ∧ ∀ X ∈ l', FitC X :=
  (concat_any A C a b n c n' c' w ha hb hn hn' hs hfa hfb).mono fun e w' he => by
    obtain ⟨A', k, c', l', h1, h2, h3, h4, h5⟩ := mergeR_yes (he.2.2.2 (chkG_ok oa) (chkG_ok ob)) hm om hp
    subst h2
    exact ⟨A', c', l', h1, h3, he.1, h4, h5⟩
theorem no_21 {X Y : Cg} (h : vC X = ofV 2 1 0) (k : vC Y = ofV 1 1 0) : chkG [X, Y] = 2 := chkG_no fun hok => by
  have h1 := okC_less hok (i := 0) (j := 1) (by omega) rfl rfl
  rw [show cgCmp X Y = cgCmp (mkC (ofV 2 1 0)) (mkC (ofV 1 1 0)) from cmp_vC h k] at h1
  exact absurd h1 (by decide +kernel)
theorem take_none (w : World) : Calls Try.prog 18 #[.string ⟨#[]⟩] w fun e w' => ∃ A c, e = .returned (.tuple #[.slice A 0 c, .int .i64 7]) ∧ Below w.heap.size w w' := by
  refine (ctake_any _ w (by decide)).mono ?_
  rintro e w' ⟨A, c, er, l', rfl, hc, hb, hg⟩
  rcases hg.1 with ⟨rfl, rfl⟩ | ⟨_, _, _, h⟩
  · exact ⟨A, c, rfl, hb⟩
  · have := congrArg List.length h
    rw [putG, List.length_append, putL_length] at this
    have h2 := (sz_le l'.length).1
    have h3 : (bts (⟨#[]⟩ : ByteArray)).length = 0 := by decide
    omega
end Go.Proofs.Ytocbdehcjcggeaa
