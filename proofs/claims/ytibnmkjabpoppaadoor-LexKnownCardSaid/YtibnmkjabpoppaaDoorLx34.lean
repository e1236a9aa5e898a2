/- Layer 13: joined tokens are read as they were; ref13.Same of tokens that are the same. Conditions: those of each lemma. -/
import Derived.Test.YtibnmkjabpoppaaDoorLx33
namespace Go.Proofs.YtibnmkjabpoppaaDoor
open Go Go.RowKit
set_option linter.unusedVariables false
set_option linter.unusedSimpArgs false
def itms : Bool → List TI → List (List Nat × TI)
  | _, [] => []
  | f, t :: r => ((if f then [] else [32]), t) :: itms false r
theorem itms_strp : ∀ (f : Bool) (l : List TI), (itms f l).map (fun a => strp a.2) = l.map strp
  | _, [] => rfl
  | f, t :: r => by rw [itms, List.map_cons, List.map_cons, itms_strp false r]
theorem itms_ok : ∀ (f : Bool) (l : List TI), (∀ t ∈ l, (wrT t.1 t.2.1 t.2.2.1).2 = true) → wrJ f l = some (flat (itms f l)) ∧ ∀ a ∈ itms f l, (wrT a.2.1 a.2.2.1 a.2.2.2.1).2 = true
  | _, [], _ => ⟨rfl, fun a ha => by simp [itms] at ha⟩
  | f, t :: r, h => by
    obtain ⟨h1, h2⟩ := itms_ok false r (fun x hx => h x (by simp [hx]))
    refine ⟨?_, fun a ha => ?_⟩
    · rw [wrJ, if_pos (h t (by simp)), h1]
      rfl
    · rw [itms] at ha
      rcases List.mem_cons.1 ha with rfl | ha
      · exact h t (by simp)
      · exact h2 a ha
theorem wrJ_ok : ∀ (f : Bool) (l : List TI) (L : List Nat), wrJ f l = some L → ∀ t ∈ l, (wrT t.1 t.2.1 t.2.2.1).2 = true
  | _, [], _, _, t, ht => by simp at ht
  | f, t :: r, L, h, u, hu => by
    rw [wrJ] at h
    by_cases hb : (wrT t.1 t.2.1 t.2.2.1).2 = true
    · rw [if_pos hb] at h
      obtain ⟨v, hv, _⟩ := Option.map_eq_some_iff.1 h
      rcases List.mem_cons.1 hu with rfl | hu
      · exact hb
      · exact wrJ_ok false r v hv u hu
    · rw [if_neg hb] at h; cases h
theorem gap1_32 : Gap1 [32] := ⟨gap_bla (by decide) gap_nil, 32, [], rfl, by decide⟩
theorem itms_gap1 : ∀ (l : List TI), ∀ a ∈ itms false l, Gap1 a.1
  | [], a, ha => by simp [itms] at ha
  | t :: r, a, ha => by
    rw [itms] at ha
    rcases List.mem_cons.1 ha with rfl | ha
    · exact gap1_32
    · exact itms_gap1 r a ha
theorem itms_gaps (l : List TI) : Gaps (itms true l) := by
  cases l with
  | nil => trivial
  | cons t r => exact ⟨gap_nil, itms_gap1 r⟩
theorem flat_lt : ∀ (r : List (List Nat × TI)), (∀ a ∈ r, ∀ c ∈ a.1, c < 256) → ∀ c ∈ flat r, c < 256
  | [], _, c, hc => by simp [flat] at hc
  | (g, t) :: r, h, c, hc => by
    rw [flat] at hc
    rcases List.mem_append.1 hc with hc | hc
    · rcases List.mem_append.1 hc with hc | hc
      · exact h (g, t) (by simp) c hc
      · exact bts_lt _ c hc
    · exact flat_lt r (fun a ha => h a (by simp [ha])) c hc
theorem itms_lt : ∀ (f : Bool) (l : List TI), ∀ a ∈ itms f l, ∀ c ∈ a.1, c < 256
  | _, [], a, ha, c, hc => by simp [itms] at ha
  | f, t :: r, a, ha, c, hc => by
    rw [itms] at ha
    rcases List.mem_cons.1 ha with rfl | ha
    · cases f with
      | true => simp at hc
      | false => simp at hc; omega
    · exact itms_lt false r a ha c hc
/-- a text of tokens with gaps is read as those tokens -/
theorem tokens_flat (r : List (List Nat × TI)) (hg : Gaps r) (hok : ∀ a ∈ r, (wrT a.2.1 a.2.2.1 a.2.2.2.1).2 = true) (hlt : ∀ a ∈ r, ∀ c ∈ a.1, c < 256) (hl : (flat r).length ≤ 4096) :
    ∃ m : List TK, tokensA (bstr (flat r)) = .ok m ∧ m.map (fun t => strp (toI t)) = r.map (fun a => strp a.2) := by
  have hb := bts_bstr _ (flat_lt r hlt)
  obtain ⟨m, hm, hmap⟩ := toks_flat (bstr (flat r)) r 0 ((bstr (flat r)).size + 1) (Nat.zero_le _) (by omega) (by rw [List.drop_zero, hb]) hg hok
  refine ⟨m, ?_, hmap⟩
  unfold tokensA
  rw [if_neg (by rw [bstr_size]; omega)]
  rw [List.drop_zero, Nat.zero_add] at hm
  exact hm
theorem back_join {l : List TI} {L : List Nat} (h : wrJ true l = some L) (hl : L.length ≤ 4096) : ∃ m : List TK, tokensA (bstr L) = .ok m ∧ (m.map toI).map strp = l.map strp := by
  obtain ⟨h1, h2⟩ := itms_ok true l (wrJ_ok true l L h)
  rw [h1] at h
  injection h with h
  subst h
  obtain ⟨m, hm, hmap⟩ := tokens_flat (itms true l) (itms_gaps l) h2 (itms_lt true l) hl
  exact ⟨m, hm, by rw [List.map_map, ← itms_strp true l, ← hmap]; rfl⟩
set_option maxRecDepth 100000 in
set_option maxHeartbeats 8000000 in
theorem same_any (A C : Option Addr) (l m : List TI) (c c' : Nat) (w : World) (hI : TksI w A l) (hJ : TksI w C m) (hs : l.map strp = m.map strp) (hm : l.length ≤ 100000) :
    Calls Tryd.prog 10 #[.slice A l.length c, .slice C m.length c'] w fun e w' => e = .returned (.bool true) ∧ Below w.heap.size w w' := by
  have hlen : m.length = l.length := by have := congrArg List.length hs; simpa using this.symm
  rw [hlen]
  obtain ⟨n, hn⟩ : ∃ n, l.length = n := ⟨_, rfl⟩
  have HN := Lib.hid hn
  have HM := Lib.hid (hlen.trans hn)
  have HI := Lib.hid hI
  have HJ := Lib.hid hJ
  have HS := Lib.hid hs
  rw [hn] at hm ⊢
  have hnn : ((n : Int) != n) = false := by simp
  clear hI hJ hn hlen hs
  go_enter Tryd.func10, Tryd.ntmps10
  go_wp2
  go_loopw [5] (fun i wr => ∃ j : Nat, j ≤ n ∧ i = .int .i64 j ∧ Below w.heap.size w wr) (fun i _ => n - (intOf i).toNat)
  case atStart => exact ⟨0, by omega, rfl, Below.refl _ _⟩
  case round =>
    obtain ⟨j, hj, rfl, hbw⟩ := hrel
    clear hnn
    by_cases hlt : j < n
    · obtain ⟨⟨k, x, v, p⟩, g1⟩ : ∃ t, l[j]? = some t := ⟨l[j]'(by rw [HN.out]; exact hlt), List.getElem?_eq_getElem _⟩
      obtain ⟨⟨k', x', v', p'⟩, g2⟩ : ∃ t, m[j]? = some t := ⟨m[j]'(by rw [HM.out]; exact hlt), List.getElem?_eq_getElem _⟩
      have he := congrArg (·[j]?) HS.out
      simp only [List.getElem?_map, g1, g2, Option.map_some, strp, Option.some.injEq, Prod.mk.injEq] at he
      obtain ⟨rfl, rfl, rfl⟩ := he
      obtain ⟨b1, o1, rfl, l1, c1⟩ := HI.out.resolve_left (by rintro rfl; simp at g1)
      obtain ⟨b2, o2, rfl, l2, c2⟩ := HJ.out.resolve_left (by rintro rfl; simp at g2)
      obtain ⟨a1, a2, a3, a4⟩ := c1 j k x v p g1
      obtain ⟨a5, a6, a7, a8⟩ := c2 j k x v p' g2
      have d1 := (hbw.cell (p := ⟨b1, _, none⟩) l1).trans a1
      have d2 := (hbw.cell (p := ⟨b1, _, none⟩) l1).trans a2
      have d3 := (hbw.cell (p := ⟨b1, _, none⟩) l1).trans a3
      have d5 := (hbw.cell (p := ⟨b2, _, none⟩) l2).trans a5
      have d6 := (hbw.cell (p := ⟨b2, _, none⟩) l2).trans a6
      have d7 := (hbw.cell (p := ⟨b2, _, none⟩) l2).trans a7
      have HBW := Lib.hid hbw
      clear a1 a2 a3 a4 a5 a6 a7 a8 g1 g2 c1 c2 hbw
      have i1 : (0 : Int) ≤ (j : Int) := by omega
      have i2 : (j : Int) < (n : Int) := by omega
      go_wp2_with fail
      go_big_quiet (fail)
      rename_i nq
      go_wp2
      go_roundw
      case rel => exact ⟨j + 1, by omega, by go_num, below_drewN HBW.out _⟩
      case measure => simp [intOf]; omega
    · obtain rfl : j = n := by omega
      go_wp2
      go_ret
      exact ⟨rfl, hbw⟩
end Go.Proofs.YtibnmkjabpoppaaDoor
