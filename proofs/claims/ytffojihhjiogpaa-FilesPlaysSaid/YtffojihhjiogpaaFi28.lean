/- Layer 3: what a disk keeps: now is sure with what is loose done; what is sure of a file stays. Conditions: those of each lemma. -/
import Derived.Test.YtffojihhjiogpaaFi27
namespace Go.Proofs.Ytffojihhjiogpaa
open Go.RowKit Go Go.Maps
set_option linter.unusedVariables false
set_option linter.unusedSimpArgs false
theorem doneAll_fl (s : Nat) : ∀ (l : List Ch) (d : Dk) (j : Nat), (doneAll s d l).fl j = (l.filter fun c => decide (8 * s + c.file = j)).foldl doneF (d.fl j)
  | [], d, j => rfl
  | c :: l, d, j => by
    show (doneAll s (doneA s d c) l).fl j = _
    rw [doneAll_fl s l (doneA s d c) j]
    by_cases h : 8 * s + c.file = j
    · rw [List.filter_cons_of_pos (by simpa using h), List.foldl_cons]
      congr 1
      subst h
      simp [doneA, Dk.setF]
    · rw [List.filter_cons_of_neg (by simpa using h)]
      congr 1
      show (if j = 8 * s + c.file then _ else d.fl j) = d.fl j
      rw [if_neg (fun e => h e.symm)]
theorem mine0 (i : Nat) (l : List Ch) : (l.filter fun c => decide (8 * 0 + c.file = i)) = mine i l := by
  unfold mine
  congr 1
  funext c
  simp
theorem mine1 (i : Nat) (l : List Ch) : (l.filter fun c => decide (8 * 1 + c.file = 8 + i)) = mine i l := by
  unfold mine
  congr 1
  funext c
  simp
theorem far0 {i : Nat} {l : List Ch} (h : ∀ c ∈ l, c.file < 8) : (l.filter fun c => decide (8 * 0 + c.file = 8 + i)) = [] := by
  rw [List.filter_eq_nil_iff]
  intro c hc
  have := h c hc
  simp
  omega
theorem far1 {i : Nat} {l : List Ch} (hi : i < 8) : (l.filter fun c => decide (8 * 1 + c.file = i)) = [] := by
  rw [List.filter_eq_nil_iff]
  intro c hc
  simp
  omega
theorem mine_none {i : Nat} {l : List Ch} (h : ∀ c ∈ l, c.file ≠ i) : mine i l = [] := by
  unfold mine
  rw [List.filter_eq_nil_iff]
  intro c hc
  simpa using h c hc
theorem mem_mine {i : Nat} {c : Ch} {l : List Ch} (hc : c ∈ l) (e : c.file = i) : c ∈ mine i l := List.mem_filter.2 ⟨hc, by simpa using e⟩
theorem mine_app (i : Nat) (a b : List Ch) : mine i (a ++ b) = mine i a ++ mine i b := by unfold mine; rw [List.filter_append]
theorem mine_mine (i : Nat) (l : List Ch) : mine i (mine i l) = mine i l := by unfold mine; rw [List.filter_filter]; congr 1; funext c; simp
theorem mine_ne {i f : Nat} (h : i ≠ f) (l : List Ch) : mine i (mine f l) = [] := mine_none (fun c hc => by
  have := (List.mem_filter.1 hc).2
  simp at this
  omega)
theorem mine_rest (i : Nat) (l : List Ch) : mine i (rest i l) = [] := mine_none (fun c hc => by
  have := (List.mem_filter.1 hc).2
  simpa using this)
theorem mine_rest_ne {i f : Nat} (h : i ≠ f) (l : List Ch) : mine i (rest f l) = mine i l := by
  unfold mine rest
  rw [List.filter_filter]
  congr 1
  funext c
  by_cases e : c.file = i
  · simp [e, h]
  · simp [e]
theorem wrL_file {f pl : Nat} {s : ByteArray} : ∀ c ∈ wrL f pl s, c.file = f := fun c hc => by
  obtain ⟨q, _, rfl⟩ := List.mem_map.1 hc
  rfl
/-- now is what is sure, with what is loose done -/
def Jd (d : Dk) : Prop := (∀ i, i < 8 → d.fl i = (mine i d.loose).foldl doneF (d.fl (8 + i))) ∧ ∀ c ∈ d.loose, c.file < 8
/-- what is sure of a file, of which nothing is loose -/
def Id (i : Nat) (X : Fl) (d : Dk) : Prop := d.fl (8 + i) = X ∧ mine i d.loose = []
theorem opD_cases (d : Dk) (made : List Ch) : ((opD d made).1.fl = d.fl ∧ (opD d made).1.loose = d.loose ∧ (opD d made).2 ≠ 0) ∨ ((opD d made).1 = { doneAll 0 d.op1 made with loose := d.loose ++ made } ∧ (opD d made).2 = 0 ∧ (d.ops : Int) ≠ d.power) := by
  unfold opD
  by_cases h : (d.ops : Int) = d.power
  · rw [if_pos h]; exact .inl ⟨rfl, rfl, by simp⟩
  · rw [if_neg h]
    by_cases h2 : d.armed d.ops ≠ 0
    · rw [if_pos h2]; exact .inl ⟨rfl, rfl, h2⟩
    · rw [if_neg h2]; exact .inr ⟨rfl, rfl, h⟩
theorem jd_op {d : Dk} (h : Jd d) (made : List Ch) (hm : ∀ c ∈ made, c.file < 8) : Jd (opD d made).1 := by
  rcases opD_cases d made with ⟨h1, h2, _⟩ | ⟨h1, _⟩
  · unfold Jd; rw [h1, h2]; exact h
  · rw [h1]
    refine ⟨fun i hi => ?_, fun c hc => ?_⟩
    · show (doneAll 0 d.op1 made).fl i = (mine i (d.loose ++ made)).foldl doneF ((doneAll 0 d.op1 made).fl (8 + i))
      rw [doneAll_fl, doneAll_fl, mine0, far0 hm, mine_app, List.foldl_append]
      show (mine i made).foldl doneF (d.fl i) = (mine i made).foldl doneF ((mine i d.loose).foldl doneF (d.fl (8 + i)))
      rw [← h.1 i hi]
    · rcases List.mem_append.1 hc with h1 | h1
      · exact h.2 c h1
      · exact hm c h1
theorem id_op {i : Nat} {X : Fl} {d : Dk} (h : Id i X d) (made : List Ch) (hm : ∀ c ∈ made, c.file < 8) (hne : ∀ c ∈ made, c.file ≠ i) : Id i X (opD d made).1 := by
  rcases opD_cases d made with ⟨h1, h2, _⟩ | ⟨h1, _⟩
  · unfold Id; rw [h1, h2]; exact h
  · rw [h1]
    refine ⟨?_, ?_⟩
    · show (doneAll 0 d.op1 made).fl (8 + i) = X
      rw [doneAll_fl, far0 hm]
      exact h.1
    · show mine i (d.loose ++ made) = []
      rw [mine_app, h.2, mine_none hne]
      rfl
theorem ready_in {d : Dk} {f : Int} (h : readyD d f = 0) : 0 ≤ f ∧ f < 8 := (ready_ok h).2.2
theorem write_made (d : Dk) (f pl : Int) (s : ByteArray) : (writeD d f pl s).1 = d ∨ (0 ≤ f ∧ f < 8 ∧ writeD d f pl s = opD d (wrL f.toNat pl.toNat s)) := by
  unfold writeD
  by_cases hr : readyD d f = 0
  · rw [if_neg (by simpa using hr)]
    split
    · exact .inl rfl
    · split
      · exact .inl rfl
      · exact .inr ⟨(ready_in hr).1, (ready_in hr).2, rfl⟩
  · rw [if_pos hr]; exact .inl rfl
theorem cut_made (d : Dk) (f n : Int) : (cutD d f n).1 = d ∨ (0 ≤ f ∧ f < 8 ∧ cutD d f n = opD d [cutC f.toNat n.toNat]) := by
  unfold cutD
  by_cases hr : readyD d f = 0
  · rw [if_neg (by simpa using hr)]
    split
    · exact .inl rfl
    · exact .inr ⟨(ready_in hr).1, (ready_in hr).2, rfl⟩
  · rw [if_pos hr]; exact .inl rfl
theorem sync_made (d : Dk) (f : Int) : (syncD d f).1 = d ∨ (0 ≤ f ∧ f < 8 ∧ ((syncD d f).1 = (opD d []).1 ∨ (syncD d f).1 = sync1 (opD d []).1 f.toNat)) := by
  unfold syncD
  by_cases hr : readyD d f = 0
  · rw [if_neg (by simpa using hr)]
    refine .inr ⟨(ready_in hr).1, (ready_in hr).2, ?_⟩
    split
    · exact .inl rfl
    · exact .inr rfl
  · rw [if_pos hr]; exact .inl rfl
theorem sync1_sure (d : Dk) (f i : Nat) : (sync1 d f).fl (8 + i) = (mine i (mine f d.loose)).foldl doneF (d.fl (8 + i)) := by
  show (doneAll 1 d (mine f d.loose)).fl (8 + i) = _
  rw [doneAll_fl, mine1]
theorem sync1_now (d : Dk) (f i : Nat) (hi : i < 8) : (sync1 d f).fl i = d.fl i := by
  show (doneAll 1 d (mine f d.loose)).fl i = _
  rw [doneAll_fl, far1 hi]
  rfl
theorem jd_sync1 {d : Dk} (h : Jd d) (f : Nat) : Jd (sync1 d f) := by
  refine ⟨fun i hi => ?_, fun c hc => h.2 c (List.mem_filter.1 hc).1⟩
  rw [sync1_now d f i hi, sync1_sure]
  show d.fl i = (mine i (rest f d.loose)).foldl doneF _
  by_cases e : i = f
  · subst e
    rw [mine_rest, mine_mine]
    exact h.1 i hi
  · rw [mine_rest_ne e, mine_ne e]
    exact h.1 i hi
theorem id_sync1 {i : Nat} {X : Fl} {d : Dk} (h : Id i X d) (f : Nat) : Id i X (sync1 d f) := by
  have h2 : mine i (rest f d.loose) = [] := mine_none (fun c hc e => by
    have hh : c ∈ mine i d.loose := mem_mine (List.mem_filter.1 hc).1 e
    rw [h.2] at hh
    cases hh)
  have h3 : mine i (mine f d.loose) = [] := mine_none (fun c hc e => by
    have hh : c ∈ mine i d.loose := mem_mine (List.mem_filter.1 hc).1 e
    rw [h.2] at hh
    cases hh)
  refine ⟨?_, h2⟩
  rw [sync1_sure, h3]
  exact h.1
theorem crash_sure (d : Dk) (k : List Bool) (i : Nat) : (crashD d k).fl (8 + i) = (mine i (kept k d.loose)).foldl doneF (d.fl (8 + i)) := by
  show (if 8 + i < 8 then _ else (doneAll 1 d (kept k d.loose)).fl (8 + i)) = _
  rw [if_neg (by omega), doneAll_fl, mine1]
theorem crash_now (d : Dk) (k : List Bool) (i : Nat) (hi : i < 8) : (crashD d k).fl i = (crashD d k).fl (8 + i) := by
  rw [crash_sure]
  show (if i < 8 then (doneAll 1 d (kept k d.loose)).fl (8 + i) else _) = _
  rw [if_pos hi, doneAll_fl, mine1]
theorem jd_crash (d : Dk) (k : List Bool) : Jd (crashD d k) :=
  ⟨fun i hi => by rw [crash_now d k i hi]; rfl, fun c hc => by cases hc⟩
theorem id_crash {i : Nat} {X : Fl} {d : Dk} (h : Id i X d) (k : List Bool) : Id i X (crashD d k) := by
  refine ⟨?_, rfl⟩
  rw [crash_sure, mine_none (fun c hc e => by
    have hh : c ∈ mine i d.loose := mem_mine (kept_sub k d.loose c hc) e
    rw [h.2] at hh
    cases hh)]
  exact h.1
theorem arm_same (d : Dk) (n e : Int) : (armD d n e).1.fl = d.fl ∧ (armD d n e).1.loose = d.loose := by unfold armD; split <;> exact ⟨rfl, rfl⟩
theorem power_same (d : Dk) (n : Int) : (powerD d n).1.fl = d.fl ∧ (powerD d n).1.loose = d.loose := by unfold powerD; split <;> exact ⟨rfl, rfl⟩
theorem jd_step {d : Dk} (h : Jd d) (x : Fop) : Jd (stepD d x) := by
  unfold stepD
  split
  · rcases cut_made d x.fi x.n with e | ⟨_, h8, e⟩
    · rw [e]; exact h
    · rw [e]; exact jd_op h _ (fun c hc => by rw [List.mem_singleton.1 hc]; show x.fi.toNat < 8; omega)
  · split
    · rcases sync_made d x.fi with e | ⟨_, _, e | e⟩
      · rw [e]; exact h
      · rw [e]; exact jd_op h [] (fun c hc => by cases hc)
      · rw [e]; exact jd_sync1 (jd_op h [] (fun c hc => by cases hc)) _
    · split
      · exact h
      · split
        · unfold Jd; rw [(arm_same d _ _).1, (arm_same d _ _).2]; exact h
        · split
          · unfold Jd; rw [(power_same d _).1, (power_same d _).2]; exact h
          · split
            · exact jd_crash _ _
            · rcases write_made d x.fi (placeF x) (bytesF x) with e | ⟨_, h8, e⟩
              · rw [e]; exact h
              · rw [e]; exact jd_op h _ (fun c hc => by rw [wrL_file c hc]; omega)
theorem jd_run : ∀ (l : List Fop) (d : Dk), Jd d → Jd (runD d l)
  | [], d, h => h
  | x :: l, d, h => jd_run l (stepD d x) (jd_step h x)
theorem jd_new : Jd newD := ⟨fun i hi => rfl, fun c hc => by cases hc⟩
theorem id_step {i : Nat} {X : Fl} {d : Dk} (h : Id i X d) (x : Fop) (hx : x.fi ≠ (i : Int)) : Id i X (stepD d x) := by
  unfold stepD
  split
  · rcases cut_made d x.fi x.n with e | ⟨_, h8, e⟩
    · rw [e]; exact h
    · rw [e]; exact id_op h _ (fun c hc => by rw [List.mem_singleton.1 hc]; show x.fi.toNat < 8; omega) (fun c hc => by rw [List.mem_singleton.1 hc]; show x.fi.toNat ≠ i; omega)
  · split
    · rcases sync_made d x.fi with e | ⟨_, _, e | e⟩
      · rw [e]; exact h
      · rw [e]; exact id_op h [] (fun c hc => by cases hc) (fun c hc => by cases hc)
      · rw [e]; exact id_sync1 (id_op h [] (fun c hc => by cases hc) (fun c hc => by cases hc)) _
    · split
      · exact h
      · split
        · unfold Id; rw [(arm_same d _ _).1, (arm_same d _ _).2]; exact h
        · split
          · unfold Id; rw [(power_same d _).1, (power_same d _).2]; exact h
          · split
            · exact id_crash h _
            · rcases write_made d x.fi (placeF x) (bytesF x) with e | ⟨_, h8, e⟩
              · rw [e]; exact h
              · rw [e]; exact id_op h _ (fun c hc => by rw [wrL_file c hc]; omega) (fun c hc => by rw [wrL_file c hc]; omega)
/-- behind a Sync that went well -/
theorem sync_good {d : Dk} (h : Jd d) {f : Int} (hs : (syncD d f).2 = 0) : 0 ≤ f ∧ f < 8 ∧ (syncD d f).1.off = false ∧ Id f.toNat ((syncD d f).1.fl f.toNat) (syncD d f).1 := by
  unfold syncD at hs ⊢
  by_cases hr : readyD d f = 0
  · rw [if_neg (by simpa using hr)] at hs ⊢
    by_cases ho : (opD d []).2 = 0
    · rw [if_neg (by simpa using ho)] at hs ⊢
      have hj := jd_op h [] (fun c hc => by cases hc)
      have hf := ready_in hr
      rcases opD_cases d [] with ⟨_, _, h3⟩ | ⟨h1, _, _⟩
      · exact absurd ho h3
      · refine ⟨hf.1, hf.2, ?_, ?_, mine_rest _ _⟩
        · show (doneAll 1 (opD d []).1 _).off = false
          rw [(doneAll_rest 1 _ _).2.2.2.2, h1]
          exact (ready_ok hr).1
        · show (sync1 (opD d []).1 f.toNat).fl (8 + f.toNat) = (sync1 (opD d []).1 f.toNat).fl f.toNat
          rw [sync1_sure, mine_mine, sync1_now _ _ _ (by omega)]
          exact (hj.1 f.toNat (by omega)).symm
    · rw [if_pos ho] at hs
      exact absurd hs ho
  · rw [if_pos hr] at hs
    exact absurd hs hr
theorem id_all {i : Nat} {X : Fl} {d : Dk} {f : Int} (h0 : 0 ≤ f) (h8 : f < 8) (hi : f.toNat = i) (h : Id i X d) (k : List Bool) : sizeD (crashD d k) f = (X.length : Nat) ∧ allF (crashD d k) f = bstr (X.take (min X.length 300)).flatten := by
  have e : (crashD d k).fl i = X := by rw [crash_now d k i (by omega)]; exact (id_crash h k).1
  exact ⟨by rw [sizeD_of _ h0 h8, hi, e], by rw [allF_of h0 h8 (by rfl), hi, e]⟩
end Go.Proofs.Ytffojihhjiogpaa
