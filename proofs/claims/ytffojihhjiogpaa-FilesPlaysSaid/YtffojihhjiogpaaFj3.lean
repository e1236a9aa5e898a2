/- Layer 3: ref03's disk in memory. Conditions: those of each lemma. -/
import Derived.Test.YtffojihhjiogpaaFj2
namespace Go.Proofs.Ytffojihhjiogpaa
open Go.RowKit Go Go.Maps
set_option linter.unusedVariables false
set_option linter.unusedSimpArgs false
structure Rm where
  V : Nat → Option Addr
  vc : Nat → Nat
  L : Option Addr
  lc : Nat
  A : Option Addr
  ac : Nat
def rkCell (d : Dk) (al : List (Int × Int)) (m : Rm) (j : Nat) : Value :=
  if j < 16 then .slice (m.V j) (d.fl j).length (m.vc j)
  else if j = 16 then .slice m.L d.loose.length m.lc
  else if j = 17 then .slice m.A al.length m.ac
  else if j = 18 then .int .i64 d.ops
  else if j = 19 then .int .i64 d.power
  else .bool d.off
def rkA (d : Dk) (al : List (Int × Int)) (m : Rm) : Array Value := ((List.range 21).map (rkCell d al m)).toArray
theorem rkA_get (d : Dk) (al : List (Int × Int)) (m : Rm) {j : Nat} (h : j < 21) : (rkA d al m)[j]? = some (rkCell d al m j) := by
  simp [rkA, h]
theorem rkA_set {d d' : Dk} {al al' : List (Int × Int)} {m m' : Rm} (j : Nat) (v : Value) (h : ∀ k, k < 21 → rkCell d' al' m' k = if k = j then v else rkCell d al m k) : (rkA d al m).setIfInBounds j v = rkA d' al' m' := by
  unfold rkA
  rw [List.setIfInBounds_toArray]
  congr 1
  apply List.ext_getElem?
  intro k
  rw [List.getElem?_set]
  simp only [List.length_map, List.length_range, List.getElem?_map]
  by_cases hk : k < 21
  · rw [List.getElem?_range hk]
    by_cases e : j = k
    · subst e; simp [hk, h j hk]
    · have e' : ¬ k = j := fun e2 => e e2.symm
      simp [e, h k hk, e']
  · rw [List.getElem?_eq_none (l := List.range 21) (by simp; omega)]
    by_cases e : j = k
    · subst e; simp [hk]
    · simp [e]
def rcL (l : List Ch) : List Value := l.flatMap fun c => [.int .i64 c.file, .int .i64 c.pl, .bool c.cut, .string (chS c)]
def armL (l : List (Int × Int)) : List Value := l.flatMap fun x => [.int .i64 x.1, .int .i64 x.2]
theorem rcL_len (l : List Ch) : (rcL l).length = l.length * 4 := by
  induction l with
  | nil => rfl
  | cons x l ih => unfold rcL at ih ⊢; rw [List.flatMap_cons, List.length_append, ih, List.length_cons]; simp; omega
theorem armL_len (l : List (Int × Int)) : (armL l).length = l.length * 2 := by
  induction l with
  | nil => rfl
  | cons x l ih => unfold armL at ih ⊢; rw [List.flatMap_cons, List.length_append, ih, List.length_cons]; simp; omega
theorem rcL_app (a b : List Ch) : rcL (a ++ b) = rcL a ++ rcL b := by simp [rcL]
theorem armL_app (a b : List (Int × Int)) : armL (a ++ b) = armL a ++ armL b := by simp [armL]
theorem rcL_one (l : List Ch) : ∀ u ∈ rcL l, u.oneCell' = true := by
  intro u hu
  obtain ⟨x, _, hx⟩ := List.mem_flatMap.1 hu
  simp at hx
  rcases hx with rfl | rfl | rfl | rfl <;> rfl
theorem armL_one (l : List (Int × Int)) : ∀ u ∈ armL l, u.oneCell' = true := by
  intro u hu
  obtain ⟨x, _, hx⟩ := List.mem_flatMap.1 hu
  simp at hx
  rcases hx with rfl | rfl <;> rfl
theorem rcL_at : ∀ (l : List Ch) (j : Nat) (c : Ch), l[j]? = some c → (rcL l)[j * 4]? = some (.int .i64 c.file) ∧ (rcL l)[j * 4 + 1]? = some (.int .i64 c.pl) ∧ (rcL l)[j * 4 + 2]? = some (.bool c.cut) ∧ (rcL l)[j * 4 + 3]? = some (.string (chS c))
  | [], j, x, h => by simp at h
  | a :: l, 0, x, h => by
    obtain rfl : a = x := by simpa using h
    simp [rcL]
  | a :: l, j + 1, x, h => by
    have ih := rcL_at l j x (by simpa using h)
    have e : ∀ i, (rcL (a :: l))[(j + 1) * 4 + i]? = (rcL l)[j * 4 + i]? := fun i => by
      have e2 : rcL (a :: l) = [.int .i64 a.file, .int .i64 a.pl, .bool a.cut, .string (chS a)] ++ rcL l := rfl
      rw [e2, List.getElem?_append_right (by simp; omega)]
      congr 1
      simp
      omega
    exact ⟨(e 0).trans ih.1, (e 1).trans ih.2.1, (e 2).trans ih.2.2.1, (e 3).trans ih.2.2.2⟩
theorem armL_at : ∀ (l : List (Int × Int)) (j : Nat) (x : Int × Int), l[j]? = some x → (armL l)[j * 2]? = some (.int .i64 x.1) ∧ (armL l)[j * 2 + 1]? = some (.int .i64 x.2)
  | [], j, x, h => by simp at h
  | a :: l, 0, x, h => by
    obtain rfl : a = x := by simpa using h
    simp [armL]
  | a :: l, j + 1, x, h => by
    have ih := armL_at l j x (by simpa using h)
    have e : ∀ i, (armL (a :: l))[(j + 1) * 2 + i]? = (armL l)[j * 2 + i]? := fun i => by
      have e2 : armL (a :: l) = [.int .i64 a.1, .int .i64 a.2] ++ armL l := rfl
      rw [e2, List.getElem?_append_right (by simp; omega)]
      congr 1
      simp
      omega
    exact ⟨(e 0).trans ih.1, (e 1).trans ih.2⟩
/-- what is armed last for an operation -/
def lastE (al : List (Int × Int)) (n : Int) : Int := al.foldl (fun e x => if x.1 = n then x.2 else e) 0
theorem lastE_snoc (l : List (Int × Int)) (x : Int × Int) (n : Int) : lastE (l ++ [x]) n = if x.1 = n then x.2 else lastE l n := by
  unfold lastE; rw [List.foldl_append]; rfl
def offA (l : List (Int × Int)) (k : Int) : List (Int × Int) := l.filter fun x => decide (x.1 ≠ k)
theorem offA_snoc (l : List (Int × Int)) (x : Int × Int) (k : Int) : offA (l ++ [x]) k = offA l k ++ if x.1 = k then [] else [x] := by
  unfold offA
  rw [List.filter_append]
  congr 1
  by_cases h : x.1 = k
  · rw [if_pos h]; simp [h]
  · rw [if_neg h]; simp [h]
theorem offA_le (l : List (Int × Int)) (k : Int) : (offA l k).length ≤ l.length := List.length_filter_le _ _
theorem fold_off (n k : Int) (h : n ≠ k) : ∀ (l : List (Int × Int)) (e : Int), (offA l k).foldl (fun e x => if x.1 = n then x.2 else e) e = l.foldl (fun e x => if x.1 = n then x.2 else e) e
  | [], e => rfl
  | x :: l, e => by
    have e2 : offA (x :: l) k = (if x.1 = k then [] else [x]) ++ offA l k := by
      unfold offA
      rw [List.filter_cons]
      by_cases hx : x.1 = k
      · simp [hx]
      · simp [hx]
    rw [e2]
    by_cases hx : x.1 = k
    · rw [if_pos hx, List.nil_append, List.foldl_cons, if_neg (fun e3 => h (by rw [← e3, hx]))]
      exact fold_off n k h l e
    · rw [if_neg hx]
      exact fold_off n k h l _
theorem lastE_off {l : List (Int × Int)} {n k : Int} (h : n ≠ k) : lastE (offA l k) n = lastE l n := fold_off n k h l 0
def lbk (A : Option Addr) : Option Nat := A.map (·.block)
theorem ownBlock_lbk (A : Option Addr) (n c : Nat) : (Value.slice A n c).ownBlock = lbk A := by cases A <;> rfl
/-- what stands beside ref03's disk -/
structure RkP (W : World) (S : Nat → Prop) (g : Nat) (m : Rm) (d : Dk) (al : List (Int × Int)) (N : Nat) : Prop where
  fl : ∀ i, i < 16 → RdS W (m.V i) (d.fl i)
  loo : W.ownsRow 0 94 4 (.slice m.L d.loose.length m.lc) d.loose.length (rcL d.loose)
  ard : Reads W W.heap.size 2 m.A al.length (armL al)
  vs : ∀ i, i < 16 → d.fl i ≠ [] → ∀ a, m.V i = some a → S a.block ∧ a.block ≠ g ∧ ∀ z, lbk m.L = some z → a.block ≠ z
  ars : al ≠ [] → ∀ a, m.A = some a → S a.block ∧ a.block ≠ g ∧ ∀ z, lbk m.L = some z → a.block ≠ z
  ls : ∀ z, lbk m.L = some z → S z ∧ z ≠ g
  sg : S g
  lt : ∀ b, S b → b < W.heap.size
  rel : ∀ n : Int, (d.ops : Int) ≤ n → lastE al n = d.armed n
  ok : ∀ i, i < 16 → FlOk (d.fl i)
  chs : ∀ c ∈ d.loose, ChOk c
  cN : d.ops ≤ N ∧ d.loose.length ≤ 8192 * N ∧ al.length ≤ N ∧ N ≤ 1000000
  pw : -1 ≤ d.power ∧ d.power ≤ 2000000000000
structure RkAt (W : World) (S : Nat → Prop) (g : Nat) (m : Rm) (d : Dk) (al : List (Int × Int)) (N : Nat) : Prop where
  blk : Blk W g 56 (rkA d al m)
  p : RkP W S g m d al N
def RkS (W : World) (S : Nat → Prop) (g : Nat) (d : Dk) (N : Nat) : Prop := ∃ m al, RkAt W S g m d al N
def RkR (w : World) (S : Nat → Prop) (g : Nat) (d : Dk) (N : Nat) (w' : World) : Prop := ∃ S', RkS w' S' g d N ∧ Fr S w w' ∧ ∀ b, S' b → S b ∨ w.heap.size ≤ b
theorem reads_keep {W W' : World} {B size n : Nat} {A : Option Addr} {xs : List Value} (h : Reads W B size A n xs) (hB : B ≤ W'.heap.size) (hs : 0 < n → ∀ a, A = some a → W'.heap[a.block]? = W.heap[a.block]?) : Reads W' W'.heap.size size A n xs := by
  refine ⟨h.1, fun hn => ?_⟩
  obtain ⟨ad, hA, hb, hc⟩ := h.2 hn
  exact ⟨ad, hA, by omega, fun j u hu => (World.cell?_of_block (by rw [block_of_add]; exact hs hn ad hA)).trans (hc j u hu)⟩
theorem rkP_keep {W W' : World} {S : Nat → Prop} {g : Nat} {m : Rm} {d : Dk} {al : List (Int × Int)} {N : Nat} (h : RkP W S g m d al N) (hk : ∀ b, S b → b ≠ g → W'.heap[b]? = W.heap[b]?) (hs : W.heap.size ≤ W'.heap.size) : RkP W' S g m d al N :=
  { h with
    fl := fun i hi => reads_keep (h.fl i hi) hs (fun hn a ha => by
      have := h.vs i hi (List.length_pos_iff.1 hn) a ha
      exact hk _ this.1 this.2.1)
    loo := own_block h.loo (fun z hz => by
      rw [ownBlock_lbk] at hz
      have := h.ls z hz
      exact hk z this.1 this.2)
    ard := reads_keep h.ard hs (fun hn a ha => by
      have := h.ars (List.length_pos_iff.1 hn) a ha
      exact hk _ this.1 this.2.1)
    lt := fun b hb => Nat.lt_of_lt_of_le (h.lt b hb) hs }
theorem rkP_set {W : World} {S : Nat → Prop} {g : Nat} {m : Rm} {d : Dk} {al : List (Int × Int)} {N : Nat} (h : RkP W S g m d al N) (j : Nat) (v : Value) : RkP (W.setCell ⟨g, j, none⟩ v) S g m d al N :=
  rkP_keep h (fun b _ hne => Below.heap_setCell _ _ _ _ hne) (by rw [show (W.setCell ⟨g, j, none⟩ v).heap.size = W.heap.size from by simp]; exact Nat.le_refl _)
theorem rk_make {W : World} {S : Nat → Prop} {g : Nat} {m m' : Rm} {d d' : Dk} {al al' : List (Int × Int)} {N : Nat} (hb : Blk W g 56 (rkA d al m)) (j : Nat) (v : Value) (hc : ∀ k, k < 21 → rkCell d' al' m' k = if k = j then v else rkCell d al m k) (hP : RkP W S g m' d' al' N) : RkAt (W.setCell ⟨g, j, none⟩ v) S g m' d' al' N :=
  ⟨by rw [← rkA_set j v hc]; exact hb.set_ j v, rkP_set hP j v⟩
theorem rkAt_keep {W W' : World} {S T : Nat → Prop} {g : Nat} {m : Rm} {d : Dk} {al : List (Int × Int)} {N : Nat} (h : RkAt W S g m d al N) (hf : Fr T W W') (hd : ∀ b, S b → ¬ T b) : RkAt W' S g m d al N :=
  ⟨fr_blk hf h.blk (hd g h.p.sg), rkP_keep h.p (fun b hb _ => hf.block b (h.p.lt b hb) (hd b hb)) hf.size⟩
theorem rkS_keep {W W' : World} {S T : Nat → Prop} {g : Nat} {d : Dk} {N : Nat} (h : RkS W S g d N) (hf : Fr T W W') (hd : ∀ b, S b → ¬ T b) : RkS W' S g d N := by
  obtain ⟨m, al, hm⟩ := h
  exact ⟨m, al, rkAt_keep hm hf hd⟩
theorem rkAt_below {W W' : World} {S : Nat → Prop} {g : Nat} {m : Rm} {d : Dk} {al : List (Int × Int)} {N : Nat} (h : RkAt W S g m d al N) (hb : Below W.heap.size W W') : RkAt W' S g m d al N := rkAt_keep (T := fun _ => False) h (fr_of hb) (fun _ _ h => h)
theorem rkS_below {W W' : World} {S : Nat → Prop} {g : Nat} {d : Dk} {N : Nat} (h : RkS W S g d N) (hb : Below W.heap.size W W') : RkS W' S g d N := by
  obtain ⟨m, al, hm⟩ := h
  exact ⟨m, al, rkAt_below hm hb⟩
theorem rkS_lt {W : World} {S : Nat → Prop} {g : Nat} {d : Dk} {N : Nat} (h : RkS W S g d N) : ∀ b, S b → b < W.heap.size := by
  obtain ⟨m, al, hm⟩ := h
  exact hm.p.lt
theorem rkAt_cell {W : World} {S : Nat → Prop} {g : Nat} {m : Rm} {d : Dk} {al : List (Int × Int)} {N : Nat} (h : RkAt W S g m d al N) {j : Nat} (hj : j < 21) : W.cell? ⟨g, j, none⟩ = some (rkCell d al m j) ∧ W.frozen? ⟨g, j, none⟩ = false :=
  ⟨by rw [h.blk.cell, rkA_get _ _ _ hj], h.blk.frozen _⟩
theorem rkCell_fl (d : Dk) (al : List (Int × Int)) (m : Rm) {i : Nat} (h : i < 16) : rkCell d al m i = .slice (m.V i) (d.fl i).length (m.vc i) := if_pos h
/-- the plain cells -/
theorem rkAt_cells {W : World} {S : Nat → Prop} {g : Nat} {m : Rm} {d : Dk} {al : List (Int × Int)} {N : Nat} (h : RkAt W S g m d al N) :
    W.cell? ⟨g, 16, none⟩ = some (.slice m.L d.loose.length m.lc) ∧ W.cell? ⟨g, 17, none⟩ = some (.slice m.A al.length m.ac) ∧ W.cell? ⟨g, 18, none⟩ = some (.int .i64 d.ops) ∧ W.cell? ⟨g, 19, none⟩ = some (.int .i64 d.power) ∧ W.cell? ⟨g, 20, none⟩ = some (.bool d.off) :=
  ⟨(rkAt_cell h (by omega)).1, (rkAt_cell h (by omega)).1, (rkAt_cell h (by omega)).1, (rkAt_cell h (by omega)).1, (rkAt_cell h (by omega)).1⟩
theorem rkR_of {w w' : World} {S S' : Nat → Prop} {g : Nat} {m : Rm} {d : Dk} {al : List (Int × Int)} {N : Nat} (h : RkAt w' S' g m d al N) (hf : Fr S w w') (hs : ∀ b, S' b → S b ∨ w.heap.size ≤ b) : RkR w S g d N w' := ⟨S', ⟨m, al, h⟩, hf, hs⟩
theorem rkR_refl {w : World} {S : Nat → Prop} {g : Nat} {d : Dk} {N : Nat} (h : RkS w S g d N) : RkR w S g d N w := ⟨S, h, fr_refl _ _, fun b hb => .inl hb⟩
theorem rkR_trans {w u v x : World} {S : Nat → Prop} {g : Nat} {d d2 : Dk} {N N2 : Nat} (h : RkR w S g d N u) (hb : Below u.heap.size u v) (k : ∀ S', RkS v S' g d N → RkR v S' g d2 N2 x) : RkR w S g d2 N2 x := by
  obtain ⟨S', h1, h2, h3⟩ := h
  obtain ⟨S2, k1, k2, k3⟩ := k S' (rkS_below h1 hb)
  refine ⟨S2, k1, fr_trans (fr_step h2 hb) k2 h3, fun b hs => ?_⟩
  rcases k3 b hs with h4 | h4
  · exact h3 b h4
  · exact .inr (Nat.le_trans h2.size (Nat.le_trans hb.size h4))
theorem rkR_below {w u v : World} {S : Nat → Prop} {g : Nat} {d : Dk} {N : Nat} (h : RkR w S g d N u) (hb : Below u.heap.size u v) : RkR w S g d N v := rkR_trans h hb (fun _ k => rkR_refl k)
/-- changes of ref03 at a place -/
theorem loo_at {W : World} {S : Nat → Prop} {g : Nat} {m : Rm} {d : Dk} {al : List (Int × Int)} {N : Nat} (h : RkP W S g m d al N) {j : Nat} (hj : j < d.loose.length) : ∃ b, m.L = some ⟨b, 0, none⟩ ∧ ∀ (k : Nat) c, d.loose[k]? = some c → W.cell? ⟨b, k * 4, none⟩ = some (.int .i64 c.file) ∧ W.cell? ⟨b, k * 4 + 1, none⟩ = some (.int .i64 c.pl) ∧ W.cell? ⟨b, k * 4 + 2, none⟩ = some (.bool c.cut) ∧ W.cell? ⟨b, k * 4 + 3, none⟩ = some (.string (chS c)) := by
  have ho := h.loo
  rcases ho.2 with ⟨h0, hn0⟩ | ⟨z, cap, cur, hv, hg, hh, hnc, hcm, hsz, htk⟩
  · omega
  · injection hv with h1 h2 h3
    refine ⟨z, h1, fun k c hk => ?_⟩
    have hb : Blk W z 94 cur := hh
    obtain ⟨e0, e1, e2, e3⟩ := rcL_at d.loose k c hk
    have hkl : k < d.loose.length := (List.getElem?_eq_some_iff.1 hk).1
    have cc : ∀ i u, i < d.loose.length * 4 → (rcL d.loose)[i]? = some u → W.cell? ⟨z, i, none⟩ = some u := fun i u hi hu => by
      rw [hb.cell, ← Array.getElem?_toList]
      rw [← htk, List.getElem?_take, if_pos hi] at hu
      exact hu
    exact ⟨cc _ _ (by omega) e0, cc _ _ (by omega) e1, cc _ _ (by omega) e2, cc _ _ (by omega) e3⟩
theorem arm_at {W : World} {S : Nat → Prop} {g : Nat} {m : Rm} {d : Dk} {al : List (Int × Int)} {N : Nat} (h : RkP W S g m d al N) {j : Nat} (hj : j < al.length) : ∃ b o, m.A = some ⟨b, o, none⟩ ∧ ∀ (k : Nat) x, al[k]? = some x → W.cell? ⟨b, o + k * 2, none⟩ = some (.int .i64 x.1) ∧ W.cell? ⟨b, o + k * 2 + 1, none⟩ = some (.int .i64 x.2) := by
  obtain ⟨⟨b, o, spot⟩, hA, hb, hc⟩ := h.ard.2 (by omega)
  have h0 := hc 0 _ (armL_at al 0 _ (List.getElem?_eq_getElem (show 0 < al.length by omega))).1
  have hspot : spot = none := by simpa [Addr.add] using World.cell?_spot h0
  subst hspot
  have ea : ∀ i, (⟨b, o, none⟩ : Addr).add i = ⟨b, o + i, none⟩ := fun i => by unfold Addr.add; split <;> simp_all
  refine ⟨b, o, hA, fun k x hk => ?_⟩
  obtain ⟨e0, e1⟩ := armL_at al k x hk
  have f0 := hc _ _ e0
  have f1 := hc _ _ e1
  rw [ea] at f0 f1
  exact ⟨f0, by rw [Nat.add_assoc]; exact f1⟩
end Go.Proofs.Ytffojihhjiogpaa
