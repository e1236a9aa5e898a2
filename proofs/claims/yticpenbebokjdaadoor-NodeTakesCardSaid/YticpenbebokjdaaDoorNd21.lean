/- ref10.Take: what stands through it. Conditions: those of each lemma. -/
import Derived.Test.YticpenbebokjdaaDoorNdR
import Derived.Test.YticpenbebokjdaaDoorNd19
import Derived.Test.YticpenbebokjdaaDoorLawNodeBack
namespace Go.Proofs.YticpenbebokjdaaDoor
open Go.RowKit Go
set_option linter.unusedVariables false
set_option linter.unusedSimpArgs false
/-- the answer -/
def rtakeZ (s : ByteArray) : Int × Int × List Cl × ByteArray × Int := if putN (rtK s) (rtF s) (rtL s) (rtD s) = (s, 0) then ((rtK s : Int), (rtF s : Int), rtL s, rtD s, 0) else (0, 0, [], ⟨#[]⟩, 7)
theorem rtake_eq (s : ByteArray) : rtakeZ s = takeZ s := by
  unfold rtakeZ
  cases h : tkOk s
  · rw [take_bad h]
    by_cases hp : putN (rtK s) (rtF s) (rtL s) (rtD s) = (s, 0)
    · exfalso
      rcases put_cases (rtK s) (rtF s) (rtL s) (rtD s) with ⟨h1, h2⟩ | ⟨h1, h2⟩ | ⟨h1, h2, h3⟩
      · rw [hp] at h2; cases h2
      · rw [hp] at h2; cases h2
      · obtain ⟨g1, _, _⟩ := put_back h1 h2
        rw [hp, take_bad h] at g1
        have := congrArg (fun x => x.2.2.2.2) g1
        simp at this
    · rw [if_neg hp]
  · obtain ⟨h1, h2, h3, h4⟩ := ref_take h
    rw [h1, h2, h3, h4, if_pos (put_take h), take_ok h]
/-- the result's box, the page's box, the cells' row -/
def RtSt (w : World) (G : Nat) (K F : Int) (v : Value) (D : ByteArray) (l : List Cl) (W : World) : Prop :=
  Blk W G 27 (NC K F v D) ∧ Blk W w.heap.size 27 NZ ∧ (∃ base, G < base ∧ base ≤ W.heap.size ∧ W.ownsRow base 30 4 v l.length (clCs l)) ∧ Below w.heap.size w W ∧ w.heap.size < G
theorem rtst_step {w : World} {G : Nat} {K F : Int} {v : Value} {D : ByteArray} {l : List Cl} {W W' : World} (h : RtSt w G K F v D l W) (hb : Below W.heap.size W W') : RtSt w G K F v D l W' := by
  obtain ⟨h1, h0, ⟨base, hb1, hb2, h2⟩, h3, h4⟩ := h
  exact ⟨blk_step h1 hb, blk_step h0 hb, ⟨base, hb1, Nat.le_trans hb2 hb.size, own_step h2 hb⟩, bj h3 hb, h4⟩
theorem rt_end {w : World} {G : Nat} {K F : Int} {v : Value} {D : ByteArray} {l : List Cl} {W : World} (h : RtSt w G K F v D l W) (a b c d : Value) :
    Blk ((((W.setCell ⟨w.heap.size, 0, none⟩ a).setCell ⟨w.heap.size, 1, none⟩ b).setCell ⟨w.heap.size, 2, none⟩ c).setCell ⟨w.heap.size, 3, none⟩ d) w.heap.size 27 #[a, b, c, d] ∧ (∃ base, G < base ∧ ((((W.setCell ⟨w.heap.size, 0, none⟩ a).setCell ⟨w.heap.size, 1, none⟩ b).setCell ⟨w.heap.size, 2, none⟩ c).setCell ⟨w.heap.size, 3, none⟩ d).ownsRow base 30 4 v l.length (clCs l)) ∧ Below w.heap.size w ((((W.setCell ⟨w.heap.size, 0, none⟩ a).setCell ⟨w.heap.size, 1, none⟩ b).setCell ⟨w.heap.size, 2, none⟩ c).setCell ⟨w.heap.size, 3, none⟩ d) := by
  obtain ⟨h1, hz, h2', h3, h4⟩ := h
  have h2 : ∃ base, G < base ∧ W.ownsRow base 30 4 v l.length (clCs l) := by obtain ⟨b, x, _, y⟩ := h2'; exact ⟨b, x, y⟩
  have z0 : Blk _ w.heap.size 27 #[a, .int .i64 0, .slice none 0 0, .string ⟨#[]⟩] := hz.set_ 0 a
  have z1 : Blk _ w.heap.size 27 #[a, b, .slice none 0 0, .string ⟨#[]⟩] := z0.set_ 1 b
  have z2 : Blk _ w.heap.size 27 #[a, b, c, .string ⟨#[]⟩] := z1.set_ 2 c
  have z3 : Blk _ w.heap.size 27 #[a, b, c, d] := z2.set_ 3 d
  refine ⟨z3, ?_, ?_⟩
  · exact tkst_far (w := w) (tkst_far (w := w) (tkst_far (w := w) (tkst_far (w := w) h2 _ (Nat.le_of_lt h4) _) _ (Nat.le_of_lt h4) _) _ (Nat.le_of_lt h4) _) _ (Nat.le_of_lt h4) _
  · exact (((h3.setCell (Nat.le_refl _) _).setCell (Nat.le_refl _) _).setCell (Nat.le_refl _) _).setCell (Nat.le_refl _) _
def RtP (w : World) (s : ByteArray) (e : Ending) (w' : World) : Prop :=
  ∃ A n c, e = .returned (.tuple #[.agg #[.int .u8 (rtakeZ s).1, .int .i64 (rtakeZ s).2.1, .slice A n c, .string (rtakeZ s).2.2.2.1], .int .i64 (rtakeZ s).2.2.2.2]) ∧ Cls w' w'.heap.size A (rtakeZ s).2.2.1 ∧ n = (rtakeZ s).2.2.1.length ∧ Below w.heap.size w w'
theorem rt_bad {w : World} {s : ByteArray} {W : World} (h : Below w.heap.size w W) (hk : ¬ putN (rtK s) (rtF s) (rtL s) (rtD s) = (s, 0)) : RtP w s (.returned (.tuple #[.agg #[.int .u8 0, .int .i64 0, .slice none 0 0, .string ⟨#[]⟩], .int .i64 7])) W := by
  have e : rtakeZ s = (0, 0, [], ⟨#[]⟩, 7) := by unfold rtakeZ; rw [if_neg hk]
  unfold RtP
  rw [e]
  exact ⟨none, 0, 0, rfl, .inl rfl, rfl, h⟩
theorem rt_good {w : World} {s : ByteArray} {K F : Int} {v : Value} {D : ByteArray} {l : List Cl} {W : World} {G : Nat} (h : Below w.heap.size w W) (ho : ∃ base, G < base ∧ W.ownsRow base 30 4 v l.length (clCs l)) (hk : putN (rtK s) (rtF s) (rtL s) (rtD s) = (s, 0)) (h1 : (rtK s : Int) = K) (h2 : (rtF s : Int) = F) (h3 : rtL s = l) (h4 : rtD s = D) : RtP w s (.returned (.tuple #[.agg #[.int .u8 K, .int .i64 F, v, .string D], .int .i64 0])) W := by
  have e : rtakeZ s = (K, F, l, D, 0) := by unfold rtakeZ; rw [if_pos hk, h1, h2, h3, h4]
  obtain ⟨base, _, h5⟩ := ho
  obtain ⟨A, c, rfl, hC⟩ := cls_of_own h5
  unfold RtP
  rw [e]
  exact ⟨A, l.length, c, rfl, hC, rfl, h⟩
theorem rcells_len (K : Nat) (s : ByteArray) : ∀ m p, (rcellsR K s m p).length ≤ m
  | 0, p => by simp [rcellsR]
  | m + 1, p => by
    rw [rcellsR]
    split
    · rw [List.length_cons]; have := rcells_len K s m (rcellR K s p).2; omega
    · simp
theorem rtL_len (s : ByteArray) : (rtL s).length ≤ 65535 := by
  unfold rtL
  have h := valR_lt s 1 2
  split
  · have h2 := rcells_len (rtK s) s (rtN s) (rtP s)
    unfold rtN at h2
    unfold rtN
    omega
  · simp
theorem rt_put {w : World} {G : Nat} {K F : Int} {v : Value} {D : ByteArray} {l : List Cl} {W : World} {T : ByteArray} {E : Int} (h : RtSt w G K F v D l W) (hl : l.length ≤ 65535) (hp : putN K F l D = (T, E)) :
    Calls Tryd.prog 16 #[.agg #[.int .u8 K, .int .i64 F, v, .string D]] W fun e w' => e = .returned (.tuple #[.string T, .int .i64 E]) ∧ RtSt w G K F v D l w' := by
  obtain ⟨base, hb1, hb2, h2⟩ := h.2.2.1
  obtain ⟨A, c, rfl, hC⟩ := cls_of_own h2
  refine (rput_any K F A l l.length c D W hC rfl hl).mono ?_
  rintro e w' ⟨rfl, hb⟩
  rw [hp]
  exact ⟨rfl, rtst_step h hb⟩
theorem value_v {s : ByteArray} (p many : Nat) (u v : Int) (hu : u = (p : Int)) (hv : v = (many : Int)) (hs : s.size ≤ 4096) (hp : p ≤ 10000) (hm : many ≤ 4) (w : World) :
    Calls Tryd.prog 37 #[.string s, .int .i64 u, .int .i64 v] w fun e w' => e = .returned (.int .i64 (valR s p many)) ∧ w = w' := by
  subst hu hv
  exact value_any s p many w hs hp hm
theorem part_v {s : ByteArray} (p many : Nat) (u v : Int) (hu : u = (p : Int)) (hv : v = (many : Int)) (hs : s.size ≤ 4096) (hp : p ≤ 10000) (hm : many ≤ 100000) (w : World) :
    Calls Tryd.prog 38 #[.string s, .int .i64 u, .int .i64 v] w fun e w' => e = .returned (.string (partR s p many)) ∧ w = w' := by
  subst hu hv
  exact part_any s p many w hs hp hm
theorem rt_new (w : World) (K F : Int) (D : ByteArray) : RtSt w (w.heap.size + 1) K F (.slice none 0 0) D [] ((w.alloc (.cells NZ 27)).alloc (.cells (NC K F (.slice none 0 0) D) 27)) := by
  have h1 := Blk.new w 27 NZ
  have h2 := Blk.new (w.alloc (.cells NZ 27)) 27 (NC K F (.slice none 0 0) D)
  have e : (w.alloc (.cells NZ 27)).heap.size = w.heap.size + 1 := by simp
  have e2 : ((w.alloc (.cells NZ 27)).alloc (.cells (NC K F (.slice none 0 0) D) 27)).heap.size = w.heap.size + 2 := by simp
  have hb := (one_alloc (w := w) (o := .cells NZ 27))
  rw [e] at h2
  exact ⟨h2, blk_step h1 one_alloc, ⟨w.heap.size + 2, by omega, by omega, World.ownsRow_nil _ _ _ _⟩, hb.alloc hb.size _, by omega⟩
theorem rt_set1 {w : World} {G : Nat} {K F : Int} {v : Value} {D : ByteArray} {l : List Cl} {W : World} (h : RtSt w G K F v D l W) (F2 : Int) : RtSt w G K F2 v D l (W.setCell ⟨G, 1, none⟩ (.int .i64 F2)) := by
  obtain ⟨h1, h0, ⟨base, hb1, hb2, h2⟩, h3, h4⟩ := h
  have g1 : Blk _ G 27 (NC K F2 v D) := h1.set_ 1 (.int .i64 F2)
  exact ⟨g1, h0.far (show w.heap.size ≠ G by omega) _, ⟨base, hb1, by simpa using hb2, ownsRow_setCell_below h2 hb1 _⟩, h3.setCell (Nat.le_of_lt h4) _, h4⟩
theorem rt_set3 {w : World} {G : Nat} {K F : Int} {v : Value} {D : ByteArray} {l : List Cl} {W : World} (h : RtSt w G K F v D l W) (D2 : ByteArray) : RtSt w G K F v D2 l (W.setCell ⟨G, 3, none⟩ (.string D2)) := by
  obtain ⟨h1, h0, ⟨base, hb1, hb2, h2⟩, h3, h4⟩ := h
  have g1 : Blk _ G 27 (NC K F v D2) := h1.set_ 3 (.string D2)
  exact ⟨g1, h0.far (show w.heap.size ≠ G by omega) _, ⟨base, hb1, by simpa using hb2, ownsRow_setCell_below h2 hb1 _⟩, h3.setCell (Nat.le_of_lt h4) _, h4⟩
/-- the boxes beside an owned row that grows -/
def Rt3 (w : World) (G : Nat) (K F : Int) (v : Value) (D : ByteArray) (base : Nat) (W : World) : Prop := Blk W G 27 (NC K F v D) ∧ Blk W w.heap.size 27 NZ ∧ Below w.heap.size w W ∧ w.heap.size < G ∧ G < base ∧ base ≤ W.heap.size
theorem rt3_step {w : World} {G : Nat} {K F : Int} {v : Value} {D : ByteArray} {base : Nat} {W W' : World} (h : Rt3 w G K F v D base W) (hb : Below W.heap.size W W') : Rt3 w G K F v D base W' :=
  ⟨blk_step h.1 hb, blk_step h.2.1 hb, bj h.2.2.1 hb, h.2.2.2.1, h.2.2.2.2.1, Nat.le_trans h.2.2.2.2.2 hb.size⟩
theorem rt3_grown {w : World} {G : Nat} {K F : Int} {v : Value} {D : ByteArray} {base : Nat} {W W' : World} {row : Option Nat} (h : Rt3 w G K F v D base W) (hg : W.grownBy W' row) (hr : ∀ z, row = some z → base ≤ z) : Rt3 w G K F v D base W' := by
  obtain ⟨h1, h2, h3, h4, h5, h6⟩ := h
  refine ⟨h1.grown hg (fun e => by have := hr _ e.symm; omega), h2.grown hg (fun e => by have := hr _ e.symm; omega), h3.grown hg (by omega) (fun z e => by have := hr _ e; omega), h4, h5, ?_⟩
  exact Nat.le_trans h6 ((Below.refl base W).grown hg h6 hr).size
theorem rt3_done {w : World} {G : Nat} {K F : Int} {v v1 : Value} {D : ByteArray} {base : Nat} {W : World} {l : List Cl} (h : Rt3 w G K F v D base W) (ho : W.ownsRow base 30 4 v1 l.length (clCs l)) : RtSt w G K F v1 D l (W.setCell ⟨G, 2, none⟩ v1) := by
  obtain ⟨h1, h2, h3, h4, h5, h6⟩ := h
  have g1 : Blk _ G 27 (NC K F v1 D) := h1.set_ 2 v1
  exact ⟨g1, h2.far (show w.heap.size ≠ G by omega) _, ⟨base, h5, by simpa using h6, ownsRow_setCell_below ho h5 _⟩, h3.setCell (Nat.le_of_lt h4) _, h4⟩
theorem own_slice {W : World} {base : Nat} {v : Value} {n : Nat} {xs : List Value} (h : W.ownsRow base 30 4 v n xs) : ∃ A c, v = .slice A n c := by
  rcases h.2 with ⟨h0, hn⟩ | ⟨g, cap, cur, hv, _⟩
  · exact ⟨none, 0, by rw [h0, hn]⟩
  · exact ⟨_, cap, hv⟩
theorem reads4h (W : World) (o : Obj) (c : Cl) : Reads ((W.alloc o).alloc (.cells (clC c) 30)) (W.heap.size + 1 + 1) 4 (some ⟨W.heap.size + 1, 0, none⟩) 1 [.string c.key, .int .i64 c.size, .string c.loc, .int .i64 c.page] := by
  have h := reads4g (W.alloc o) c
  rw [show (W.alloc o).heap.size = W.heap.size + 1 by simp] at h
  exact h
end Go.Proofs.YticpenbebokjdaaDoor
