/- ship.Take, words for its loop. Conditions: a text is no longer than a machine has addresses. -/
import Derived.Test.YtkocdaillkhkfaaShipTake3
import Derived.Test.YtkocdaillkhkfaaShipMath
namespace Go.Proofs.Ytkocdaillkhkfaa
open Go.RowKit
set_option linter.unusedVariables false
def TkPost (s : ByteArray) (w : World) (e : Ending) (w' : World) : Prop :=
  Below w.heap.size w w' ∧ (tkB s = false → e = .returned (.tuple #[shipZero, .int .i64 7])) ∧
  (tkB s = true → ∃ A c, e = .returned (.tuple #[.agg #[.int .u8 (vAt s 8), .int .u64 (vAt s 16), .int .u64 (vAt s 24), .bool (decide (vAt s 32 = 1)), .int .i64 (vAt s 40), .slice A (vAt s 48) c], .int .i64 0]) ∧ Imgs w' w'.heap.size A (imgsN s (vAt s 48)))
theorem tk_bad {s : ByteArray} {w w' : World} (h : tkB s = false) (hb : Below w.heap.size w w') : TkPost s w (.returned (.tuple #[shipZero, .int .i64 7])) w' := ⟨hb, fun _ => rfl, fun h' => by rw [h] at h'; cases h'⟩
theorem ext_ext (s : ByteArray) (i k : Nat) : (s.extract i s.size).extract k (s.extract i s.size).size = s.extract (i + k) s.size := by
  refine bts_inj ?_
  rw [bts_cutr, bts_cutr, bts_cutr, List.drop_drop]
theorem ext_cut (s : ByteArray) (i n : Nat) : (s.extract i s.size).extract 0 n = s.extract i (i + n) := by
  refine bts_inj ?_
  rw [bts_cut0, bts_cutr, bts_cutn]
def imgCs (l : List (Int × ByteArray)) : List Value := l.flatMap fun x => [.int .i64 x.1, .string x.2]
theorem imgCs_len (l : List (Int × ByteArray)) : (imgCs l).length = l.length * 2 := by
  induction l with
  | nil => rfl
  | cons x l ih => unfold imgCs at ih ⊢; rw [List.flatMap_cons, List.length_append, ih, List.length_cons]; simp; omega
theorem imgCs_snoc (l : List (Int × ByteArray)) (x : Int × ByteArray) : imgCs (l ++ [x]) = imgCs l ++ [.int .i64 x.1, .string x.2] := by simp [imgCs]
theorem imgCs_at (l : List (Int × ByteArray)) (j : Nat) (x : Int × ByteArray) (h : l[j]? = some x) : (imgCs l)[j * 2]? = some (.int .i64 x.1) ∧ (imgCs l)[j * 2 + 1]? = some (.string x.2) := by
  induction l generalizing j with
  | nil => simp at h
  | cons y l ih =>
    cases j with
    | zero =>
      simp at h
      subst h
      simp [imgCs]
    | succ j =>
      simp at h
      obtain ⟨h1, h2⟩ := ih j h
      have e : imgCs (y :: l) = .int .i64 y.1 :: .string y.2 :: imgCs l := by simp [imgCs]
      rw [e, show (j + 1) * 2 = j * 2 + 1 + 1 from by omega, show j * 2 + 1 + 1 + 1 = (j * 2 + 1) + 1 + 1 from rfl]
      simp only [List.getElem?_cons_succ]
      exact ⟨h1, h2⟩
theorem imgs_of_own {W : World} {base : Nat} {e : TypeId} {A : Option Addr} {n c : Nat} {l : List (Int × ByteArray)} (h : W.ownsRow base e 2 (.slice A n c) n (imgCs l)) (hl : l.length = n) : Imgs W W.heap.size A l := by
  by_cases h0 : n = 0
  · exact .inl (List.eq_nil_of_length_eq_zero (by omega))
  · obtain ⟨g, cap, hv, hb, hlt⟩ := h.form (by omega)
    injection hv with hA hn hc
    subst hA
    refine .inr ⟨g, 0, rfl, hlt, fun j x hx => ?_⟩
    obtain ⟨h1, h2⟩ := imgCs_at l j x hx
    have c1 := h.cells (g := g) rfl _ _ h1
    have c2 := h.cells (g := g) rfl _ _ h2
    have ea : ∀ i, (⟨g, 0, none⟩ : Addr).add i = ⟨g, 0 + i, none⟩ := fun i => by unfold Addr.add; split <;> simp_all
    rw [ea] at c1 c2
    exact ⟨c1, by rw [Nat.add_assoc]; exact c2⟩
theorem own_kp {W W' : World} {base g6 g7 : Nat} {e : TypeId} {size n : Nat} {v : Value} {xs : List Value} (h : W.ownsRow base e size v n xs) (k : Kp g6 g7 W W') (h6 : g6 < base) (h7 : g7 < base) : W'.ownsRow base e size v n xs := by
  obtain ⟨hl, h | ⟨g, cap, cur, hv, hb, hg, hr⟩⟩ := h
  · exact ⟨hl, .inl h⟩
  · exact ⟨hl, .inr ⟨g, cap, cur, hv, hb, k.2 g e cur (by omega) (by omega) hg, hr⟩⟩
theorem own_set {W : World} {base g : Nat} {e : TypeId} {size n : Nat} {v : Value} {xs : List Value} (h : W.ownsRow base e size v n xs) (o : Nat) (u : Value) (hg : g < base) : (W.setCell ⟨g, o, none⟩ u).ownsRow base e size v n xs := by
  obtain ⟨hl, h | ⟨g', cap, cur, hv, hb, hg', hr⟩⟩ := h
  · exact ⟨hl, .inl h⟩
  · exact ⟨hl, .inr ⟨g', cap, cur, hv, hb, Blk.far (p := ⟨g, o, none⟩) hg' (by simp; omega) u, hr⟩⟩
/-- the state at a head of the loop: j images are there -/
def Tl (w : World) (g6 g7 g8 g10 : Nat) (s : ByteArray) (n1 n2 n3 n5 : Int) (f : Bool) (j : Nat) (A : Option Addr) (c : Nat) (W : World) : Prop :=
  Tm w g6 g7 g8 (s.extract (56 + 520 * j) s.size) (pgsOk s j) W ∧ Blk W g10 28 #[.int .u8 n1, .int .u64 n2, .int .u64 n3, .bool f, .int .i64 n5, .slice A j c] ∧ W.ownsRow (g10 + 1) 51 2 (.slice A j c) j (imgCs (imgsN s j)) ∧ g8 < g10
theorem six_at {W : World} {g : Nat} {t : TypeId} {a b c d e f : Value} (h : Blk W g t #[a, b, c, d, e, f]) : W.cell? ⟨g, 0, none⟩ = some a ∧ W.cell? ⟨g, 1, none⟩ = some b ∧ W.cell? ⟨g, 2, none⟩ = some c ∧ W.cell? ⟨g, 3, none⟩ = some d ∧ W.cell? ⟨g, 4, none⟩ = some e ∧ W.cell? ⟨g, 5, none⟩ = some f :=
  ⟨h.cell 0, h.cell 1, h.cell 2, h.cell 3, h.cell 4, h.cell 5⟩
theorem img_info : (Try.prog.info? 51).map (fun i => (i.zero, i.size, i.bytes)) = some (some (.agg #[.int .i64 0, .string ByteArray.empty]), 2, 24) := by kernel_rfl
theorem tm_grown {w W W' : World} {g6 g7 g8 base : Nat} {x : ByteArray} {b : Bool} {row : Option Nat} (h : Tm w g6 g7 g8 x b W) (hg : W.grownBy W' row) (hr : ∀ k, row = some k → base ≤ k) (h8 : g8 < base) : Tm w g6 g7 g8 x b W' := by
  obtain ⟨h6, h7, h8', hz, l1, l2, l3⟩ := h
  have ne : ∀ g, g < base → some g ≠ row := fun g hlt e => by have := hr g e.symm; omega
  exact ⟨h6.grown hg (ne _ (by omega)), h7.grown hg (ne _ (by omega)), h8'.grown hg (ne _ h8), ⟨hz.1.grown hg (ne _ (by omega)), hz.2.grown hg hz.2.size (fun k hk => by have := hr k hk; omega)⟩, l1, l2, l3⟩
theorem tl_next {w W wA : World} {g6 g7 g8 g10 gg cap : Nat} {s y : ByteArray} {n1 n2 n3 n5 : Int} {f : Bool} {p j : Nat} {A : Option Addr} {c : Nat}
    (h : Tm w g6 g7 g8 y (pgsOk s (j + 1)) W) (k : Blk W g10 28 #[.int .u8 n1, .int .u64 n2, .int .u64 n3, .bool f, .int .i64 n5, .slice A j c]) (hr : ∀ k, (Value.slice A j c).ownBlock = some k → g10 + 1 ≤ k) (hl : g8 < g10)
    (hy : s.extract (56 + 520 * j + 8) s.size = y) (hp : vAt s (56 + 520 * j) = p)
    (hown : wA.ownsRow (g10 + 1) 51 2 (.slice (some ⟨gg, 0, none⟩) (j + 1) cap) (j + 1) (imgCs (imgsN s j) ++ [.int .i64 (wrap64 p), .string (y.extract 0 512)])) (o : Obj) (hg : ((W.alloc o).drew).grownBy wA (Value.slice A j c).ownBlock) :
    Tl w g6 g7 g8 g10 s n1 n2 n3 n5 f (j + 1) (some ⟨gg, 0, none⟩) cap ((wA.setCell ⟨g10, 5, none⟩ (.slice (some ⟨gg, 0, none⟩) (j + 1) cap)).setCell ⟨g6, 0, none⟩ (.string (y.extract 512 y.size))) := by
  have hT := tm_grown (tm_drew (tm_alloc o h)) hg hr (by omega)
  have l1 := h.2.2.2.2.2.1
  have l2 := h.2.2.2.2.2.2
  have e : y.extract 512 y.size = s.extract (56 + 520 * (j + 1)) s.size := by rw [← hy, ext_ext, show 56 + 520 * j + 8 + 512 = 56 + 520 * (j + 1) from by omega]
  refine ⟨?_, ?_, ?_, hl⟩
  · rw [← e]
    exact tm_set6 _ (tm_far 5 _ hl hT)
  · have kA := ((k.alloc o).drew).grown hg (fun e => by have := hr g10 e.symm; omega)
    exact (kA.set_ 5 _).far (by simp; omega) _
  · have e2 : imgCs (imgsN s (j + 1)) = imgCs (imgsN s j) ++ [.int .i64 (wrap64 p), .string (y.extract 0 512)] := by
      rw [imgsN_succ, imgCs_snoc]
      unfold imgAt
      simp only
      rw [hp, ← hy, ext_cut]
    rw [e2]
    exact own_set (own_set hown 5 _ (by omega)) 0 _ (by omega)
theorem own_below {W W' : World} {base : Nat} {e : TypeId} {size n : Nat} {v : Value} {xs : List Value} (h : W.ownsRow base e size v n xs) (hb : Below W.heap.size W W') : W'.ownsRow base e size v n xs :=
  h.kept (row := none) ⟨hb.os, hb.tape, hb.output, hb.size, fun i hi _ => hb.block i hi⟩ (by cases hv : v.ownBlock <;> simp)
theorem own_set6 {W : World} {base g : Nat} {e : TypeId} {size n : Nat} {v : Value} {xs : List Value} (h : W.ownsRow base e size v n xs) (hg : g < base) (v0 v1 v2 v3 v4 v5 : Value) : (set6 W g v0 v1 v2 v3 v4 v5).ownsRow base e size v n xs :=
  own_set (own_set (own_set (own_set (own_set (own_set h _ _ hg) _ _ hg) _ _ hg) _ _ hg) _ _ hg) _ _ hg
theorem tk_good {s : ByteArray} {w w' : World} {A : Option Addr} {c : Nat} {e : Ending} (h : tkB s = true) (hb : Below w.heap.size w w') (he : e = .returned (.tuple #[.agg #[.int .u8 (vAt s 8), .int .u64 (vAt s 16), .int .u64 (vAt s 24), .bool (decide (vAt s 32 = 1)), .int .i64 (vAt s 40), .slice A (vAt s 48) c], .int .i64 0]))
    (hi : Imgs w' w'.heap.size A (imgsN s (vAt s 48))) : TkPost s w e w' := ⟨hb, (fun h' => by rw [h] at h'; cases h'), fun _ => ⟨A, c, he, hi⟩⟩
theorem tkB_head (s : ByteArray) : tkB s = ((decide (vAt s 8 ≤ 2) && decide (vAt s 32 ≤ 1) && decide (vAt s 40 ≤ 256) && decide (vAt s 48 ≤ 256)) && (decide (s.size = 56 + 520 * vAt s 48) && (pgsOk s (vAt s 48) && shipOk (vAt s 8) (vAt s 24) (decide (vAt s 32 = 1)) (vAt s 40) (imgsN s (vAt s 48))))) := by
  unfold tkB
  simp only [Bool.and_assoc]
end Go.Proofs.Ytkocdaillkhkfaa
