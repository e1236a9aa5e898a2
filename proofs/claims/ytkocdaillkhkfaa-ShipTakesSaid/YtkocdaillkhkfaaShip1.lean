/- The small functions of package ship. Conditions: the numbers fit their kinds, a text is no longer than a machine has addresses. -/
import Derived.Test.YtkocdaillkhkfaaProg
import Derived.Test.YtkocdaillkhkfaaShelf
import Derived.Test.YtkocdaillkhkfaaBase
import Derived.Test.YtkocdaillkhkfaaText
import Derived.Outline
namespace Go.Proofs.Ytkocdaillkhkfaa
open Go.RowKit
theorem builderAt_below {T e : TypeId} {B b : Nat} {p : Value} {bs : List Value} {W W' : World} (h : Lib.BuilderAt T e B b p bs W) (hb : Below W.heap.size W W') : Lib.BuilderAt T e B b p bs W' := by
  have hlt := h.lt
  obtain ⟨hB, v, hc, hown, hne⟩ := h
  refine ⟨hB, v, (hb.block b hlt).trans hc, hown.kept (row := none) ⟨hb.os, hb.tape, hb.output, hb.size, fun i hi _ => hb.block i hi⟩ ?_, hne⟩
  by_cases hv : v.ownBlock = none
  · exact .inl hv
  · exact .inr hv
theorem builder_below {T e : TypeId} {B b : Nat} {bs : List Value} {W W' : World} (h : Lib.IsBuilder T e B b bs W) (hb : Below W.heap.size W W') : Lib.IsBuilder T e B b bs W' := by
  rcases h with h | h
  · exact .inl (builderAt_below h hb)
  · exact .inr (builderAt_below h hb)
theorem builder_new (w : World) (T e : TypeId) : Lib.IsBuilder T e w.heap.size w.heap.size [] (w.alloc (.cells #[.pointer none, .slice none 0 0] T)) :=
  .inl ⟨Nat.le_refl _, .slice none 0 0, heap_alloc_new w _, World.ownsRow_nil _ _ _ _, by simp [Value.ownBlock]⟩
theorem bws (B b : Nat) (L : List Nat) (s : ByteArray) (w : World) (h : Lib.IsBuilder 44 5 B b (Lib.strCells (bstr L)) w) (hlen : L.length + s.size ≤ 140737488355328) (hBw : B ≤ w.heap.size) :
    Calls Try.prog 20 #[.pointer (some ⟨b, 0, none⟩), .string s] w fun e w' => e = .returned (.tuple #[.int .i64 s.size, .nilIface]) ∧ Lib.IsBuilder 44 5 B b (Lib.strCells (bstr (L ++ bts s))) w' ∧ Below B w w' := by
  have hc := Any.Builder_WriteString { Try.lays105 with } Try.Builder_Extra_105 B b (Lib.strCells (bstr L)) s w h (by rw [Lib.strCells_length, bstr_size]; exact hlen) hBw
  refine hc.mono fun e w' he => ⟨he.1, ?_, he.2.2⟩
  have e : Lib.strCells (bstr L) ++ Lib.strCells s = Lib.strCells (bstr (L ++ bts s)) := by
    rw [← bstr_append, bstr_bts]
    simp [Lib.strCells]
  rw [← e]
  exact .inr he.2.1
theorem bstring (B b : Nat) (L : List Nat) (w : World) (h : Lib.IsBuilder 44 5 B b (Lib.strCells (bstr L)) w) (hBw : B ≤ w.heap.size) :
    Calls Try.prog 22 #[.pointer (some ⟨b, 0, none⟩)] w fun e w' => e = .returned (.string (bstr L)) ∧ Below B w w' := by
  have hc := Try.Builder_String_any B b (bstr L).data.toList w h hBw
  exact hc
def flat8 (l : List Nat) : List Nat := l.flatMap eightL
theorem flat8_length (l : List Nat) : (flat8 l).length = 8 * l.length := by
  induction l with
  | nil => rfl
  | cons x l ih => simp only [flat8, List.flatMap_cons, List.length_append, List.length_cons] at ih ⊢; rw [ih]; show 8 + _ = _; omega
theorem flat8_take (l : List Nat) (j : Nat) (h : j < l.length) : flat8 (l.take (j + 1)) = flat8 (l.take j) ++ eightL l[j] := by
  unfold flat8
  rw [List.take_succ_eq_append_getElem h, List.flatMap_append]
  simp
set_option maxRecDepth 100000 in
set_option maxHeartbeats 4000000 in
theorem numbers_any (g t : Nat) (l : List Nat) (n c : Nat) (w : World) (hB : Blk w g t (l.map fun x : Nat => Value.int .u64 (x : Int)).toArray) (hn : n = l.length) (h20 : n ≤ 20) (hl : ∀ x ∈ l, x < 18446744073709551616) :
    Calls Try.prog 21 #[.slice (some ⟨g, 0, none⟩) n c] w fun e w' => e = .returned (.string (bstr (flat8 l))) ∧ Below w.heap.size w w' := by
  have hgl := hB.lt
  have hcell : ∀ j (h : j < l.length), w.cell? ⟨g, j, none⟩ = some (.int .u64 (l[j] : Nat)) := fun j h => by
    rw [hB.cell]
    simp [h]
  have HC := Lib.hid hcell
  have HL := Lib.hid hl
  have hnl : l.length ≤ 20 := by omega
  have hN := Lib.hid hn
  clear hcell hl hB hn
  have hb0 := builder_new w 44 5
  go_enter Try.func21, Try.ntmps21
  go_wp2
  go_loopw [8] (fun i wr => ∃ j : Nat, j ≤ n ∧ i = .int .i64 j ∧ Lib.IsBuilder 44 5 w.heap.size w.heap.size (Lib.strCells (bstr (flat8 (l.take j)))) wr ∧ Below w.heap.size w wr) (fun i _ => n - (intOf i).toNat)
  case atStart => exact ⟨0, by omega, rfl, hb0, (Below.refl _ _).alloc (Nat.le_refl _) _⟩
  case round =>
    obtain ⟨j, hj, rfl, hI, hbw⟩ := hrel
    by_cases hjn : j < n
    · have hjl : j < l.length := by have := hN.out; omega
      have hc := (hbw.cell (p := ⟨g, j, none⟩) hgl).trans (HC.out j hjl)
      have hx := HL.out l[j] (List.getElem_mem hjl)
      have HT := Lib.hid (flat8_take l j hjl)
      have hfl : (flat8 (l.take j)).length ≤ 160 := by rw [flat8_length, List.length_take]; omega
      generalize l[j] = x at *
      have h8 := fun W => eight_any x W hx
      have H8 := Lib.hid h8
      have HI := Lib.hid hI
      clear h8 hI hb0
      go_wp2_with fail
      refine (H8.out _).mono ?_
      rintro e w1 ⟨rfl, hb1⟩
      go_wp2_with fail
      refine (bws _ _ _ _ w1 (builder_below HI.out hb1) (by rw [eight_size]; omega) (Nat.le_trans hbw.size hb1.size)).mono ?_
      rintro e w2 ⟨rfl, hI2, hb2⟩
      have hb3 : Below w.heap.size w w2 := (bj hbw hb1).trans hb2
      rw [bts_eight, ← HT.out] at hI2
      have HI2 := Lib.hid hI2
      clear hI2 hb1 hb2
      go_wp2
      go_roundw
      case rel => exact ⟨j + 1, by omega, by go_num, HI2.out, hb3⟩
      case measure => simp [intOf]; omega
    · obtain rfl : j = n := by omega
      have hI2 : Lib.IsBuilder 44 5 w.heap.size w.heap.size (Lib.strCells (bstr (flat8 l))) wr := by
        have e : l.take j = l := List.take_of_length_le (by have := hN.out; omega)
        rw [e] at hI
        exact hI
      have HI := Lib.hid hI2
      clear hI2 hI hb0
      go_wp2_with fail
      refine (bstring _ _ _ _ HI.out hbw.size).mono ?_
      rintro e w1 ⟨rfl, hb1⟩
      go_wp2
      go_ret
      exact ⟨rfl, hbw.trans hb1⟩
/-- a slice of images: each is a number and a text -/
def Imgs (w : World) (B : Nat) (A : Option Addr) (l : List (Int × ByteArray)) : Prop :=
  l = [] ∨ ∃ b o, A = some ⟨b, o, none⟩ ∧ b < B ∧ ∀ (j : Nat) x, l[j]? = some x → w.cell? ⟨b, o + j * 2, none⟩ = some (.int .i64 x.1) ∧ w.cell? ⟨b, o + j * 2 + 1, none⟩ = some (.string x.2)
theorem imgs_below {w w' : World} {B : Nat} {A : Option Addr} {l : List (Int × ByteArray)} (h : Imgs w B A l) (hb : Below B w w') : Imgs w' B A l := by
  rcases h with h | ⟨b, o, hA, hlt, hc⟩
  · exact .inl h
  · exact .inr ⟨b, o, hA, hlt, fun j x hx => ⟨(hb.cell (p := ⟨b, o + j * 2, none⟩) hlt).trans (hc j x hx).1, (hb.cell (p := ⟨b, o + j * 2 + 1, none⟩) hlt).trans (hc j x hx).2⟩⟩
theorem imgs_mono {w : World} {B B' : Nat} {A : Option Addr} {l : List (Int × ByteArray)} (h : Imgs w B A l) (hB : B ≤ B') : Imgs w B' A l := by
  rcases h with h | ⟨b, o, hA, hlt, hc⟩
  · exact .inl h
  · exact .inr ⟨b, o, hA, by omega, hc⟩
def imgsOk : Int → List (Int × ByteArray) → Int → Bool
  | _, [], _ => true
  | a, x :: r, pages => decide (a < x.1) && decide (x.1 ≤ pages) && decide (x.2.size = 512) && imgsOk x.1 r pages
theorem imgsOk_f {a : Int} {x : Int × ByteArray} {r : List (Int × ByteArray)} {pages : Int} (h : ¬ (a < x.1 ∧ x.1 ≤ pages ∧ x.2.size = 512)) : imgsOk a (x :: r) pages = false := by
  cases hh : imgsOk a (x :: r) pages with
  | false => rfl
  | true =>
    exfalso
    simp only [imgsOk, Bool.and_eq_true, decide_eq_true_eq] at hh
    exact h ⟨hh.1.1.1, hh.1.1.2, hh.1.2⟩
set_option maxRecDepth 100000 in
set_option maxHeartbeats 4000000 in
theorem imagesMayBe_any (A : Option Addr) (l : List (Int × ByteArray)) (n c : Nat) (pages : Int) (w : World) (hI : Imgs w w.heap.size A l) (hn : n = l.length) (hm : n ≤ maxLen) :
    Calls Try.prog 38 #[.slice A n c, .int .i64 pages] w fun e w' => e = .returned (.bool (imgsOk 0 l pages)) ∧ Below w.heap.size w w' := by
  unfold maxLen at hm
  rcases hI with rfl | ⟨b, o, rfl, hlt, hc⟩
  · obtain rfl : n = 0 := hn
    have HR := Lib.hid (show imgsOk 0 [] pages = true from rfl)
    go_enter Try.func38, Try.ntmps38
    go_wp2
    go_loopw [5, 10] (fun a i wr => i = .int .i64 0 ∧ Below w.heap.size w wr) (fun _ _ _ => 0)
    case atStart => exact ⟨rfl, Below.refl _ _⟩
    case round =>
      obtain ⟨rfl, hb⟩ := hrel
      go_wp2
      go_ret
      exact ⟨rbool HR.out.symm, hb⟩
  · have HC := Lib.hid hc
    have HN := Lib.hid hn
    clear hc hn
    go_enter Try.func38, Try.ntmps38
    go_wp2
    go_loopw [5, 10] (fun s i wr => ∃ (j : Nat) (a : Int), j ≤ n ∧ i = .int .i64 j ∧ s = .int .i64 a ∧ imgsOk 0 l pages = imgsOk a (l.drop j) pages ∧ Below w.heap.size w wr) (fun _ i _ => n - (intOf i).toNat)
    case atStart => exact ⟨0, 0, by omega, rfl, rfl, by rw [List.drop_zero], Below.refl _ _⟩
    case round =>
      obtain ⟨j, a, hj, rfl, rfl, heq, hb⟩ := hrel
      by_cases hjn : j < n
      · have hjl : j < l.length := by have := HN.out; omega
        obtain ⟨h1, h2⟩ := HC.out j l[j] (List.getElem?_eq_getElem hjl)
        have c1 := (hb.cell (p := ⟨b, o + j * 2, none⟩) hlt).trans h1
        have c2 := (hb.cell (p := ⟨b, o + j * 2 + 1, none⟩) hlt).trans h2
        have hd : l.drop j = l[j] :: l.drop (j + 1) := List.drop_eq_getElem_cons hjl
        rw [hd] at heq
        generalize l[j] = x at *
        obtain ⟨p, d⟩ := x
        have HE := Lib.hid heq
        clear heq hd h1 h2
        simp only at c1 c2
        by_cases g1 : a < p
        · by_cases g2 : p ≤ pages
          · by_cases g3 : d.size = 512
            · have g3' : ((d.size : Int) != 512) = false := by rw [g3]; rfl
              have G3 := Lib.hid g3
              clear g3
              go_wp2
              go_roundw
              case rel => exact ⟨j + 1, p, by omega, by go_num, rfl, by rw [HE.out]; simp [imgsOk, g1, g2, G3.out], hb.alloc hb.size _⟩
              case measure => simp [intOf]; omega
            · have g3' : ((d.size : Int) != 512) = true := by rw [bne_iff_ne]; omega
              have G3 := Lib.hid g3
              clear g3
              go_wp2
              go_ret
              exact ⟨rbool (by rw [HE.out, imgsOk_f (fun h => G3.out h.2.2)]), hb.alloc hb.size _⟩
          · have g2' : pages < p := by omega
            go_wp2
            go_ret
            exact ⟨rbool (by rw [HE.out, imgsOk_f (fun h => by have h' : p ≤ pages := h.2.1; omega)]), hb.alloc hb.size _⟩
        · have g1' : p ≤ a := by omega
          go_wp2
          go_ret
          exact ⟨rbool (by rw [HE.out, imgsOk_f (fun h => by have h' : a < p := h.1; omega)]), hb.alloc hb.size _⟩
      · obtain rfl : j = n := by omega
        have hE : imgsOk 0 l pages = true := by rw [heq, List.drop_of_length_le (by have := HN.out; omega)]; rfl
        have HE := Lib.hid hE
        clear heq hE
        go_wp2
        go_ret
        exact ⟨rbool HE.out.symm, hb⟩
end Go.Proofs.Ytkocdaillkhkfaa
