/- The small functions of package frame. Conditions: the numbers fit their kinds, what comes in is short. -/
import Derived.Test.YthipaabjmlgjmaaProg
import Derived.Test.YthipaabjmlgjmaaShelf
import Derived.Test.YthipaabjmlgjmaaSum
import Derived.Test.YthipaabjmlgjmaaNumFix2
import Derived.Test.YthipaabjmlgjmaaSumText
import Derived.Test.YthipaabjmlgjmaaBlk
import Derived.WalkKit
import Derived.WalkSpells
import Derived.WalkLawsBesides
import Derived.Lib.Hide
namespace Go.Proofs.Ythipaabjmlgjmaa
open Go.RowKit
theorem blk_new (w : World) (g : Nat) (t : TypeId) (cs : Array Value) (hg : w.heap.size = g) : Blk (w.alloc (.cells cs t)) g t cs := by
  subst hg; exact Blk.new w t cs
def okIn (most x : Int) : Bool := decide (0 ≤ x) && decide (x ≤ most)
set_option maxRecDepth 100000 in
set_option maxHeartbeats 1000000 in
theorem within_any (most : Int) (bk c : Nat) (xs : List Int) (w : World) (hcells : ∀ (j : Nat) x, xs[j]? = some x → w.cell? ⟨bk, j, none⟩ = some (.int .i64 x)) (hn : xs.length ≤ 100) :
    Calls Try.prog 67 #[.int .i64 most, .slice (some ⟨bk, 0, none⟩) xs.length c] w fun e w' => e = .returned (.bool (xs.all (okIn most))) ∧ w = w' := by
  go_enter Try.func67, Try.ntmps67
  go_wp2
  have HC := Lib.hid hcells
  clear hcells
  go_loop [6, 9] (fun _ i => ∃ j : Nat, j ≤ xs.length ∧ i = .int .i64 j ∧ (xs.take j).all (okIn most) = true) (fun _ i => xs.length - (intOf i).toNat)
  case atStart => exact ⟨0, by omega, rfl, rfl⟩
  case round =>
    obtain ⟨j, hj, rfl, hall⟩ := hrel
    by_cases hjk : j < xs.length
    · have hx := HC.out j xs[j] (List.getElem?_eq_getElem hjk)
      have hm : xs[j] ∈ xs := List.getElem_mem hjk
      have hs : xs.take (j + 1) = xs.take j ++ [xs[j]] := by rw [List.take_add_one, List.getElem?_eq_getElem hjk]; rfl
      generalize xs[j] = x at *
      have HALL := Lib.hid hall
      have HM := Lib.hid hm
      have HS := Lib.hid hs
      clear hall hm hs
      by_cases h0 : x < 0
      · go_wp2
        go_ret
        exact ⟨rbool (by symm; rw [List.all_eq_false]; exact ⟨x, HM.out, by simp [okIn]; omega⟩), rfl⟩
      · by_cases h1 : most < x
        · go_wp2
          go_ret
          exact ⟨rbool (by symm; rw [List.all_eq_false]; exact ⟨x, HM.out, by simp [okIn]; omega⟩), rfl⟩
        · go_wp2
          go_round
          case rel => exact ⟨j + 1, by omega, by simp, by rw [HS.out, List.all_append, HALL.out]; simp [okIn]; omega⟩
          case measure => simp [intOf]; omega
    · obtain rfl : j = xs.length := by omega
      have HALL := Lib.hid hall
      clear hall
      go_wp2
      go_ret
      exact ⟨rbool (by have := HALL.out; rw [List.take_length] at this; exact this.symm), rfl⟩
theorem inter_nil {α : Type} : ∀ (ps : List (List α)), ([] : List α).intercalate ps = ps.flatten
  | [] => rfl
  | [a] => by simp [List.intercalate]
  | a :: b :: r => by
    have := inter_nil (b :: r)
    simp only [List.intercalate, List.intersperse, List.flatten_cons, List.nil_append] at this ⊢
    rw [this]
theorem join_flat (Ls : List (List Nat)) : Lib.join ((Ls.map bstr).map (·.data.toList)) [] = Ls.flatten.map UInt8.ofNat := by
  rw [Lib.join, inter_nil, List.map_flatten, List.map_map]
  rfl
set_option maxRecDepth 100000 in
set_option maxHeartbeats 1000000 in
theorem joined_any (bk c : Nat) (Ls : List (List Nat)) (w : World) (hcells : ∀ (j : Nat) x, Ls[j]? = some x → w.cell? ⟨bk, 0 + j, none⟩ = some (.string (bstr x))) (hbk : bk < w.heap.size) (hN : Ls.length ≤ 100) (hcap : Ls.length ≤ c)
    (hlen : Ls.flatten.length ≤ 140737488355328) :
    Calls Try.prog 68 #[.slice (some ⟨bk, 0, none⟩) Ls.length c] w fun e w' => e = .returned (.string (bstr Ls.flatten)) ∧ Below w.heap.size w w' := by
  have hj := Try.strings_Join bk 0 c (Ls.map bstr) ⟨#[]⟩ w (fun j x hx => by
    rw [List.getElem?_map] at hx
    obtain ⟨y, hy, rfl⟩ := Option.map_eq_some_iff.1 hx
    exact hcells j y hy) hbk (by simp; omega) (by simpa using hcap) (by
    rw [show (⟨#[]⟩ : ByteArray).data.toList = [] from rfl, join_flat, List.length_map]; exact hlen)
  rw [show (⟨#[]⟩ : ByteArray).data.toList = [] from rfl, join_flat, List.length_map, show (⟨(Ls.flatten.map UInt8.ofNat).toArray⟩ : ByteArray) = bstr Ls.flatten from rfl] at hj
  have HJ := Lib.hid hj
  clear hj hcells hlen hcap
  go_enter Try.func68, Try.ntmps68
  go_wp2_with (go_at_call 91; refine (HJ.out).mono ?_; rintro e w2 ⟨rfl, hb2⟩)
  go_ret
  exact ⟨rfl, hb2⟩
theorem rep_flat (n : Nat) : Lib.repeatL [0] n = (List.replicate n 0 : List Nat).map UInt8.ofNat := by
  induction n with
  | zero => rfl
  | succ n ih => simp [Lib.repeatL, List.replicate_succ] at ih ⊢; try exact ih
set_option maxRecDepth 100000 in
set_option maxHeartbeats 1000000 in
theorem noughts_any (n : Nat) (w : World) (hn : n ≤ 1000) :
    Calls Try.prog 73 #[.int .i64 n] w fun e w' => e = .returned (.string (bstr (List.replicate n 0))) ∧ Below w.heap.size w w' := by
  have hj := Try.strings_Repeat ⟨#[0]⟩ n w (by omega) (by rw [show (⟨#[0]⟩ : ByteArray).size = 1 from rfl]; omega)
  rw [show (⟨#[0]⟩ : ByteArray).data.toList = [0] from rfl, rep_flat, show (⟨((List.replicate n 0 : List Nat).map UInt8.ofNat).toArray⟩ : ByteArray) = bstr (List.replicate n 0) from rfl] at hj
  have HJ := Lib.hid hj
  clear hj
  go_enter Try.func73, Try.ntmps73
  go_wp2_with (go_at_call 34; refine (HJ.out).mono ?_; rintro e w2 ⟨rfl, hb2⟩)
  go_ret
  exact ⟨rfl, hb2⟩
theorem within_blk {w : World} {g : Nat} {t : TypeId} (most : Int) (xs : List Int) (n c : Nat) (hB : Blk w g t (xs.map (Value.int .i64)).toArray) (hn : n = xs.length) (hl : n ≤ 100) :
    Calls Try.prog 67 #[.int .i64 most, .slice (some ⟨g, 0, none⟩) n c] w fun e w' => e = .returned (.bool (xs.all (okIn most))) ∧ w = w' := by
  subst hn
  exact within_any most g c xs w (fun j x hx => by rw [hB.cell]; simp [hx]) hl
theorem within_one {w : World} {g : Nat} {t : TypeId} (most F : Int) (b : Bool) (hB : Blk w g t #[.int .i64 F]) (hb : okIn most F = b) :
    Calls Try.prog 67 #[.int .i64 most, .slice (some ⟨g, 0, none⟩) 1 1] w fun e w' => e = .returned (.bool b) ∧ w = w' := by
  have h := within_blk (w := w) (g := g) (t := t) most [F] 1 1 hB rfl (by omega)
  simp only [List.all_cons, List.all_nil, Bool.and_true, hb] at h
  exact h
theorem within_two {w : World} {g : Nat} {t : TypeId} (most F P : Int) (b : Bool) (hB : Blk w g t #[.int .i64 F, .int .i64 P]) (hb : (okIn most F && okIn most P) = b) :
    Calls Try.prog 67 #[.int .i64 most, .slice (some ⟨g, 0, none⟩) 2 2] w fun e w' => e = .returned (.bool b) ∧ w = w' := by
  have h := within_blk (w := w) (g := g) (t := t) most [F, P] 2 2 hB rfl (by omega)
  simp only [List.all_cons, List.all_nil, Bool.and_true, hb] at h
  exact h
theorem flat_bts (xs : List ByteArray) : (xs.map bts).flatten.length = (xs.map ByteArray.size).sum := by
  rw [List.length_flatten, List.map_map]
  congr 1
  apply List.map_congr_left
  intro x _
  exact bts_length x
theorem joined_blk {w : World} {g : Nat} {t : TypeId} (xs : List ByteArray) (L : List Nat) (n c : Nat) (hL : (xs.map bts).flatten = L) (hB : Blk w g t (xs.map Value.string).toArray) (hn : n = xs.length) (hl : n ≤ 100) (hc : n ≤ c) (hz : (xs.map ByteArray.size).sum ≤ 140737488355328) :
    Calls Try.prog 68 #[.slice (some ⟨g, 0, none⟩) n c] w fun e w' => e = .returned (.string (bstr L)) ∧ Below w.heap.size w w' := by
  subst hL
  subst hn
  have h := joined_any g c (xs.map bts) w (fun j x hx => by
    rw [hB.cell]
    rw [List.getElem?_map] at hx
    obtain ⟨y, hy, rfl⟩ := Option.map_eq_some_iff.1 hx
    simp [hy, bstr_bts]) hB.lt (by simpa using hl) (by simpa using hc) (by rw [flat_bts]; exact hz)
  rw [List.length_map] at h
  exact h
theorem four_size (n : Nat) : (bstr (fourL n)).size = 4 := by rw [bstr_size]; rfl
theorem eight_size (n : Nat) : (bstr (eightL n)).size = 8 := by rw [bstr_size]; rfl
theorem text_size (a b : Int) : (bstr (textL a b)).size = 8 := by rw [bstr_size]; rfl
theorem four_lt (n : Nat) : ∀ x ∈ fourL n, x < 256 := by
  intro x hx
  simp [fourL] at hx
  omega
theorem bts_four (n : Nat) : bts (bstr (fourL n)) = fourL n := bts_bstr _ (four_lt n)
theorem eight_lt (n : Nat) : ∀ x ∈ eightL n, x < 256 := by
  intro x hx
  rcases List.mem_append.1 hx with h | h
  · exact four_lt _ x h
  · exact four_lt _ x h
theorem bts_eight (n : Nat) : bts (bstr (eightL n)) = eightL n := bts_bstr _ (eight_lt n)
theorem text_lt (a b : Int) : ∀ x ∈ textL a b, x < 256 := by
  intro x hx
  rcases List.mem_append.1 hx with h | h
  · exact four_lt _ x h
  · exact four_lt _ x h
theorem bts_text (a b : Int) : bts (bstr (textL a b)) = textL a b := bts_bstr _ (text_lt a b)
theorem bts_zeros (n : Nat) : bts (bstr (List.replicate n 0)) = List.replicate n 0 := bts_bstr _ (fun x hx => by rw [(List.mem_replicate.1 hx).2]; decide)
theorem zeros_size (n : Nat) : (bstr (List.replicate n 0)).size = n := by rw [bstr_size, List.length_replicate]
end Go.Proofs.Ythipaabjmlgjmaa
