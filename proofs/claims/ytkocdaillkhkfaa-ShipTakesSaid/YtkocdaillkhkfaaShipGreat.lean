/- The laws' own bound of a ship, and Sb with its images. Conditions: those of each lemma. -/
import Derived.Test.YtkocdaillkhkfaaShipWorks2
namespace Go.Proofs.Ytkocdaillkhkfaa
open Go.RowKit
set_option linter.unusedVariables false
def grB (l : List (Int × ByteArray)) : Bool := l.any (fun x => decide (2048 < x.2.size)) || decide (40 < l.length)
theorem any_take {α : Type} {p : α → Bool} {l : List α} {j : Nat} {x : α} (h : (l.take j).any p = false) (hx : l[j]? = some x) (hp : p x = false) : (l.take (j + 1)).any p = false := by
  rw [List.take_add_one, hx, List.any_append, h]
  simp [hp]
theorem any_at {α : Type} {p : α → Bool} {l : List α} {j : Nat} {x : α} (hx : l[j]? = some x) (hp : p x = true) : l.any p = true := by
  rw [List.any_eq_true]
  exact ⟨x, List.mem_of_getElem? hx, hp⟩
set_option maxRecDepth 100000 in
set_option maxHeartbeats 4000000 in
theorem great_any (kind ep K pages : Int) (full : Bool) (A : Option Addr) (l : List (Int × ByteArray)) (n c : Nat) (w : World) (hI : Imgs w w.heap.size A l) (hn : n = l.length) (hm : n ≤ maxLen) :
    Calls Try.prog 14 #[.agg #[.int .u8 kind, .int .u64 ep, .int .u64 K, .bool full, .int .i64 pages, .slice A n c]] w fun e w' => e = .returned (.bool (grB l)) ∧ Below w.heap.size w w' := by
  unfold maxLen at hm
  have hs0 : Sb w kind ep K pages full A n c (w.alloc (.cells #[.int .u8 kind, .int .u64 ep, .int .u64 K, .bool full, .int .i64 pages, .slice A n c] 28)) := ⟨Blk.new _ _ _, (Below.refl _ _).alloc (Nat.le_refl _) _⟩
  generalize hb : grB l = b at *
  by_cases h0 : n = 0
  · have e1 : l = [] := List.eq_nil_of_length_eq_zero (by omega)
    obtain rfl : b = false := by rw [← hb, e1]; rfl
    subst h0
    have HS0 := Lib.hid hs0
    clear hI hn hb e1 hs0
    go_enter Try.func14, Try.ntmps14
    go_wp2
    go_loopw [8] (fun i wr => i = .int .i64 0 ∧ Sb w kind ep K pages full A 0 c wr) (fun _ _ => 0)
    case atStart => exact ⟨rfl, HS0.out⟩
    case round =>
      obtain ⟨rfl, hs⟩ := hrel
      obtain ⟨r0, r1, r2, r3, r4, r5⟩ := sbS hs
      go_wp2
      go_ret
      exact ⟨rfl, hs.2⟩
  · obtain ⟨b1, o1, rfl, l1, c1⟩ := imgs_get hI (fun e => by rw [e] at hn; simp at hn; omega)
    have H1 := Lib.hid c1
    have HN := Lib.hid hn
    have HB := Lib.hid hb
    have HS0 := Lib.hid hs0
    clear c1 hn hb hI h0 hs0
    go_enter Try.func14, Try.ntmps14
    go_wp2
    go_loopw [8] (fun i wr => ∃ j : Nat, j ≤ n ∧ i = .int .i64 j ∧ (l.take j).any (fun x => decide (2048 < x.2.size)) = false ∧ Sb w kind ep K pages full (some ⟨b1, o1, none⟩) n c wr) (fun i _ => n - (intOf i).toNat)
    case atStart => exact ⟨0, by omega, rfl, rfl, HS0.out⟩
    case round =>
      obtain ⟨j, hj, rfl, ht, hs⟩ := hrel
      have HT := Lib.hid ht
      clear ht
      by_cases hlt : j < n
      · have g1 : l[j]? = some (l[j]'(by rw [← HN.out]; exact hlt)) := List.getElem?_eq_getElem _
        generalize l[j]'(by rw [← HN.out]; exact hlt) = x at *
        obtain ⟨p, d⟩ := x
        obtain ⟨a1, a2⟩ := H1.out j _ g1
        simp only at a1 a2
        have d1 := (hs.2.cell (p := ⟨b1, o1 + j * 2, none⟩) l1).trans a1
        have d2 := (hs.2.cell (p := ⟨b1, o1 + j * 2 + 1, none⟩) l1).trans a2
        have G1 := Lib.hid g1
        have HS := Lib.hid hs
        clear a1 a2 g1 hs
        by_cases k1 : 2048 < d.size
        · obtain rfl : b = true := by
            rw [← HB.out]
            unfold grB
            rw [any_at G1.out (decide_eq_true k1)]; rfl
          go_wp2
          go_ret
          exact ⟨rfl, HS.out.2.alloc HS.out.2.size _⟩
        · go_wp2
          go_roundw
          case rel => exact ⟨j + 1, by omega, by go_num, any_take HT.out G1.out (decide_eq_false k1), sb_step ((Below.refl _ _).alloc (Nat.le_refl _) _) HS.out⟩
          case measure => simp [intOf]; omega
      · obtain rfl : j = n := by omega
        have e : b = decide (40 < j) := by
          have h := HT.out
          rw [List.take_of_length_le (by rw [← HN.out]; exact Nat.le_refl _)] at h
          rw [← HB.out]
          unfold grB
          rw [h, ← HN.out]; rfl
        obtain ⟨r0, r1, r2, r3, r4, r5⟩ := sbS hs
        have HS := Lib.hid hs
        clear hs
        by_cases k : 40 < j
        · obtain rfl : b = true := by rw [e]; exact decide_eq_true k
          clear e
          go_wp2
          go_ret
          exact ⟨rbool (decide_eq_true (by omega)), HS.out.2⟩
        · obtain rfl : b = false := by rw [e]; exact decide_eq_false k
          clear e
          go_wp2
          go_ret
          exact ⟨rbool (decide_eq_false (by omega)), HS.out.2⟩
theorem sb_new (w : World) (kind ep K pages : Int) (full : Bool) (A : Option Addr) (n c : Nat) : Sb w kind ep K pages full A n c (w.alloc (.cells #[.int .u8 kind, .int .u64 ep, .int .u64 K, .bool full, .int .i64 pages, .slice A n c] 28)) := ⟨Blk.new _ _ _, (Below.refl _ _).alloc (Nat.le_refl _) _⟩
theorem sb_imgs {w W : World} {kind ep K pages : Int} {full : Bool} {A : Option Addr} {n c : Nat} {l : List (Int × ByteArray)} (h : Sb w kind ep K pages full A n c W) (hI : Imgs w w.heap.size A l) : Imgs W W.heap.size A l := imgs_mono (imgs_below hI h.2) h.2.size
theorem sb_drewN {w W : World} {kind ep K pages : Int} {full : Bool} {A : Option Addr} {m c : Nat} (n : Nat) (h : Sb w kind ep K pages full A m c W) : Sb w kind ep K pages full A m c (W.drewN n) := ⟨h.1.drewN n, below_drewN h.2 n⟩
/-- what Put answers of these fields, in whatever world in which the images are still there -/
theorem put_cases (kind ep K pages : Int) (full : Bool) (A : Option Addr) (l : List (Int × ByteArray)) (n c : Nat) (w : World) (hI : Imgs w w.heap.size A l) (hn : n = l.length) (hm : n ≤ maxLen) (he : 0 ≤ ep ∧ ep < 18446744073709551616) (hK : 0 ≤ K ∧ K < 18446744073709551616) :
    (shipOk kind K full pages l = false ∧ ∀ W, Sb w kind ep K pages full A n c W → Calls Try.prog 10 #[.agg #[.int .u8 kind, .int .u64 ep, .int .u64 K, .bool full, .int .i64 pages, .slice A n c]] W fun e w' => e = .returned (.tuple #[.string ⟨#[]⟩, .int .i64 2]) ∧ Below W.heap.size W w') ∨
    (∃ k e' K' p : Nat, kind = k ∧ ep = e' ∧ K = K' ∧ pages = p ∧ IsShip (bstr (shipL k e' K' full p l)) k e' K' full p l ∧ n ≤ 256 ∧ ∀ W, Sb w kind ep K pages full A n c W → Calls Try.prog 10 #[.agg #[.int .u8 kind, .int .u64 ep, .int .u64 K, .bool full, .int .i64 pages, .slice A n c]] W fun e w' => e = .returned (.tuple #[.string (bstr (shipL k e' K' full p l)), .int .i64 0]) ∧ Below W.heap.size W w') := by
  cases hok : shipOk kind K full pages l with
  | false => exact .inl ⟨rfl, fun W hW => shipPut_bad kind ep K pages full A l n c W (sb_imgs hW hI) hn hm hok⟩
  | true =>
    obtain ⟨b1, b2, b3, b4, b5, b6⟩ := ok_bounds hok
    obtain ⟨k, rfl⟩ := Int.eq_ofNat_of_zero_le b1
    obtain ⟨e', rfl⟩ := Int.eq_ofNat_of_zero_le he.1
    obtain ⟨K', rfl⟩ := Int.eq_ofNat_of_zero_le hK.1
    obtain ⟨p, rfl⟩ := Int.eq_ofNat_of_zero_le b3
    exact .inr ⟨k, e', K', p, rfl, rfl, rfl, rfl, put_is hok (by omega) (by omega), by omega, fun W hW => put_yes k e' K' p full A l n c W (sb_imgs hW hI) hn (by omega) (by omega) hok⟩
theorem u64_lt {x : Int} (h : (Lit.int .u64 x).wf = true) : 0 ≤ x ∧ x < 18446744073709551616 := by
  have := bounds_u64 h
  omega
end Go.Proofs.Ytkocdaillkhkfaa
