/- The law's 'great': whether a page is more than is gone through. Conditions: those of each lemma. -/
import Derived.Test.YticpenbebokjdaaDoorNd4
namespace Go.Proofs.YticpenbebokjdaaDoor
open Go.RowKit Go
set_option linter.unusedVariables false
set_option linter.unusedSimpArgs false
def greatC (c : Cl) : Bool := decide (1024 < (c.key.size : Int)) || decide (1024 < (c.loc.size : Int))
def greatB (l : List Cl) (data : ByteArray) : Bool := decide (400 < (l.length : Int)) || decide (4096 < (data.size : Int)) || l.any greatC
theorem great_no {l : List Cl} {data : ByteArray} (h : greatB l data = false) : l.length ≤ 400 ∧ data.size ≤ 4096 ∧ ∀ c ∈ l, c.key.size ≤ 1024 ∧ c.loc.size ≤ 1024 := by
  unfold greatB greatC at h
  simp only [Bool.or_eq_false_iff, decide_eq_false_iff_not, List.any_eq_false, Bool.or_eq_true, decide_eq_true_eq, not_or] at h
  refine ⟨by omega, by omega, fun c hc => ?_⟩
  have := h.2 c hc
  omega
set_option maxRecDepth 100000 in
set_option maxHeartbeats 8000000 in
theorem great_1 (kind first : Int) (A : Option Addr) (l : List Cl) (n c : Nat) (data : ByteArray) (w : World) (hn : n = l.length) (h : 400 < (n : Int) ∨ 4096 < (data.size : Int)) :
    Calls Tryd.prog 15 #[.agg #[.int .u8 kind, .int .i64 first, .slice A n c, .string data]] w fun e w' => e = .returned (.bool true) ∧ Below w.heap.size w w' := by
  have HNB := Lib.hid (nb_new w kind first A n c data)
  clear hn
  go_enter Tryd.func15, Tryd.ntmps15
  obtain ⟨c0, c1, c2, c3⟩ := cell4 HNB.out.1
  by_cases h1 : 400 < (n : Int)
  · clear h
    go_wp2
    go_ret
    exact ⟨rfl, HNB.out.2⟩
  · have h2 : 4096 < (data.size : Int) := by rcases h with h | h; exact absurd h h1; exact h
    have h3 : decide (400 < (n : Int)) = false := decide_eq_false h1
    clear h
    go_wp2
    go_ret
    exact ⟨rfl, HNB.out.2⟩
set_option maxRecDepth 100000 in
set_option maxHeartbeats 8000000 in
theorem great_2 (kind first : Int) (A : Option Addr) (l : List Cl) (n c : Nat) (data : ByteArray) (w : World) (hC : Cls w w.heap.size A l) (hn : n = l.length) (h1 : (n : Int) ≤ 400) (h2 : (data.size : Int) ≤ 4096) :
    Calls Tryd.prog 15 #[.agg #[.int .u8 kind, .int .i64 first, .slice A n c, .string data]] w fun e w' => e = .returned (.bool (l.any greatC)) ∧ Below w.heap.size w w' := by
  have HNB := Lib.hid (nb_new w kind first A n c data)
  have HN := Lib.hid hn
  have h3 : decide (400 < (n : Int)) = false := decide_eq_false (by omega)
  have h4 : decide (4096 < (data.size : Int)) = false := decide_eq_false (by omega)
  clear hn
  go_enter Tryd.func15, Tryd.ntmps15
  obtain ⟨c0, c1, c2, c3⟩ := cell4 HNB.out.1
  go_wp2
  go_loopw [18] (fun i wr => ∃ j : Nat, j ≤ n ∧ i = .int .i64 j ∧ (l.take j).any greatC = false ∧ Nb w kind first A n c data wr) (fun i _ => n - (intOf i).toNat)
  case atStart => exact ⟨0, by omega, rfl, rfl, HNB.out⟩
  case round =>
    obtain ⟨j, hj, rfl, hno, hnb⟩ := hrel
    by_cases hjn : j < n
    · have hlt : j < l.length := by have := HN.out; omega
      obtain ⟨b, o, rfl, hbl, hcs⟩ := cls_get hC (fun e => by rw [e] at hlt; simp at hlt)
      obtain ⟨a0, a1, a2, a3⟩ := cells4_below (hcs j l[j] (List.getElem?_eq_getElem hlt)) hnb.2 hbl
      have hts := take_snoc' l j hlt
      obtain ⟨x, hx⟩ : ∃ x, l[j] = x := ⟨_, rfl⟩
      have hany : greatC x = true → l.any greatC = true := fun hg => List.any_eq_true.2 ⟨x, hx ▸ List.getElem_mem hlt, hg⟩
      rw [hx] at a0 a1 a2 a3 hts
      have HANY := Lib.hid hany
      have HTS : Hid (greatC x = false → (l.take (j + 1)).any greatC = false) := Lib.hid (fun hg => by rw [hts, List.any_append, hno]; simp [hg])
      obtain ⟨k, z, lo, p⟩ := x
      simp only at a0 a1 a2 a3
      have hnb2 := nb_below hnb (one_alloc (o := .cells #[.string k, .int .i64 z, .string lo, .int .i64 p] 30))
      obtain ⟨d0, d1, d2, d3⟩ := cell4 hnb2.1
      have HNB3 := Lib.hid hnb2
      have hjI : (j : Int) < n := by omega
      clear hcs hx hts hnb hnb2 hlt hbl hany hno hC c0 c1 c2 c3 HNB h3 h4
      by_cases g1 : 1024 < (k.size : Int)
      · have HR : Hid (l.any greatC = true) := Lib.hid (HANY.out (by unfold greatC; rw [decide_eq_true g1]; rfl))
        clear HANY HTS
        go_wp2
        go_ret
        exact ⟨congrArg (fun b => Ending.returned (.bool b)) HR.out.symm, HNB3.out.2⟩
      have g2 : decide (1024 < (k.size : Int)) = false := decide_eq_false g1
      by_cases g3 : 1024 < (lo.size : Int)
      · have HR : Hid (l.any greatC = true) := Lib.hid (HANY.out (by unfold greatC; rw [decide_eq_true (show 1024 < ((Cl.mk k z lo p).loc.size : Int) from g3), Bool.or_true]))
        clear HANY HTS
        go_wp2
        go_ret
        exact ⟨congrArg (fun b => Ending.returned (.bool b)) HR.out.symm, HNB3.out.2⟩
      have g4 : decide (1024 < (lo.size : Int)) = false := decide_eq_false g3
      have HR := Lib.hid (HTS.out (by unfold greatC; rw [decide_eq_false (show ¬ 1024 < ((Cl.mk k z lo p).key.size : Int) from g1), decide_eq_false (show ¬ 1024 < ((Cl.mk k z lo p).loc.size : Int) from g3)]; rfl))
      clear HTS HANY
      go_wp2
      go_roundw
      case rel => exact ⟨j + 1, by omega, by go_num, HR.out, HNB3.out⟩
      case measure => simp [intOf]; omega
    · obtain rfl : j = n := by omega
      have HR : Hid (l.any greatC = false) := Lib.hid (by rw [← hno, List.take_of_length_le (by have := HN.out; omega)])
      have HB := Lib.hid hnb.2
      clear hnb
      go_wp2
      go_ret
      exact ⟨congrArg (fun b => Ending.returned (.bool b)) HR.out.symm, HB.out⟩
theorem great_any (kind first : Int) (A : Option Addr) (l : List Cl) (n c : Nat) (data : ByteArray) (w : World) (hC : Cls w w.heap.size A l) (hn : n = l.length) :
    Calls Tryd.prog 15 #[.agg #[.int .u8 kind, .int .i64 first, .slice A n c, .string data]] w fun e w' => e = .returned (.bool (greatB l data)) ∧ Below w.heap.size w w' := by
  by_cases h1 : 400 < (n : Int)
  · have e : greatB l data = true := by unfold greatB; rw [decide_eq_true (show 400 < (l.length : Int) by omega)]; rfl
    rw [e]
    exact great_1 kind first A l n c data w hn (.inl h1)
  by_cases h2 : 4096 < (data.size : Int)
  · have e : greatB l data = true := by unfold greatB; rw [decide_eq_true h2, Bool.or_true]; rfl
    rw [e]
    exact great_1 kind first A l n c data w hn (.inr h2)
  · have e : greatB l data = l.any greatC := by unfold greatB; rw [decide_eq_false (show ¬ 400 < (l.length : Int) by omega), decide_eq_false h2]; rfl
    rw [e]
    exact great_2 kind first A l n c data w hC hn (by omega) (by omega)
end Go.Proofs.YticpenbebokjdaaDoor
