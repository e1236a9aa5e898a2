/- The two closures of record.Take. Conditions: what they have captured lies in cells of its own. -/
import Derived.Test.YtocbdehcjcggeaaProg
import Derived.Test.YtocbdehcjcggeaaRec1
import Derived.Test.YtocbdehcjcggeaaNumTake
import Derived.Laws.EntriesVeiled
namespace Go.Proofs.Ytocbdehcjcggeaa
open Go.RowKit
set_option linter.unusedVariables false
def Tk (w : World) (gl gk : Nat) (x : ByteArray) (b : Bool) (W : World) : Prop :=
  Blk W gl 9 #[.string x] ∧ Blk W gk 4 #[.bool b] ∧ Below w.heap.size w W ∧ w.heap.size ≤ gl ∧ w.heap.size ≤ gk ∧ gl ≠ gk
/-- all blocks but two stand -/
def Kp (gl gk : Nat) (W W' : World) : Prop := W.heap.size ≤ W'.heap.size ∧ ∀ g t cs, g ≠ gl → g ≠ gk → Blk W g t cs → Blk W' g t cs
theorem tk_step {w W W' : World} {gl gk : Nat} {x : ByteArray} {b : Bool} (h : Tk w gl gk x b W) (hb : Below W.heap.size W W') : Tk w gl gk x b W' := ⟨blk_step h.1 hb, blk_step h.2.1 hb, bj h.2.2.1 hb, h.2.2.2⟩
theorem tk_setl {w W : World} {gl gk : Nat} {x : ByteArray} {b : Bool} (y : ByteArray) (h : Tk w gl gk x b W) : Tk w gl gk y b (W.setCell ⟨gl, 0, none⟩ (.string y)) := by
  obtain ⟨h1, h2, h3, h4, h5, h6⟩ := h
  exact ⟨h1.set_ 0 _, h2.far (by simp; omega) _, h3.setCell h4 _, h4, h5, h6⟩
theorem tk_setk {w W : World} {gl gk : Nat} {x : ByteArray} {b : Bool} (c : Bool) (h : Tk w gl gk x b W) : Tk w gl gk x c (W.setCell ⟨gk, 0, none⟩ (.bool c)) := by
  obtain ⟨h1, h2, h3, h4, h5, h6⟩ := h
  exact ⟨h1.far (by simp; omega) _, h2.set_ 0 _, h3.setCell h5 _, h4, h5, h6⟩
theorem kp_step {gl gk : Nat} {W W' : World} (hb : Below W.heap.size W W') : Kp gl gk W W' := ⟨hb.size, fun g t cs _ _ h => blk_step h hb⟩
theorem kp_trans {gl gk : Nat} {W W1 W2 : World} (h : Kp gl gk W W1) (k : Kp gl gk W1 W2) : Kp gl gk W W2 := ⟨Nat.le_trans h.1 k.1, fun g t cs a b hB => k.2 g t cs a b (h.2 g t cs a b hB)⟩
theorem kp_set {gl gk : Nat} (W : World) (g i : Nat) (v : Value) (hg : g = gl ∨ g = gk) : Kp gl gk W (W.setCell ⟨g, i, none⟩ v) :=
  ⟨by simp [World.setCell], fun g' t cs a b hB => hB.far (by simp; omega) _⟩
theorem tkS {w W : World} {gl gk : Nat} {x : ByteArray} {b : Bool} (h : Tk w gl gk x b W) : W.cell? ⟨gl, 0, none⟩ = some (.string x) ∧ W.cell? ⟨gk, 0, none⟩ = some (.bool b) ∧ W.frozen? ⟨gl, 0, none⟩ = false ∧ W.frozen? ⟨gk, 0, none⟩ = false := ⟨h.1.cell 0, h.2.1.cell 0, h.1.frozen 0, h.2.1.frozen 0⟩
theorem takeS_le {L : List Nat} (hl : ∀ x ∈ L, x < 256) : (takeS L).2.1 ≤ L.length ∧ (takeS L).1 < 18446744073709551616 := by
  by_cases h : (takeS L).2.2 = 0
  · obtain ⟨h1, _, h3⟩ := takeS_some hl h
    exact ⟨h3, h1⟩
  · unfold takeS at h ⊢
    split at h <;> rename_i hh
    · simp
    · rename_i n k
      by_cases hs : sz n = k
      · simp [hs] at h
      · simp [hs]
theorem takeS_e (L : List Nat) : ((takeS L).2.2 : Int) = 0 ∨ ((takeS L).2.2 : Int) = 10 ∨ ((takeS L).2.2 : Int) = 11 := by
  unfold takeS
  split
  · simp
  · rename_i n k hh
    by_cases hs : sz n = k <;> simp [hs]
set_option maxRecDepth 100000 in
set_option maxHeartbeats 2000000 in
theorem short_tk {w W : World} {gl gk : Nat} {x : ByteArray} {b : Bool} (h : Tk w gl gk x b W) (hz : x.size ≤ 4000) :
    Calls Try.prog 90 #[.pointer (some ⟨gl, 0, none⟩), .pointer (some ⟨gk, 0, none⟩)] W fun e w' => e = .returned (.int .u64 (takeS (bts x)).1) ∧
      Tk w gl gk (x.extract (takeS (bts x)).2.1 x.size) (b && decide ((takeS (bts x)).2.2 = 0)) w' ∧ Kp gl gk W w' := by
  have ht := fun W => take_any x W (by unfold maxLen; omega)
  have hle := (takeS_le (bts_lt x)).1
  rw [bts_length] at hle
  have he := takeS_e (bts x)
  unfold Took at ht
  obtain ⟨c1, c2, f1, f2⟩ := tkS h
  have h0 := Lib.hid h
  generalize takeS (bts x) = p at *
  obtain ⟨n, k, er⟩ := p
  simp only at ht hle he
  have HT := Lib.hid ht
  have hleI : (k : Int) ≤ x.size := by omega
  have hzI : (x.size : Int) ≤ 4000 := by omega
  clear ht h hle
  by_cases her : er = 0
  · subst her
    clear he
    cases b
    all_goals
      go_enter Try.func90, Try.ntmps90
      go_wp2_with fail
      refine (HT.out _).mono ?_
      rintro e w1 ⟨rfl, hb1⟩
      have h1 := tk_step h0.out hb1
      obtain ⟨d1, d2, g1, g2⟩ := tkS h1
      have H1 := Lib.hid h1
      have K1 := Lib.hid (kp_step (gl := gl) (gk := gk) hb1)
      have hne := Lib.hid h1.2.2.2.2.2
      have e1 := (tkS (tk_setk true h1)).1
      have e2 := (tkS (tk_setk false h1)).1
      have e3 := (tkS (tk_setk true h1)).2.2.1
      have e4 := (tkS (tk_setk false h1)).2.2.1
      clear h1 hb1
      go_wp2
      go_ret
      refine ⟨rfl, tk_setl _ (tk_setk _ H1.out), kp_trans K1.out (kp_trans (kp_set _ _ _ _ (.inr rfl)) (kp_set _ _ _ _ (.inl rfl)))⟩
  · have he' : ((er : Int) == 0) = false := by rw [beq_eq_false_iff_ne]; omega
    have hd : decide (er = 0) = false := decide_eq_false her
    rw [hd]
    have HD := Lib.hid her
    clear he her hd
    cases b
    all_goals
      go_enter Try.func90, Try.ntmps90
      go_wp2_with fail
      refine (HT.out _).mono ?_
      rintro e w1 ⟨rfl, hb1⟩
      have h1 := tk_step h0.out hb1
      obtain ⟨d1, d2, g1, g2⟩ := tkS h1
      have H1 := Lib.hid h1
      have K1 := Lib.hid (kp_step (gl := gl) (gk := gk) hb1)
      have e2 := (tkS (tk_setk false h1)).1
      have e4 := (tkS (tk_setk false h1)).2.2.1
      clear h1 hb1
      go_wp2
      go_ret
      refine ⟨rfl, tk_setl _ (tk_setk _ H1.out), kp_trans K1.out (kp_trans (kp_set _ _ _ _ (.inr rfl)) (kp_set _ _ _ _ (.inl rfl)))⟩
set_option maxRecDepth 100000 in
set_option maxHeartbeats 2000000 in
theorem bytes_no {w W : World} {gl gk : Nat} {x : ByteArray} {b : Bool} (n : Nat) (h : Tk w gl gk x b W) (hz : x.size ≤ 4000) (hn : x.size < n) :
    Calls Try.prog 91 #[.int .u64 n, .pointer (some ⟨gl, 0, none⟩), .pointer (some ⟨gk, 0, none⟩)] W fun e w' => e = .returned (.string (bstr [])) ∧ Tk w gl gk x false w' ∧ Kp gl gk W w' := by
  obtain ⟨c1, c2, f1, f2⟩ := tkS h
  have h0 := Lib.hid h
  have hnI : (x.size : Int) < n := by omega
  have hzI : (x.size : Int) ≤ 4000 := by omega
  clear h hn hz
  go_enter Try.func91, Try.ntmps91
  go_wp2
  go_ret
  exact ⟨rfl, tk_setk _ h0.out, kp_set _ _ _ _ (.inr rfl)⟩
set_option maxRecDepth 100000 in
set_option maxHeartbeats 2000000 in
theorem bytes_tk {w W : World} {gl gk : Nat} {x : ByteArray} {b : Bool} (n : Nat) (h : Tk w gl gk x b W) (hz : x.size ≤ 4000) (hn : n ≤ x.size) :
    Calls Try.prog 91 #[.int .u64 n, .pointer (some ⟨gl, 0, none⟩), .pointer (some ⟨gk, 0, none⟩)] W fun e w' => e = .returned (.string (bstr ((bts x).take n))) ∧ Tk w gl gk (x.extract n x.size) b w' ∧ Kp gl gk W w' := by
  obtain ⟨c1, c2, f1, f2⟩ := tkS h
  have h0 := Lib.hid h
  have HC := Lib.hid (cutl_bstr x n)
  have hnI : (n : Int) ≤ x.size := by omega
  have hzI : (x.size : Int) ≤ 4000 := by omega
  clear h hn hz
  go_enter Try.func91, Try.ntmps91
  go_wp2
  go_ret
  exact ⟨by rw [← HC.out]; rfl, tk_setl _ h0.out, kp_set _ _ _ _ (.inl rfl)⟩
end Go.Proofs.Ytocbdehcjcggeaa
