/- eval.fits, eval.mayBe of any expression. Conditions: how it lies in memory. -/
import Derived.Test.YtkgpcodccpckeaaEt2
namespace Go.Proofs.Ytkgpcodccpckeaa
open Go Go.RowKit
set_option linter.unusedVariables false
set_option linter.unusedSimpArgs false
theorem maxLen_val : maxLen = 9223372036854775807 := by decide
set_option maxRecDepth 100000 in
set_option maxHeartbeats 4000000 in
theorem fits_no20 (m : Nat) (h : 1 < m) (w : World) : Calls Try.prog 40 #[.int .u8 20, .int .i64 m] w fun e w' => e = .returned (.bool (false)) ∧ w = w' := by
  have e1 : ((m : Int) == 1) = false := by simp; omega
  have e0 : ((m : Int) == 0) = false := by simp; omega
  clear h
  go_enter Try.func40, Try.ntmps40
  go_wp2
  go_ret
  exact ⟨rfl, rfl⟩
set_option maxRecDepth 100000 in
set_option maxHeartbeats 4000000 in
theorem fits_y20 (w : World) : Calls Try.prog 40 #[.int .u8 20, .int .i64 1] w fun e w' => e = .returned (.bool (true)) ∧ w = w' := by
  go_enter Try.func40, Try.ntmps40
  go_wp2
  go_ret
  exact ⟨rfl, rfl⟩
set_option maxRecDepth 100000 in
set_option maxHeartbeats 4000000 in
theorem fits_z20 (w : World) : Calls Try.prog 40 #[.int .u8 20, .int .i64 0] w fun e w' => e = .returned (.bool (true)) ∧ w = w' := by
  go_enter Try.func40, Try.ntmps40
  go_wp2
  go_ret
  exact ⟨rfl, rfl⟩
set_option maxRecDepth 100000 in
set_option maxHeartbeats 4000000 in
theorem fits_no1 (m : Nat) (h : ¬ m = 0) (w : World) : Calls Try.prog 40 #[.int .u8 1, .int .i64 m] w fun e w' => e = .returned (.bool (false)) ∧ w = w' := by
  have e0 : ((m : Int) == 0) = false := by simp; omega
  clear h
  go_enter Try.func40, Try.ntmps40
  go_wp2
  go_ret
  exact ⟨rfl, rfl⟩
set_option maxRecDepth 100000 in
set_option maxHeartbeats 4000000 in
theorem fits_no2 (m : Nat) (h : ¬ m = 0) (w : World) : Calls Try.prog 40 #[.int .u8 2, .int .i64 m] w fun e w' => e = .returned (.bool (false)) ∧ w = w' := by
  have e0 : ((m : Int) == 0) = false := by simp; omega
  clear h
  go_enter Try.func40, Try.ntmps40
  go_wp2
  go_ret
  exact ⟨rfl, rfl⟩
set_option maxRecDepth 100000 in
set_option maxHeartbeats 4000000 in
theorem fits_no3 (m : Nat) (h : ¬ m = 1) (w : World) : Calls Try.prog 40 #[.int .u8 3, .int .i64 m] w fun e w' => e = .returned (.bool (false)) ∧ w = w' := by
  have e0 : ((m : Int) == 1) = false := by simp; omega
  clear h
  go_enter Try.func40, Try.ntmps40
  go_wp2
  go_ret
  exact ⟨rfl, rfl⟩
set_option maxRecDepth 100000 in
set_option maxHeartbeats 4000000 in
theorem fits_no4 (m : Nat) (h : ¬ m = 1) (w : World) : Calls Try.prog 40 #[.int .u8 4, .int .i64 m] w fun e w' => e = .returned (.bool (false)) ∧ w = w' := by
  have e0 : ((m : Int) == 1) = false := by simp; omega
  clear h
  go_enter Try.func40, Try.ntmps40
  go_wp2
  go_ret
  exact ⟨rfl, rfl⟩
set_option maxRecDepth 100000 in
set_option maxHeartbeats 4000000 in
theorem fits_no5 (m : Nat) (h : ¬ m = 1) (w : World) : Calls Try.prog 40 #[.int .u8 5, .int .i64 m] w fun e w' => e = .returned (.bool (false)) ∧ w = w' := by
  have e0 : ((m : Int) == 1) = false := by simp; omega
  clear h
  go_enter Try.func40, Try.ntmps40
  go_wp2
  go_ret
  exact ⟨rfl, rfl⟩
set_option maxRecDepth 100000 in
set_option maxHeartbeats 4000000 in
theorem fits_no21 (m : Nat) (h : ¬ m = 1) (w : World) : Calls Try.prog 40 #[.int .u8 21, .int .i64 m] w fun e w' => e = .returned (.bool (false)) ∧ w = w' := by
  have e0 : ((m : Int) == 1) = false := by simp; omega
  clear h
  go_enter Try.func40, Try.ntmps40
  go_wp2
  go_ret
  exact ⟨rfl, rfl⟩
set_option maxRecDepth 100000 in
set_option maxHeartbeats 4000000 in
theorem fits_no22 (m : Nat) (h : ¬ m = 1) (w : World) : Calls Try.prog 40 #[.int .u8 22, .int .i64 m] w fun e w' => e = .returned (.bool (false)) ∧ w = w' := by
  have e0 : ((m : Int) == 1) = false := by simp; omega
  clear h
  go_enter Try.func40, Try.ntmps40
  go_wp2
  go_ret
  exact ⟨rfl, rfl⟩
set_option maxRecDepth 100000 in
set_option maxHeartbeats 4000000 in
theorem fits_no23 (m : Nat) (h : ¬ m = 1) (w : World) : Calls Try.prog 40 #[.int .u8 23, .int .i64 m] w fun e w' => e = .returned (.bool (false)) ∧ w = w' := by
  have e0 : ((m : Int) == 1) = false := by simp; omega
  clear h
  go_enter Try.func40, Try.ntmps40
  go_wp2
  go_ret
  exact ⟨rfl, rfl⟩
set_option maxRecDepth 100000 in
set_option maxHeartbeats 4000000 in
theorem fits_22 (w : World) : Calls Try.prog 40 #[.int .u8 22, .int .i64 1] w fun e w' => e = .returned (.bool (true)) ∧ w = w' := by
  go_enter Try.func40, Try.ntmps40
  go_wp2
  go_ret
  exact ⟨rfl, rfl⟩
set_option maxRecDepth 100000 in
set_option maxHeartbeats 4000000 in
theorem fits_23 (w : World) : Calls Try.prog 40 #[.int .u8 23, .int .i64 1] w fun e w' => e = .returned (.bool (true)) ∧ w = w' := by
  go_enter Try.func40, Try.ntmps40
  go_wp2
  go_ret
  exact ⟨rfl, rfl⟩
set_option maxRecDepth 100000 in
set_option maxHeartbeats 4000000 in
theorem fits_notwo (op : Int) (h1 : 6 ≤ op) (h2 : op ≤ 19) (m : Nat) (h : ¬ m = 2) (w : World) : Calls Try.prog 40 #[.int .u8 op, .int .i64 m] w fun e w' => e = .returned (.bool (false)) ∧ w = w' := by
  have e1 := beq_no (a := op) (b := 1) (by omega)
  have e2 := beq_no (a := op) (b := 2) (by omega)
  have e3 := beq_no (a := op) (b := 3) (by omega)
  have e4 := beq_no (a := op) (b := 4) (by omega)
  have e5 := beq_no (a := op) (b := 5) (by omega)
  have e20 := beq_no (a := op) (b := 20) (by omega)
  have e21 := beq_no (a := op) (b := 21) (by omega)
  have e22 := beq_no (a := op) (b := 22) (by omega)
  have e23 := beq_no (a := op) (b := 23) (by omega)
  have em : ((m : Int) == 2) = false := by simp; omega
  have g1 : decide (6 ≤ op) = true := decide_eq_true h1
  have g2 : decide (op ≤ 19) = true := decide_eq_true h2
  clear h
  go_enter Try.func40, Try.ntmps40
  go_wp2
  go_ret
  exact ⟨rfl, rfl⟩
set_option maxRecDepth 100000 in
set_option maxHeartbeats 4000000 in
theorem fits_low (op : Int) (h1 : op < 1) (m : Nat) (w : World) : Calls Try.prog 40 #[.int .u8 op, .int .i64 m] w fun e w' => e = .returned (.bool (false)) ∧ w = w' := by
  have e1 := beq_no (a := op) (b := 1) (by omega)
  have e2 := beq_no (a := op) (b := 2) (by omega)
  have e3 := beq_no (a := op) (b := 3) (by omega)
  have e4 := beq_no (a := op) (b := 4) (by omega)
  have e5 := beq_no (a := op) (b := 5) (by omega)
  have e20 := beq_no (a := op) (b := 20) (by omega)
  have e21 := beq_no (a := op) (b := 21) (by omega)
  have e22 := beq_no (a := op) (b := 22) (by omega)
  have e23 := beq_no (a := op) (b := 23) (by omega)
  have g1 : decide (6 ≤ op) = false := decide_eq_false (by omega)
  clear h1
  go_enter Try.func40, Try.ntmps40
  go_wp2
  go_ret
  exact ⟨rfl, rfl⟩
set_option maxRecDepth 100000 in
set_option maxHeartbeats 4000000 in
theorem fits_high (op : Int) (h1 : 23 < op) (m : Nat) (w : World) : Calls Try.prog 40 #[.int .u8 op, .int .i64 m] w fun e w' => e = .returned (.bool (false)) ∧ w = w' := by
  have e1 := beq_no (a := op) (b := 1) (by omega)
  have e2 := beq_no (a := op) (b := 2) (by omega)
  have e3 := beq_no (a := op) (b := 3) (by omega)
  have e4 := beq_no (a := op) (b := 4) (by omega)
  have e5 := beq_no (a := op) (b := 5) (by omega)
  have e20 := beq_no (a := op) (b := 20) (by omega)
  have e21 := beq_no (a := op) (b := 21) (by omega)
  have e22 := beq_no (a := op) (b := 22) (by omega)
  have e23 := beq_no (a := op) (b := 23) (by omega)
  have g1 : decide (6 ≤ op) = true := decide_eq_true (by omega)
  have g2 : decide (op ≤ 19) = false := decide_eq_false (by omega)
  clear h1
  go_enter Try.func40, Try.ntmps40
  go_wp2
  go_ret
  exact ⟨rfl, rfl⟩
theorem fits_all (op : Int) (m : Nat) (w : World) : Calls Try.prog 40 #[.int .u8 op, .int .i64 m] w fun e w' => e = .returned (.bool (fitsB op m)) ∧ w = w' := by
  by_cases h20 : op = 20
  · subst h20
    by_cases hm : 1 < m
    · have := fits_no20 m hm w
      rwa [show fitsB 20 m = false by unfold fitsB; simp; omega]
    · rcases (by omega : m = 0 ∨ m = 1) with rfl | rfl
      · exact fits_z20 w
      · exact fits_y20 w
  by_cases h1 : op = 1
  · subst h1
    by_cases hm : m = 0
    · subst hm; exact fits_1 w
    · have := fits_no1 m hm w
      rwa [show fitsB 1 m = false by unfold fitsB; simp; omega]
  by_cases h2 : op = 2
  · subst h2
    by_cases hm : m = 0
    · subst hm; exact fits_2 w
    · have := fits_no2 m hm w
      rwa [show fitsB 2 m = false by unfold fitsB; simp; omega]
  by_cases h3 : op = 3
  · subst h3
    by_cases hm : m = 1
    · subst hm; exact fits_3 w
    · have := fits_no3 m hm w
      rwa [show fitsB 3 m = false by unfold fitsB; simp; omega]
  by_cases h4 : op = 4
  · subst h4
    by_cases hm : m = 1
    · subst hm; exact fits_4 w
    · have := fits_no4 m hm w
      rwa [show fitsB 4 m = false by unfold fitsB; simp; omega]
  by_cases h5 : op = 5
  · subst h5
    by_cases hm : m = 1
    · subst hm; exact fits_5 w
    · have := fits_no5 m hm w
      rwa [show fitsB 5 m = false by unfold fitsB; simp; omega]
  by_cases h21 : op = 21
  · subst h21
    by_cases hm : m = 1
    · subst hm; exact fits_21 w
    · have := fits_no21 m hm w
      rwa [show fitsB 21 m = false by unfold fitsB; simp; omega]
  by_cases h22 : op = 22
  · subst h22
    by_cases hm : m = 1
    · subst hm; exact fits_22 w
    · have := fits_no22 m hm w
      rwa [show fitsB 22 m = false by unfold fitsB; simp; omega]
  by_cases h23 : op = 23
  · subst h23
    by_cases hm : m = 1
    · subst hm; exact fits_23 w
    · have := fits_no23 m hm w
      rwa [show fitsB 23 m = false by unfold fitsB; simp; omega]
  have hF : fitsB op m = decide (6 ≤ op ∧ op ≤ 19 ∧ m = 2) := by
    unfold fitsB
    rw [if_neg h20, if_neg (by omega), if_neg (by omega)]
  rw [hF]
  by_cases h6 : 6 ≤ op ∧ op ≤ 19
  · by_cases hm : m = 2
    · subst hm
      have := fits_two op h6.1 h6.2 w
      rwa [show decide (6 ≤ op ∧ op ≤ 19 ∧ 2 = 2) = true by simp; omega]
    · have := fits_notwo op h6.1 h6.2 m hm w
      rwa [show decide (6 ≤ op ∧ op ≤ 19 ∧ m = 2) = false by simp; omega]
  · rw [show decide (6 ≤ op ∧ op ≤ 19 ∧ m = 2) = false by simp; omega]
    by_cases hl : op < 1
    · exact fits_low op hl m w
    · exact fits_high op (by omega) m w
set_option maxRecDepth 100000 in
set_option maxHeartbeats 4000000 in
theorem may_deep (op : Int) (v : Val) (tb nm : ByteArray) (n : Int) (A : Option Addr) (m c : Nat) (k d : Int) (w : World) (hg : groupedB op = true) (hd : d = 0) :
    Calls Try.prog 30 #[exV ⟨op, v, tb, nm, n, A, m, c⟩, .int .i64 k, .int .i64 d] w fun e w' => e = .returned (.bool false) ∧ Below w.heap.size w w' := by
  have hgc := fun W => grouped_any op W
  rw [hg] at hgc
  have HG := Lib.hid hgc
  have hx := bx_new w ⟨op, v, tb, nm, n, A, m, c⟩
  subst hd
  clear hg hgc
  go_enter Try.func30, Try.ntmps30
  go_wp2_with fail
  refine (HG.out _).mono ?_
  rintro e w2 ⟨rfl, rfl⟩
  go_wp2
  go_ret
  exact ⟨rfl, hx.2⟩
set_option maxRecDepth 100000 in
set_option maxHeartbeats 4000000 in
theorem may_unfit (op : Int) (v : Val) (tb nm : ByteArray) (n : Int) (A : Option Addr) (m c : Nat) (k d d' : Int) (w : World) (g : Bool) (hg : groupedB op = g) (hgd : d' = if g then d - 1 else d) (hd : 0 ≤ d') (hdl : d ≤ 4611686018427387904) (hf : fitsB op m = false) :
    Calls Try.prog 30 #[exV ⟨op, v, tb, nm, n, A, m, c⟩, .int .i64 k, .int .i64 d] w fun e w' => e = .returned (.bool false) ∧ Below w.heap.size w w' := by
  have hgc := fun W => grouped_any op W
  rw [hg] at hgc
  have HG := Lib.hid hgc
  have hff := fun W => fits_all op m W
  rw [hf] at hff
  have HF := Lib.hid hff
  have hx := bx_new w ⟨op, v, tb, nm, n, A, m, c⟩
  have hdw : IntKind.i64.wrap (d - 1) = d - 1 := by rw [IntKind.wrap_i64]; cases g <;> simp at hgd <;> omega
  clear hg hgc hf hff hdl
  cases g
  all_goals
    simp only [↓reduceIte, Bool.false_eq_true] at hgd
    subst hgd
    go_enter Try.func30, Try.ntmps30
    go_wp2_with fail
    refine (HG.out _).mono ?_
    rintro e w2 ⟨rfl, rfl⟩
    go_wp2_with fail
    refine (HF.out _).mono ?_
    rintro e w3 ⟨rfl, rfl⟩
    go_wp2
    go_ret
    exact ⟨rfl, hx.2⟩
set_option maxRecDepth 100000 in
set_option maxHeartbeats 4000000 in
theorem may_collo (v : Val) (tb nm : ByteArray) (n : Int) (A : Option Addr) (c : Nat) (k d : Int) (w : World) (hd : 0 ≤ d) (h0 : n < 0) :
    Calls Try.prog 30 #[exV ⟨2, v, tb, nm, n, A, 0, c⟩, .int .i64 k, .int .i64 d] w fun e w' => e = .returned (.bool false) ∧ Below w.heap.size w w' := by
  have HG := Lib.hid (fun W => grouped_any 2 W)
  have hx := bx_new w ⟨2, v, tb, nm, n, A, 0, c⟩
  have q : decide (n < 0) = true := decide_eq_true h0
  go_enter Try.func30, Try.ntmps30
  go_wp2_with fail
  refine (HG.out _).mono ?_
  rintro e w2 ⟨rfl, rfl⟩
  rw [show groupedB 2 = false from rfl]
  go_wp2_with fail
  refine (fits_2 _).mono ?_
  rintro e w3 ⟨rfl, rfl⟩
  go_wp2
  go_ret
  exact ⟨rfl, hx.2⟩
set_option maxRecDepth 100000 in
set_option maxHeartbeats 4000000 in
theorem may_colhi (v : Val) (tb nm : ByteArray) (n : Int) (A : Option Addr) (c : Nat) (k d : Int) (w : World) (hd : 0 ≤ d) (h0 : 0 ≤ n) (h1 : k ≤ n) :
    Calls Try.prog 30 #[exV ⟨2, v, tb, nm, n, A, 0, c⟩, .int .i64 k, .int .i64 d] w fun e w' => e = .returned (.bool false) ∧ Below w.heap.size w w' := by
  have HG := Lib.hid (fun W => grouped_any 2 W)
  have hx := bx_new w ⟨2, v, tb, nm, n, A, 0, c⟩
  have q : decide (n < 0) = false := decide_eq_false (by omega)
  have q2 : decide (k ≤ n) = true := decide_eq_true h1
  go_enter Try.func30, Try.ntmps30
  go_wp2_with fail
  refine (HG.out _).mono ?_
  rintro e w2 ⟨rfl, rfl⟩
  rw [show groupedB 2 = false from rfl]
  go_wp2_with fail
  refine (fits_2 _).mono ?_
  rintro e w3 ⟨rfl, rfl⟩
  go_wp2
  go_ret
  exact ⟨rfl, hx.2⟩
set_option maxRecDepth 100000 in
set_option maxHeartbeats 4000000 in
theorem may_zero (v : Val) (tb nm : ByteArray) (n : Int) (A : Option Addr) (c : Nat) (k d : Int) (w : World) (hd : 1 ≤ d) (hdl : d ≤ 4611686018427387904) :
    Calls Try.prog 30 #[exV ⟨20, v, tb, nm, n, A, 0, c⟩, .int .i64 k, .int .i64 d] w fun e w' => e = .returned (.bool true) ∧ Below w.heap.size w w' := by
  have HG := Lib.hid (fun W => grouped_any 20 W)
  have hx := bx_new w ⟨20, v, tb, nm, n, A, 0, c⟩
  have hdw : IntKind.i64.wrap (d - 1) = d - 1 := by rw [IntKind.wrap_i64]; omega
  have hd1 : decide (d - 1 < 0) = false := decide_eq_false (by omega)
  clear hdl hd
  go_enter Try.func30, Try.ntmps30
  go_wp2_with fail
  refine (HG.out _).mono ?_
  rintro e w2 ⟨rfl, rfl⟩
  rw [show groupedB 20 = true from rfl]
  go_wp2_with fail
  refine (fits_z20 _).mono ?_
  rintro e w3 ⟨rfl, rfl⟩
  go_wp2
  go_loopw [55] (fun i wr => i = .int .i64 0 ∧ Below w.heap.size w wr) (fun _ _ => 0)
  case atStart => exact ⟨rfl, hx.2⟩
  case round =>
    obtain ⟨rfl, hb⟩ := hrel
    go_wp2
    go_ret
    exact ⟨rfl, hb⟩
set_option maxRecDepth 100000 in
set_option maxHeartbeats 4000000 in
theorem may_nodeG (op : Int) (v : Val) (tb nm : ByteArray) (n : Int) (A : Option Addr) (m c : Nat) (ks : List Ex) (kb : List Bool) (k d d' : Int) (w : World) (g : Bool) (hg : groupedB op = g) (hgd : d' = if g then d - 1 else d) (hd : 0 ≤ d') (hdl : d ≤ 4611686018427387904)
    (h1 : ¬ op = 1) (h2 : ¬ op = 2) (hm : m = ks.length) (hmb : m = kb.length) (hm3 : 0 < m) (hm2 : m ≤ maxLen) (hK : Kids w w.heap.size A ks) (HF : Hid (∀ W, Calls Try.prog 40 #[.int .u8 op, .int .i64 m] W fun e w' => e = .returned (.bool true) ∧ W = w'))
    (hk : ∀ (j : Nat) x b, ks[j]? = some x → kb[j]? = some b → ∀ W, Below w.heap.size w W → Calls Try.prog 30 #[exV x, .int .i64 k, .int .i64 d'] W fun e w' => e = .returned (.bool b) ∧ Below W.heap.size W w') :
    Calls Try.prog 30 #[exV ⟨op, v, tb, nm, n, A, m, c⟩, .int .i64 k, .int .i64 d] w fun e w' => e = .returned (.bool (kb.all id)) ∧ Below w.heap.size w w' := by
  have hgc := fun W => grouped_any op W
  rw [hg] at hgc
  have HG := Lib.hid hgc
  have hx := bx_new w ⟨op, v, tb, nm, n, A, m, c⟩
  have e1 := beq_no h1
  have e2 := beq_no h2
  obtain ⟨b, o, rfl, hbl, hc⟩ := kids_get hK (fun e => by rw [e] at hm; simp at hm; omega)
  have HC := Lib.hid hc
  have HN := Lib.hid (And.intro hm hmb)
  have HK := Lib.hid hk
  have hmI : (m : Int) ≤ 9223372036854775807 := by have := maxLen_val; omega
  have hdw : IntKind.i64.wrap (d - 1) = d - 1 := by rw [IntKind.wrap_i64]; cases g <;> simp at hgd <;> omega
  clear hg hgc h1 h2 hc hm hmb hK hk hm2 hdl
  cases g
  all_goals
    simp only [↓reduceIte, Bool.false_eq_true] at hgd
    subst hgd
    go_enter Try.func30, Try.ntmps30
    go_wp2_with fail
    refine (HG.out _).mono ?_
    rintro e w2 ⟨rfl, rfl⟩
    go_wp2_with fail
    refine (HF.out _).mono ?_
    rintro e w3 ⟨rfl, rfl⟩
    go_wp2
    go_loopw [55] (fun i wr => ∃ j : Nat, j ≤ m ∧ i = .int .i64 j ∧ kb.all id = (kb.drop j).all id ∧ Below w.heap.size w wr) (fun i _ => m - (intOf i).toNat)
    case atStart => exact ⟨0, by omega, rfl, rfl, hx.2⟩
    case round =>
      obtain ⟨j, hj, rfl, heq, hb⟩ := hrel
      by_cases hjm : j < m
      · have hjl : j < ks.length := by have := HN.out.1; omega
        have hjb : j < kb.length := by have := HN.out.2; omega
        obtain ⟨a0, a1, a2, a3, a4, a5, a6, a7⟩ := cells8_below (HC.out j ks[j] (List.getElem?_eq_getElem hjl)) hb hbl
        have hkc := HK.out j ks[j] kb[j] (List.getElem?_eq_getElem hjl) (List.getElem?_eq_getElem hjb)
        have hd : kb.drop j = kb[j] :: kb.drop (j + 1) := List.drop_eq_getElem_cons hjb
        rw [hd, List.all_cons] at heq
        generalize kb[j] = bb at *
        generalize ks[j] = y at *
        obtain ⟨op', v', tb', nm', n', A', m', c'⟩ := y
        simp only at a0 a1 a2 a3 a4 a5 a6 a7
        have HKC := Lib.hid hkc
        have HQ := Lib.hid heq
        have HB := Lib.hid (hb.alloc hb.size (.cells (exC ⟨op', v', tb', nm', n', A', m', c'⟩) 29))
        clear hkc hd heq hb
        go_wp2_with fail
        refine (HKC.out _ HB.out).mono ?_
        rintro e w5 ⟨rfl, hb5⟩
        have HB5 := Lib.hid (bj HB.out hb5)
        clear hb5
        cases bb
        · have HR : Hid (kb.all id = false) := Lib.hid (by rw [HQ.out]; rfl)
          go_wp2
          go_ret
          exact ⟨rbool HR.out.symm, HB5.out⟩
        · have HR : Hid (kb.all id = (kb.drop (j + 1)).all id) := Lib.hid (by rw [HQ.out]; rfl)
          go_wp2
          go_roundw
          case rel => exact ⟨j + 1, by omega, by go_num, HR.out, HB5.out⟩
          case measure => simp [intOf]; omega
      · obtain rfl : j = m := by omega
        have HR : Hid (kb.all id = true) := Lib.hid (by rw [heq, List.drop_of_length_le (by have := HN.out.2; omega)]; rfl)
        clear heq
        go_wp2
        go_ret
        exact ⟨rbool HR.out.symm, hb⟩
theorem all_map (k d : Int) : ∀ l : List XT, mayPL k l d = (l.map fun x => mayP k x d).all id
  | [] => rfl
  | x :: l => by rw [mayPL, List.map_cons, List.all_cons, all_map k d l]; rfl
/-- mayBe, of any expression -/
theorem may_tree (k : Int) (T : XT) : ∀ (w : World) (d : Int), InT w w.heap.size T → 0 ≤ d → d ≤ 4611686018427387904 →
    Calls Try.prog 30 #[exV T.ex, .int .i64 k, .int .i64 d] w fun e w' => e = .returned (.bool (mayP k T d)) ∧ Below w.heap.size w w' := by
  induction T using xt_ind with
  | h op v tb nm n A c ks ih =>
    intro w d hin hd hdl
    cases hin with
    | mk _ _ _ _ _ _ _ _ h0 h1 h2 h3 h4 hk hi =>
    show Calls Try.prog 30 #[exV ⟨op, v, tb, nm, n, A, ks.length, c⟩, .int .i64 k, .int .i64 d] w _
    rw [mayP]
    obtain ⟨g, hg⟩ : ∃ g, groupedB op = g := ⟨_, rfl⟩
    rw [hg]
    obtain ⟨d', hd'⟩ : ∃ d', d' = (if g then d - 1 else d) := ⟨_, rfl⟩
    have e : (if g = true then d - 1 else d) = d' := hd'.symm
    rw [e]
    by_cases hp : 0 ≤ d'
    · rw [show decide (0 ≤ d') = true from decide_eq_true hp, Bool.true_and]
      unfold mayH
      cases hf : fitsB op ks.length
      · exact may_unfit op v tb nm n A ks.length c k d d' w g hg hd' hp hdl hf
      · rw [Bool.true_and]
        by_cases o1 : op = 1
        · subst o1
          have hl : ks.length = 0 := by unfold fitsB at hf; simpa using hf
          obtain rfl := List.length_eq_zero_iff.1 hl
          by_cases hc : chk v = 0
          · rw [show ((decide ¬(1 : Int) = 1 || decide (chk v = 0)) && (decide ¬(1 : Int) = 2 || decide (0 ≤ n ∧ n < k)) && mayPL k [] d') = true by simp [hc, mayPL]]
            exact may_leaf v tb nm n A c k d w h1 hd hc
          · rw [show ((decide ¬(1 : Int) = 1 || decide (chk v = 0)) && (decide ¬(1 : Int) = 2 || decide (0 ≤ n ∧ n < k)) && mayPL k [] d') = false by simp [hc]]
            exact may_bad v tb nm n A c k d w h1 hd hc
        · by_cases o2 : op = 2
          · subst o2
            have hl : ks.length = 0 := by unfold fitsB at hf; simpa using hf
            obtain rfl := List.length_eq_zero_iff.1 hl
            by_cases n0 : 0 ≤ n
            · by_cases nk : n < k
              · rw [show ((decide ¬(2 : Int) = 1 || decide (chk v = 0)) && (decide ¬(2 : Int) = 2 || decide (0 ≤ n ∧ n < k)) && mayPL k [] d') = true by simp [n0, nk, mayPL]]
                exact may_col v tb nm n A c k d w hd n0 nk
              · rw [show ((decide ¬(2 : Int) = 1 || decide (chk v = 0)) && (decide ¬(2 : Int) = 2 || decide (0 ≤ n ∧ n < k)) && mayPL k [] d') = false by simp [n0, nk]]
                exact may_colhi v tb nm n A c k d w hd n0 (by omega)
            · rw [show ((decide ¬(2 : Int) = 1 || decide (chk v = 0)) && (decide ¬(2 : Int) = 2 || decide (0 ≤ n ∧ n < k)) && mayPL k [] d') = false by simp [n0]]
              exact may_collo v tb nm n A c k d w hd (by omega)
          · rw [show ((decide ¬op = 1 || decide (chk v = 0)) && (decide ¬op = 2 || decide (0 ≤ n ∧ n < k)) && mayPL k ks d') = mayPL k ks d' by simp [o1, o2]]
            rcases Nat.eq_zero_or_pos ks.length with hl | hl
            · have o20 : op = 20 := by
                unfold fitsB at hf
                rw [hl] at hf
                by_cases e : op = 20
                · exact e
                · rw [if_neg e, if_neg (by omega)] at hf
                  split at hf <;> simp at hf
              subst o20
              obtain rfl := List.length_eq_zero_iff.1 hl
              have hgt : g = true := hg.symm
              subst hgt
              simp only [↓reduceIte] at hd'
              exact may_zero v tb nm n A c k d w (by omega) hdl
            · rw [all_map]
              refine may_nodeG op v tb nm n A ks.length c (ks.map XT.ex) (ks.map fun x => mayP k x d') k d d' w g hg hd' hp hdl o1 o2 (by simp) (by simp) hl h4 hk (Lib.hid fun W => by have := fits_all op ks.length W; rwa [hf] at this) ?_
              intro j x b hx hb W hW
              rw [List.getElem?_map] at hx hb
              cases hj : ks[j]? with
              | none => rw [hj] at hx; cases hx
              | some y =>
                rw [hj] at hx hb
                simp only [Option.map_some, Option.some.injEq] at hx hb
                subst hx hb
                have hm := List.mem_of_getElem? hj
                exact ih y hm W d' (int_step (hi y hm) hW) hp (by subst hd'; split <;> omega)
    · rw [show decide (0 ≤ d') = false from decide_eq_false hp]
      have hgt : g = true := by cases g <;> simp at hd' <;> first | rfl | omega
      subst hgt
      simp only [↓reduceIte] at hd'
      exact may_deep op v tb nm n A ks.length c k d w hg (by omega)
end Go.Proofs.Ytkgpcodccpckeaa
