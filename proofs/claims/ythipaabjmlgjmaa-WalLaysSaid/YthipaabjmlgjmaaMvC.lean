/- Layer 5: the disk's small functions, New, Cut, Write. Conditions: those of each lemma. -/
import Derived.Test.YthipaabjmlgjmaaMvB
import Derived.Laws.MakeOwn
import Derived.Lib.BufferWrite
import Derived.Test.YthipaabjmlgjmaaWords
import Derived.Test.YthipaabjmlgjmaaShelf
import Derived.Lib.AppendStr
namespace Go.Proofs.Ythipaabjmlgjmaa
open Go.RowKit Go Go.Maps
set_option linter.unusedVariables false
set_option linter.unusedSimpArgs false
theorem rint3 {a b : Int} (h : a = b) : Ending.returned (.int .i64 a) = .returned (.int .i64 b) := by rw [h]
/-- what an operation does, and what it answers -/
def opD (d : Dk) (made : List Ch) : Dk × Int :=
  if (d.ops : Int) = d.power then (d.goes, 32) else if d.armed d.ops ≠ 0 then (d.hits, d.armed d.ops) else ({ doneAll 0 d.op1 made with loose := d.loose ++ made }, 0)
theorem op_any (S : Nat → Prop) (g : Nat) (d : Dk) (N : Nat) (hN : N + 1 ≤ 1000000) (A : Option Addr) (made : List Ch) (n c : Nat) (hn : n = made.length) (hn8 : n ≤ 8192) (hmk : ∀ c ∈ made, ChOk c) (w : World) (hA : ChsAt w A made) (hAS : ∀ a, A = some a → ¬ S a.block) (h : DkS w S g d N) :
    Calls Try.prog 51 #[.pointer (some ⟨g, 0, none⟩), .slice A n c] w fun e w' => e = .returned (.int .i64 (opD d made).2) ∧ DkR w S g (opD d made).1 (N + 1) w' := by
  unfold opD
  by_cases hp : (d.ops : Int) = d.power
  · rw [if_pos hp]; exact op_goes S g d N hN A n c w h hp
  · rw [if_neg hp]
    by_cases ha : d.armed d.ops = 0
    · rw [if_neg (by simpa using ha)]; exact op_ok S g d N hN A made n c hn hn8 hmk w hA hAS h hp ha
    · rw [if_pos ha]; exact op_hits S g d N hN A n c w h hp ha
set_option maxRecDepth 100000 in
set_option maxHeartbeats 4000000 in
theorem known_any (f : Int) (w : World) : Calls Try.prog 44 #[.int .i64 f] w fun e w' => e = .returned (.bool (decide (0 ≤ f) && decide (f < 8))) ∧ w = w' := by
  by_cases h0 : 0 ≤ f
  · by_cases h1 : f < 8
    · have HR := Lib.hid (show (decide (0 ≤ f) && decide (f < 8)) = true by simp [h0, h1])
      go_enter Try.func44, Try.ntmps44
      go_wp2
      go_ret
      first | exact ⟨rfl, rfl⟩ | exact ⟨by rw [HR.out]; rfl, rfl⟩
    · have HR := Lib.hid (show (decide (0 ≤ f) && decide (f < 8)) = false by simp [h1])
      have h2 : decide (f < 8) = false := decide_eq_false h1
      go_enter Try.func44, Try.ntmps44
      go_wp2
      go_ret
      first | exact ⟨rfl, rfl⟩ | exact ⟨by rw [HR.out]; rfl, rfl⟩
  · have HR := Lib.hid (show (decide (0 ≤ f) && decide (f < 8)) = false by simp [h0])
    have h2 : decide (0 ≤ f) = false := decide_eq_false h0
    go_enter Try.func44, Try.ntmps44
    go_wp2
    go_ret
    first | exact ⟨rfl, rfl⟩ | exact ⟨by rw [HR.out]; rfl, rfl⟩
def inF (f : Int) : Bool := decide (0 ≤ f) && decide (f < 8)
theorem known_in (f : Int) (w : World) : Calls Try.prog 44 #[.int .i64 f] w fun e w' => e = .returned (.bool (inF f)) ∧ w = w' := known_any f w
def readyD (d : Dk) (f : Int) : Int := if d.off then 32 else if inF f then 0 else 2
set_option maxRecDepth 100000 in
set_option maxHeartbeats 4000000 in
theorem ready_any (S : Nat → Prop) (g : Nat) (d : Dk) (N : Nat) (f : Int) (w : World) (h : DkS w S g d N) : Calls Try.prog 50 #[.pointer (some ⟨g, 0, none⟩), .int .i64 f] w fun e w' => e = .returned (.int .i64 (readyD d f)) ∧ w = w' := by
  obtain ⟨m, hm⟩ := h
  obtain ⟨y2, y3, y4, y5, y6, z2, z3, z4, z5, z6⟩ := dk_more hm.blk
  clear y2 y3 y4 y5 z2 z3 z4 z5 z6 hm
  unfold readyD
  cases ho : d.off with
  | true =>
    rw [ho] at y6
    clear ho
    go_enter Try.func50, Try.ntmps50
    go_wp2
    go_ret
    exact ⟨rfl, rfl⟩
  | false =>
    rw [ho] at y6
    have HK := Lib.hid (known_in f w)
    clear ho
    cases hk : inF f with
    | true =>
      rw [hk] at HK
      clear hk
      go_enter Try.func50, Try.ntmps50
      go_wp2_with fail
      refine (HK.out).mono ?_
      rintro e w' ⟨rfl, rfl⟩
      go_wp2
      go_ret
      exact ⟨rfl, rfl⟩
    | false =>
      rw [hk] at HK
      clear hk
      go_enter Try.func50, Try.ntmps50
      go_wp2_with fail
      refine (HK.out).mono ?_
      rintro e w' ⟨rfl, rfl⟩
      go_wp2
      go_ret
      exact ⟨rfl, rfl⟩
set_option maxRecDepth 100000 in
set_option maxHeartbeats 4000000 in
theorem ready_nil (f : Int) (w : World) : Calls Try.prog 50 #[.pointer none, .int .i64 f] w fun e w' => e = .returned (.int .i64 1) ∧ w = w' := by
  go_enter Try.func50, Try.ntmps50
  go_wp2
  go_ret
  exact ⟨rfl, rfl⟩
def sizeD (d : Dk) (f : Int) : Int := if inF f then ((d.fl f.toNat).length : Nat) else 0
set_option maxRecDepth 100000 in
set_option maxHeartbeats 4000000 in
theorem size_any (S : Nat → Prop) (g : Nat) (d : Dk) (N : Nat) (f : Int) (w : World) (h : DkS w S g d N) : Calls Try.prog 16 #[.pointer (some ⟨g, 0, none⟩), .int .i64 f] w fun e w' => e = .returned (.int .i64 (sizeD d f)) ∧ w = w' := by
  obtain ⟨m, hm⟩ := h
  have HK := Lib.hid (known_in f w)
  unfold sizeD
  cases hk : inF f with
  | true =>
    rw [hk] at HK
    have hf : 0 ≤ f ∧ f < 8 := by unfold inF at hk; simpa using hk
    obtain ⟨i, rfl⟩ := Int.eq_ofNat_of_zero_le hf.1
    have hi : i < 8 := by omega
    have y0 : w.cell? ⟨g, i * 2, none⟩ = some (.int .i64 ((d.fl i).length : Nat)) := by rw [hm.blk.cell, dkA_get _ _ (by omega), show i * 2 = 2 * i by omega, cell_len _ _ (by omega)]
    have hi8 : (i : Int) < 8 := by omega
    rw [show ((i : Int)).toNat = i from rfl]
    clear hk hf hm
    go_enter Try.func16, Try.ntmps16
    go_wp2_with fail
    refine (HK.out).mono ?_
    rintro e w' ⟨rfl, rfl⟩
    go_wp2
    go_ret
    exact ⟨rfl, rfl⟩
  | false =>
    rw [hk] at HK
    clear hk hm
    go_enter Try.func16, Try.ntmps16
    go_wp2_with fail
    refine (HK.out).mono ?_
    rintro e w' ⟨rfl, rfl⟩
    go_wp2
    go_ret
    exact ⟨rfl, rfl⟩
set_option maxRecDepth 100000 in
set_option maxHeartbeats 4000000 in
theorem size_nil (f : Int) (w : World) : Calls Try.prog 16 #[.pointer none, .int .i64 f] w fun e w' => e = .returned (.int .i64 0) ∧ w = w' := by
  go_enter Try.func16, Try.ntmps16
  go_wp2
  go_ret
  exact ⟨rfl, rfl⟩
set_option maxRecDepth 100000 in
set_option maxHeartbeats 4000000 in
theorem loose_any (S : Nat → Prop) (g : Nat) (d : Dk) (N : Nat) (w : World) (h : DkS w S g d N) : Calls Try.prog 18 #[.pointer (some ⟨g, 0, none⟩)] w fun e w' => e = .returned (.int .i64 (d.loose.length : Nat)) ∧ w = w' := by
  obtain ⟨m, hm⟩ := h
  obtain ⟨y2, y3, y4, y5, y6, z2, z3, z4, z5, z6⟩ := dk_more hm.blk
  clear y3 y4 y5 y6 z2 z3 z4 z5 z6 hm
  go_enter Try.func18, Try.ntmps18
  go_wp2
  go_ret
  exact ⟨rfl, rfl⟩
set_option maxRecDepth 100000 in
set_option maxHeartbeats 4000000 in
theorem ops_any (S : Nat → Prop) (g : Nat) (d : Dk) (N : Nat) (w : World) (h : DkS w S g d N) : Calls Try.prog 15 #[.pointer (some ⟨g, 0, none⟩)] w fun e w' => e = .returned (.int .i64 d.ops) ∧ w = w' := by
  obtain ⟨m, hm⟩ := h
  obtain ⟨y2, y3, y4, y5, y6, z2, z3, z4, z5, z6⟩ := dk_more hm.blk
  clear y2 y3 y4 y6 z2 z3 z4 z5 z6 hm
  go_enter Try.func15, Try.ntmps15
  go_wp2
  go_ret
  exact ⟨rfl, rfl⟩
set_option maxRecDepth 100000 in
set_option maxHeartbeats 4000000 in
theorem on_any (S : Nat → Prop) (g : Nat) (d : Dk) (N : Nat) (w : World) (h : DkS w S g d N) : Calls Try.prog 27 #[.pointer (some ⟨g, 0, none⟩)] w fun e w' => e = .returned (.bool !d.off) ∧ w = w' := by
  obtain ⟨m, hm⟩ := h
  obtain ⟨y2, y3, y4, y5, y6, z2, z3, z4, z5, z6⟩ := dk_more hm.blk
  clear y2 y3 y4 y5 z2 z3 z4 z5 z6 hm
  go_enter Try.func27, Try.ntmps27
  go_wp2
  go_ret
  exact ⟨rfl, rfl⟩
set_option maxRecDepth 100000 in
set_option maxHeartbeats 4000000 in
theorem loose_nil (w : World) : Calls Try.prog 18 #[.pointer none] w fun e w' => e = .returned (.int .i64 0) ∧ w = w' := by
  go_enter Try.func18, Try.ntmps18
  go_wp2
  go_ret
  exact ⟨rfl, rfl⟩
set_option maxRecDepth 100000 in
set_option maxHeartbeats 4000000 in
theorem ops_nil (w : World) : Calls Try.prog 15 #[.pointer none] w fun e w' => e = .returned (.int .i64 0) ∧ w = w' := by
  go_enter Try.func15, Try.ntmps15
  go_wp2
  go_ret
  exact ⟨rfl, rfl⟩
set_option maxRecDepth 100000 in
set_option maxHeartbeats 4000000 in
theorem on_nil (w : World) : Calls Try.prog 27 #[.pointer none] w fun e w' => e = .returned (.bool false) ∧ w = w' := by
  go_enter Try.func27, Try.ntmps27
  go_wp2
  go_ret
  exact ⟨rfl, rfl⟩
end Go.Proofs.Ythipaabjmlgjmaa
namespace Go.Proofs.Ythipaabjmlgjmaa
open Go.RowKit Go Go.Maps
set_option linter.unusedVariables false
set_option linter.unusedSimpArgs false
def newD : Dk := ⟨fun _ => [], [], fun _ => 0, -1, 0, false⟩
def newM (ga : Nat) : Mm := ⟨fun _ => none, ga, none, 0⟩
theorem new_at (w : World) (W : World) (hblk : Blk W (w.heap.size + 1) 70 (dkA newD (newM w.heap.size))) (hmap : W.ownsMap (H := Value) Try.prog 3 (plainElem Try.prog 25) w.heap.size 0 (.map [])) :
    DkAt W (fun b => b = w.heap.size ∨ b = w.heap.size + 1) (w.heap.size + 1) (newM w.heap.size) newD 0 := by
  refine { blk := hblk, fl := fun i hi => ?_, ok := fun i hi => ?_, ap := fun i j hi hj hij b hb => ?_, arm := ⟨_, 0, Nat.le_refl _, hmap, fun k => rfl⟩, ga := fun i hi e => ?_, loo := World.ownsRow_nil _ _ _ _, chs := fun c hc => ?_, ng := fun z hz => ?_, sg := .inr rfl, sm := fun i hi b e => ?_, sa := .inl rfl, sl := fun z hz => ?_, lt := fun b hb => ?_, cN := ⟨Nat.le_refl _, Nat.le_refl _, by omega⟩, pw := ⟨by decide, by decide⟩ }
  · intro j hj
    exact absurd hj (Nat.not_lt_zero j)
  · exact ⟨Nat.zero_le _, fun s hs => absurd hs (List.not_mem_nil)⟩
  · cases hb
  · cases e
  · cases hc
  · cases hz
  · cases e
  · cases hz
  · rcases hb with rfl | rfl
    · exact hmap.lt
    · exact hblk.lt
set_option maxRecDepth 100000 in
set_option maxHeartbeats 4000000 in
theorem new_any (w : World) : Calls Try.prog 7 #[] w fun e w' => e = .returned (.pointer (some ⟨w.heap.size + 1, 0, none⟩)) ∧ DkS w' (fun b => b = w.heap.size ∨ b = w.heap.size + 1) (w.heap.size + 1) newD 0 ∧ Below w.heap.size w w' := by
  have hmm := @run_makeMap Try.prog
  go_enter Try.func7, Try.ntmps7
  go_wp2
  go_ret
  refine ⟨rfl, ⟨_, new_at w _ ?_ ?_⟩, bj one_alloc one_alloc⟩
  · exact blk_new _ _ _ _ (by simp)
  · exact (World.ownsMap_made w Try.prog 3 _).alloc _
def powerD (d : Dk) (n : Int) : Dk × Int := if n < 0 ∨ 1099511627776 < n then (d, 2) else ({ d with power := d.ops + n }, 0)
theorem dkA_pow (d : Dk) (m : Mm) (p : Int) : (dkA d m).setIfInBounds 34 (.int .i64 p) = dkA { d with power := p } m := by
  refine dkA_set _ _ fun k hk => ?_
  by_cases e : k = 34
  · subst e; rfl
  · rw [if_neg e]
    unfold dkCell
    by_cases h1 : k < 32
    · rw [if_pos h1, if_pos h1]
    · rw [if_neg h1, if_neg h1]
      by_cases e2 : k = 32
      · subst e2; rfl
      · rw [if_neg e2, if_neg e2]
        by_cases e3 : k = 33
        · subst e3; rfl
        · rw [if_neg e3, if_neg e3, if_neg e, if_neg e]
theorem pow_at {w : World} {S : Nat → Prop} {g : Nat} {m : Mm} {d : Dk} {N : Nat} (h : DkAt w S g m d N) (p : Int) (hp : -1 ≤ p ∧ p ≤ 2000000000000) : DkAt (w.setCell ⟨g, 34, none⟩ (.int .i64 p)) S g m { d with power := p } N :=
  dkAt_field h { d with power := p } N rfl rfl rfl (by rw [← dkA_pow d m p]; exact h.blk.set_ 34 _) (fr_one _ _ _ _) ⟨h.cN.1, Nat.le_refl _, h.cN.2.2⟩ hp
theorem dkR_refl {w : World} {S : Nat → Prop} {g : Nat} {d : Dk} {N : Nat} (h : DkS w S g d N) : DkR w S g d N w := ⟨S, h, fr_refl _ _, fun _ hb => .inl hb⟩
def armD (d : Dk) (n e : Int) : Dk × Int := if n < 0 ∨ 1099511627776 < n ∨ (e ≠ 30 ∧ e ≠ 31) then (d, 2) else ({ d with armed := fun k => if k = d.ops + n then e else d.armed k }, 0)
theorem arm_put {W : World} {S : Nat → Prop} {g : Nat} {m : Mm} {d : Dk} {N : Nat} (h : DkAt W S g m d N) (hN : N + 1 ≤ 1000000) (k e : Int) (h0 : -9223372036854775808 ≤ k) (h1 : k ≤ 9223372036854775807) (he : 0 ≤ e ∧ e ≤ 1000) :
    ∃ W', (Instr.mapUpdate 63 (.map (some m.ga)) (.int .i64 k) (.int .i64 e)).run Try.prog W = .ok () W' ∧ DkAt W' S g m { d with armed := fun j => if j = k then e else d.armed j } (N + 1) ∧ Fr (fun b => some m.ga = some b) W W' := by
  obtain ⟨D, n, hn, ho, hk⟩ := h.arm
  have hcN := h.cN
  obtain ⟨W', hrun, hown', hT⟩ := ho.store keyed Try.underlying63 (by unfold maxLen; omega) (key := .int .i64 k) (val := .int .i64 e) (key_int k h0 h1) (d := .lit (.int .i64 e)) (ps := []) (plainElem_int Try.underlying25 (by
    have e3 : IntKind.i64.min = -9223372036854775808 := rfl
    have e4 : IntKind.i64.max = 9223372036854775807 := rfl
    simp [Lit.wf, e3, e4]; omega))
  have hfr : Fr (fun b => some m.ga = some b) W W' := fr_grown (fr_refl _ _) hT.grown (fun z hz => .inl hz)
  refine ⟨W', hrun, dkAt_arm h _ (N + 1) ⟨by omega, hN⟩ ⟨_, n + 1, by omega, hown', fun j => ?_⟩ hfr, hfr⟩
  by_cases e2 : j = k
  · subst e2; rw [Maps.atKey_put_same ho.isMap (ki_key _), if_pos rfl]
  · rw [Maps.atKey_put_other (fun e3 => e2 (ki_inj e3)), if_neg e2]; exact hk j
theorem dkS_more {w : World} {S : Nat → Prop} {g : Nat} {d : Dk} {N : Nat} (h : DkS w S g d N) (hN : N + 1 ≤ 1000000) : DkS w S g d (N + 1) := by
  obtain ⟨m, hm⟩ := h
  have hcN := hm.cN
  obtain ⟨D, n, hn, ho, hk⟩ := hm.arm
  exact ⟨m, { hm with arm := ⟨D, n, by omega, ho, hk⟩, cN := ⟨by omega, by omega, hN⟩ }⟩
end Go.Proofs.Ythipaabjmlgjmaa
namespace Go.Proofs.Ythipaabjmlgjmaa
open Go.RowKit Go Go.Maps
set_option linter.unusedVariables false
set_option linter.unusedSimpArgs false
def cutC (f n : Nat) : Ch := ⟨f, n, true, zS⟩
def cutD (d : Dk) (f n : Int) : Dk × Int :=
  if readyD d f ≠ 0 then (d, readyD d f) else if n < 0 ∨ (sizeD d f) < n then (d, 5) else opD d [cutC f.toNat n.toNat]
theorem ready_ok {d : Dk} {f : Int} (h : readyD d f = 0) : d.off = false ∧ inF f = true ∧ 0 ≤ f ∧ f < 8 := by
  unfold readyD at h
  cases ho : d.off with
  | true => rw [ho] at h; simp at h
  | false =>
    rw [ho] at h
    cases hi : inF f with
    | false => rw [hi] at h; simp at h
    | true =>
      have : 0 ≤ f ∧ f < 8 := by unfold inF at hi; simpa using hi
      exact ⟨rfl, rfl, this.1, this.2⟩
theorem one_chs (w : World) (c : Ch) (cs : Array Value) (hcs : cs = (chL c).toArray) : ChsAt (w.alloc (.cells cs 99)) (some ⟨w.heap.size, 0, none⟩) [c] := by
  subst hcs
  refine .inr ⟨w.heap.size, 0, rfl, by simp, fun j x hj k v hv => ?_⟩
  have hj0 : j = 0 := by
    rcases j with _ | j
    · rfl
    · simp at hj
  subst hj0
  simp at hj
  subst hj
  rw [(Blk.new w 99 (chL c).toArray).cell]
  simpa using hv
theorem cutC_ok {f n : Nat} (hf : f < 8) (hn : n ≤ 8192) : ChOk (cutC f n) := ⟨hf, hn, (fun h => by cases h), zS_ok⟩
set_option maxRecDepth 100000 in
set_option maxHeartbeats 4000000 in
theorem cut_any (S : Nat → Prop) (g : Nat) (d : Dk) (N : Nat) (hN : N + 1 ≤ 1000000) (f n : Int) (w : World) (h : DkS w S g d N) : Calls Try.prog 76 #[.pointer (some ⟨g, 0, none⟩), .int .i64 f, .int .i64 n] w fun e w' => e = .returned (.int .i64 (cutD d f n).2) ∧ DkR w S g (cutD d f n).1 (N + 1) w' := by
  have HRD := Lib.hid (ready_any S g d N f w h)
  have HB0 := Lib.hid (dkR_refl (dkS_more h hN))
  unfold cutD
  by_cases hr : readyD d f = 0
  · rw [if_neg (by simpa using hr)]
    obtain ⟨ho, hif, hf0, hf8⟩ := ready_ok hr
    obtain ⟨i, rfl⟩ := Int.eq_ofNat_of_zero_le hf0
    have hi : i < 8 := by omega
    obtain ⟨m, hm⟩ := id h
    have hs : sizeD d i = ((d.fl i).length : Nat) := by unfold sizeD; rw [hif]; rfl
    have y0 : w.cell? ⟨g, i * 2, none⟩ = some (.int .i64 ((d.fl i).length : Nat)) := by rw [hm.blk.cell, dkA_get _ _ (by omega), show i * 2 = 2 * i by omega, cell_len _ _ (by omega)]
    have hl8 := (hm.ok i (by omega)).1
    rw [hs, show ((i : Int)).toNat = i from rfl]
    rw [hr] at HRD
    generalize hL : (d.fl i).length = L at *
    clear hL hs hif ho hr
    by_cases h0 : n < 0
    · rw [if_pos (.inl h0)]
      have h0b : decide (n < 0) = true := decide_eq_true h0
      clear hm h
      go_enter Try.func76, Try.ntmps76
      go_wp2_with fail
      refine (HRD.out).mono ?_
      rintro e w' ⟨rfl, rfl⟩
      go_wp2
      go_ret
      exact ⟨rfl, HB0.out⟩
    obtain ⟨k, rfl⟩ := Int.eq_ofNat_of_zero_le (show 0 ≤ n by omega)
    have h0b : decide ((k : Int) < 0) = false := decide_eq_false h0
    by_cases h1 : L < k
    · rw [if_pos (.inr (by omega))]
      have h1b : decide (L < k) = true := decide_eq_true h1
      have h1c : decide ((L : Int) < k) = true := decide_eq_true (by omega)
      clear hm h
      go_enter Try.func76, Try.ntmps76
      go_wp2_with fail
      refine (HRD.out).mono ?_
      rintro e w' ⟨rfl, rfl⟩
      go_wp2
      go_ret
      exact ⟨rfl, HB0.out⟩
    · rw [if_neg (by omega), show ((k : Int)).toNat = k from rfl]
      have h1b : decide (L < k) = false := decide_eq_false h1
      have h1c : decide ((L : Int) < k) = false := decide_eq_false (by omega)
      have hws : ¬ S w.heap.size := fun e => by have := hm.lt _ e; omega
      have HOP := Lib.hid (fun cs (hcs : cs = (chL (cutC i k)).toArray) => op_any S g d N hN (some ⟨w.heap.size, 0, none⟩) [cutC i k] 1 1 rfl (by omega) (fun c hc => by rw [List.mem_singleton.1 hc]; exact cutC_ok hi (by omega)) _ (one_chs w (cutC i k) cs hcs) (fun a ha => by injection ha with ha; subst ha; exact hws) (dkS_below h one_alloc))
      clear hm h hws
      go_enter Try.func76, Try.ntmps76
      go_wp2_with fail
      refine (HRD.out).mono ?_
      rintro e w' ⟨rfl, rfl⟩
      go_wp2_with fail
      with_reducible refine (HOP.out _ ?hcs).mono ?_
      case hcs => kernel_rfl
      rintro e w' ⟨rfl, hR⟩
      have HR := Lib.hid (show DkR w S g (opD d [cutC i k]).1 (N + 1) w' by
        obtain ⟨S', k1, k2, k3⟩ := hR
        exact ⟨S', k1, fr_trans (fr_of one_alloc) k2 (fun b hb => .inl hb), fun b hb => by
          rcases k3 b hb with h4 | h4
          · exact .inl h4
          · exact .inr (Nat.le_trans (by simp) h4)⟩)
      clear hR
      go_wp2
      go_ret
      exact ⟨rfl, HR.out⟩
  · rw [if_pos hr]
    have hne : (readyD d f != 0) = true := by rw [bne_iff_ne]; exact hr
    generalize readyD d f = E at *
    clear h hr
    go_enter Try.func76, Try.ntmps76
    go_wp2_with fail
    refine (HRD.out).mono ?_
    rintro e w' ⟨rfl, rfl⟩
    go_wp2
    go_ret
    exact ⟨rfl, HB0.out⟩
end Go.Proofs.Ythipaabjmlgjmaa
namespace Go.Proofs.Ythipaabjmlgjmaa
open Go.RowKit Go Go.Maps
set_option linter.unusedVariables false
set_option linter.unusedSimpArgs false
/-- the sector that a Write of s writes q-th -/
def wrC (f pl : Nat) (s : ByteArray) (q : Nat) : Ch := ⟨f, pl + q, false, ((bts s).drop (q * 64)).take 64⟩
def wrL (f pl : Nat) (s : ByteArray) : List Ch := (List.range (s.size / 64)).map (wrC f pl s)
def writeD (d : Dk) (f pl : Int) (s : ByteArray) : Dk × Int :=
  if readyD d f ≠ 0 then (d, readyD d f) else if s.size / 64 = 0 ∨ s.size % 64 ≠ 0 then (d, 2)
  else if pl < 0 ∨ 8192 < s.size / 64 ∨ 8192 - (s.size / 64 : Nat) < pl then (d, 5) else opD d (wrL f.toNat pl.toNat s)
theorem wrC_ok {f pl q : Nat} {s : ByteArray} (hf : f < 8) (hp : pl + q < 8192) (hq : q * 64 + 64 ≤ s.size) : ChOk (wrC f pl s q) := by
  refine ⟨hf, by show pl + q ≤ _; omega, fun _ => hp, ?_, fun x hx => ?_⟩
  · show (((bts s).drop (q * 64)).take 64).length = 64
    rw [List.length_take, List.length_drop, bts_length]; omega
  · have h1 := List.mem_of_mem_drop (List.mem_of_mem_take hx)
    obtain ⟨i, hi, rfl⟩ := List.mem_iff_getElem.1 h1
    have := bts_getD_lt s i
    rwa [List.getD_eq_getElem?_getD, List.getElem?_eq_getElem hi] at this
theorem blk_setCells {t : TypeId} {b : Nat} : ∀ (vs : List Value) (o : Nat) (W : World) (cur : Array Value), Blk W b t cur → o + vs.length ≤ cur.size →
    ∃ cur', Blk (W.setCells b o vs) b t cur' ∧ cur'.size = cur.size ∧ (∀ k, k < o ∨ o + vs.length ≤ k → cur'[k]? = cur[k]?) ∧ (∀ k, k < vs.length → cur'[o + k]? = vs[k]?)
  | [], o, W, cur, h, _ => ⟨cur, h, rfl, fun _ _ => rfl, fun k hk => absurd hk (Nat.not_lt_zero k)⟩
  | v :: r, o, W, cur, h, hl => by
    rw [List.length_cons] at hl
    obtain ⟨cur', h1, h2, h3, h4⟩ := blk_setCells r (o + 1) (W.setCell ⟨b, o, none⟩ v) (cur.setIfInBounds o v) (h.set_ o v) (by simp; omega)
    refine ⟨cur', h1, by simpa using h2, fun k hk => ?_, fun k hk => ?_⟩
    · rw [List.length_cons] at hk
      rw [h3 k (by omega), Array.getElem?_setIfInBounds, if_neg (by omega)]
    · rw [List.length_cons] at hk
      rcases k with _ | k
      · rw [h3 (o + 0) (by omega), Array.getElem?_setIfInBounds, if_pos (by omega), if_pos (by omega)]; rfl
      · have := h4 k (by omega)
        rw [show o + (k + 1) = o + 1 + k by omega, this]; rfl
theorem fr_setCells {b : Nat} : ∀ (vs : List Value) (o : Nat) (W : World), Fr (fun x => x = b) W (W.setCells b o vs)
  | [], _, _ => fr_refl _ _
  | v :: r, o, W => fr_trans (fr_one W b o v) (fr_setCells r (o + 1) _) (fun x hx => .inl hx)
theorem fr_setRow (W : World) (b : Nat) (cs : Array Value) : Fr (fun x => x = b) W (W.setRow b cs) :=
  ⟨rfl, rfl, rfl, by simp [World.setRow], fun k hk hS => by
    simp only [World.setRow, Array.getElem?_modify]
    rw [if_neg (fun e => hS e.symm)]⟩
theorem blk_setRow {W : World} {b : Nat} {t : TypeId} {cur : Array Value} (h : Blk W b t cur) (cs : Array Value) : Blk (W.setRow b cs) b t cs := by
  unfold Blk at h ⊢
  simp [World.setRow, Array.getElem?_modify, h]
/-- what is made, up to the j-th -/
def MkIs (f pl : Nat) (s : ByteArray) (n j : Nat) (cur : Array Value) : Prop := cur.size = n * 67 ∧ ∀ q r u, q < j → (chL (wrC f pl s q))[r]? = some u → cur[q * 67 + r]? = some u
theorem run_copy_min {P : Program} (w : World) (dT sT ty elem : TypeId) (g o dLen dCap n : Nat) (s : ByteArray) (cur : Array Value) (t : TypeId)
    (hu : P.underlying dT = some (.slice elem)) (hs : (P.info? elem).map (·.size) = some 1) (hg : w.heap[g]? = some (.cells cur t (0, 0))) (hn : Nat.min s.size dLen = n) (hfit : o + n ≤ cur.size) :
    (Builtin.copy_ #[dT, sT] ty #[.slice (some ⟨g, o, none⟩) dLen dCap, .string s]).run P w =
      .ok (goInt n) (w.setRow g (cur.toList.take o ++ Lib.byteCells (s.data.toList.take n) ++ cur.toList.drop (o + n)).toArray) := by
  have hns : n ≤ s.size := by rw [← hn]; exact Nat.min_le_left _ _
  have hlen : (Lib.byteCells (s.data.toList.take n)).length = n := by
    rw [Lib.byteCells_length, List.length_take, ← Lib.size_eq]; omega
  have hst := run_storeCells_at P g o t (Lib.byteCells (s.data.toList.take n)) 0 cur w hg (by rw [hlen]; simpa using hfit) (Lib.byteCells_one _)
  have htk : List.take n (List.map (fun b : UInt8 => Value.int IntKind.u8 (b.toNat : Int)) s.data.toList) = Lib.byteCells (s.data.toList.take n) := by
    rw [← List.map_take]
    rfl
  rw [hlen] at hst
  simp only [Nat.add_zero] at hst
  cases hq : P.info? elem with
  | none => simp [hq] at hs
  | some i =>
    simp [Builtin.copy_, run_underlying hu, Builtin.lenOf, Builtin.firstCells, sizeOf, typeInfo, hq, hn]
    rw [htk, hst]
    simp [Result.andThen]
theorem step_copy {P : Program} {ops : Array Oper} {op : Oper} {a : Act} {w : World} {K : Act → World → Prop} {Q : Exit → Act → World → Prop} {E : Prop}
    (hgd : op.guard = none) (x y : Operand) (dT sT elem : TypeId) (hop : op.op = .call { callee := .builtin .copy, args := #[x, y], argTypes := #[dT, sT] })
    (g o dLen dCap n : Nat) (s : ByteArray) (cur : Array Value) (t : TypeId) (hx : a.eval x = .slice (some ⟨g, o, none⟩) dLen dCap) (hy : a.eval y = .string s)
    (hu : P.underlying dT = some (.slice elem)) (hs : (P.info? elem).map (·.size) = some 1) (hg : w.heap[g]? = some (.cells cur t (0, 0))) (hn : Nat.min s.size dLen = n) (hfit : o + n ≤ cur.size)
    (h : K (a.put op.dst (goInt n)) (w.setRow g (cur.toList.take o ++ Lib.byteCells (s.data.toList.take n) ++ cur.toList.drop (o + n)).toArray)) :
    if Region.wanted op (yielded ops a.tmps) = true then Oper.wp P op a w K Q else E := by
  have hw : Region.wanted op (yielded ops a.tmps) = true := by simp [Region.wanted, hgd]
  rw [if_pos hw]
  have hrun := run_copy_min (P := P) w dT sT op.type elem g o dLen dCap n s cur t hu hs hg hn hfit
  unfold Oper.wp execOp
  simp only [hop, resolve, invoke, builtin, Sem.run_bind, Sem.run_pure, Result.andThen_ok, List.map_toArray, List.map_cons, List.map_nil, hx, hy, hrun]
  exact h
/-- behind the store of the j-th, and the copy of its bytes -/
theorem mk_step {f pl n j b : Nat} {s : ByteArray} {W : World} {cur : Array Value} (hb : Blk W b 99 cur) (h : MkIs f pl s n j cur) (hj : j < n) (hs : j * 64 + 64 ≤ s.size) :
    ∃ cur', Blk (W.setCells b (j * 67) (chL ⟨f, pl + j, false, zS⟩)) b 99 cur' ∧ cur'.size = n * 67 ∧
      ∀ bs : List Value, bs = vals8 (((bts s).drop (j * 64)).take 64) → MkIs f pl s n (j + 1) (cur'.toList.take (j * 67 + 3) ++ bs ++ cur'.toList.drop (j * 67 + 3 + 64)).toArray := by
  have hz : (chL ⟨f, pl + j, false, zS⟩).length = 67 := rfl
  have h67 : j * 67 + 67 ≤ n * 67 := by omega
  obtain ⟨cur', h1, h2, h3, h4⟩ := blk_setCells (t := 99) (chL ⟨f, pl + j, false, zS⟩) (j * 67) W cur hb (by rw [hz, h.1]; exact h67)
  rw [hz] at h3 h4
  refine ⟨cur', h1, by rw [h2, h.1], fun bs hbs => ?_⟩
  have hbl : bs.length = 64 := by rw [hbs, vals8_length, List.length_take, List.length_drop, bts_length]; omega
  have hcs : cur'.toList.length = n * 67 := by rw [Array.length_toList, h2, h.1]
  refine ⟨by simp [hbl, hcs]; omega, fun q r u hq hu => ?_⟩
  have hr : r < 67 := by
    have h5 := (List.getElem?_eq_some_iff.1 hu).1
    have h6 : (chL (wrC f pl s q)).length ≤ 67 := by
      show (vals8 (((bts s).drop (q * 64)).take 64)).length + 1 + 1 + 1 ≤ 67
      rw [vals8_length, List.length_take]; omega
    omega
  rw [List.getElem?_toArray]
  by_cases hqj : q = j
  · subst hqj
    by_cases h5 : r < 3
    · rw [List.append_assoc, List.getElem?_append_left (by rw [List.length_take, hcs]; omega), List.getElem?_take, if_pos (by omega), Array.getElem?_toList, h4 r (by omega), ← hu]
      match r, h5 with
      | 0, _ => rfl
      | 1, _ => rfl
      | 2, _ => rfl
    · rw [List.getElem?_append_left (by rw [List.length_append, List.length_take, hcs, hbl]; omega), List.getElem?_append_right (by rw [List.length_take, hcs]; omega), List.length_take, hcs, hbs, ← hu]
      rw [show q * 67 + r - min (q * 67 + 3) (n * 67) = r - 3 by omega]
      obtain ⟨k, rfl⟩ : ∃ k, r = k + 3 := ⟨r - 3, by omega⟩
      rfl
  · have hqj' : q < j := by omega
    have h6 : q * 67 + 67 ≤ j * 67 := by omega
    rw [List.append_assoc, List.getElem?_append_left (by rw [List.length_take, hcs]; omega), List.getElem?_take, if_pos (by omega), Array.getElem?_toList, h3 _ (by omega)]
    exact h.2 q r u hqj' hu
theorem mk_all {f pl n b : Nat} {s : ByteArray} {W : World} {cur : Array Value} (hb : Blk W b 99 cur) (h : MkIs f pl s n n cur) (hn : n = s.size / 64) : ChsAt W (some ⟨b, 0, none⟩) (wrL f pl s) := by
  refine .inr ⟨b, 0, rfl, hb.lt, fun j c hj k v hv => ?_⟩
  unfold wrL at hj
  rw [List.getElem?_map] at hj
  have hjn : j < s.size / 64 := by
    rcases Nat.lt_or_ge j (s.size / 64) with h1 | h1
    · exact h1
    · rw [List.getElem?_eq_none (by simpa using h1)] at hj; cases hj
  rw [List.getElem?_range hjn] at hj
  simp at hj
  subst hj
  rw [hb.cell, show 0 + j * 67 + k = j * 67 + k by omega]
  exact h.2 j k v (by omega) hv
end Go.Proofs.Ythipaabjmlgjmaa
namespace Go.Proofs.Ythipaabjmlgjmaa
open Go.RowKit Go Go.Maps
set_option linter.unusedVariables false
set_option linter.unusedSimpArgs false
theorem quo64 (s : ByteArray) {n r : Nat} (hn : s.size / 64 = n) (hr : s.size % 64 = r) : (s.size : Int) / 64 = n ∧ (s.size : Int) % 64 = r := by omega
set_option maxRecDepth 100000 in
set_option maxHeartbeats 4000000 in
theorem write_err (S : Nat → Prop) (g : Nat) (d : Dk) (N : Nat) (f pl : Int) (s : ByteArray) (hs : s.size ≤ 140737488351232) (w : World) (h : DkS w S g d N) (e0 : Int) (he : (readyD d f ≠ 0 ∧ e0 = readyD d f) ∨ (readyD d f = 0 ∧ (s.size / 64 = 0 ∨ s.size % 64 ≠ 0) ∧ e0 = 2) ∨ (readyD d f = 0 ∧ ¬ (s.size / 64 = 0 ∨ s.size % 64 ≠ 0) ∧ (pl < 0 ∨ 8192 < s.size / 64 ∨ 8192 - (s.size / 64 : Nat) < pl) ∧ e0 = 5)) :
    Calls Try.prog 22 #[.pointer (some ⟨g, 0, none⟩), .int .i64 f, .int .i64 pl, .string s] w fun e w' => e = .returned (.int .i64 e0) ∧ w = w' := by
  have HRD := Lib.hid (ready_any S g d N f w h)
  clear h
  obtain ⟨n, hn⟩ : ∃ n, s.size / 64 = n := ⟨_, rfl⟩
  obtain ⟨r, hr⟩ : ∃ r, s.size % 64 = r := ⟨_, rfl⟩
  obtain ⟨hq, hq2⟩ := quo64 s hn hr
  have hsI : (s.size : Int) ≤ 140737488351232 := by omega
  rw [hn, hr] at he
  have hn2 : (n : Int) ≤ 140737488351232 := by omega
  rcases he with ⟨h1, rfl⟩ | ⟨h1, h2, rfl⟩ | ⟨h1, h2, h3, rfl⟩
  · have hne : (readyD d f != 0) = true := by rw [bne_iff_ne]; exact h1
    generalize readyD d f = E at *
    clear h1
    go_enter Try.func22, Try.ntmps22
    go_wp2_with fail
    refine (HRD.out).mono ?_
    rintro e w' ⟨rfl, rfl⟩
    go_wp2
    go_ret
    exact ⟨rfl, rfl⟩
  · rw [h1] at HRD
    clear h1
    by_cases h0 : n = 0
    · subst h0
      clear hn hr hs h2
      go_enter Try.func22, Try.ntmps22
      go_wp2_with fail
      refine (HRD.out).mono ?_
      rintro e w' ⟨rfl, rfl⟩
      go_wp2
      go_ret
      exact ⟨rfl, rfl⟩
    · have hr0 : ¬ r = 0 := by omega
      have b0 : ((n : Int) == 0) = false := by rw [beq_eq_false_iff_ne]; omega
      have b1 : ((r : Int) != 0) = true := by rw [bne_iff_ne]; omega
      have hrp : (0 : Int) < r := by omega
      clear hn hr hs h2
      go_enter Try.func22, Try.ntmps22
      go_wp2_with fail
      refine (HRD.out).mono ?_
      rintro e w' ⟨rfl, rfl⟩
      go_wp2
      go_ret
      exact ⟨rfl, rfl⟩
  · rw [h1] at HRD
    clear h1
    have h0 : ¬ n = 0 := by omega
    obtain rfl : r = 0 := by omega
    have b0 : ((n : Int) == 0) = false := by rw [beq_eq_false_iff_ne]; omega
    by_cases c1 : pl < 0
    · have b2 : decide (pl < 0) = true := decide_eq_true c1
      clear hn hr hs h2 h3
      go_enter Try.func22, Try.ntmps22
      go_wp2_with fail
      refine (HRD.out).mono ?_
      rintro e w' ⟨rfl, rfl⟩
      go_wp2
      go_ret
      exact ⟨rfl, rfl⟩
    have b2 : decide (pl < 0) = false := decide_eq_false c1
    by_cases c2 : 8192 < n
    · have b3 : decide ((8192 : Int) < n) = true := decide_eq_true (by omega)
      have b3n : decide (8192 < n) = true := decide_eq_true c2
      have c2I : (8192 : Int) < n := by omega
      clear hn hr hs h2 h3
      go_enter Try.func22, Try.ntmps22
      go_wp2_with fail
      refine (HRD.out).mono ?_
      rintro e w' ⟨rfl, rfl⟩
      go_wp2
      go_ret
      exact ⟨rfl, rfl⟩
    · have b3 : decide ((8192 : Int) < n) = false := decide_eq_false (by omega)
      have b3n : decide (8192 < n) = false := decide_eq_false c2
      have c2I : (n : Int) ≤ 8192 := by omega
      have b4 : decide (8192 - (n : Int) < pl) = true := decide_eq_true (by omega)
      clear hn hr hs h2 h3
      go_enter Try.func22, Try.ntmps22
      go_wp2_with fail
      refine (HRD.out).mono ?_
      rintro e w' ⟨rfl, rfl⟩
      go_wp2
      go_ret
      exact ⟨rfl, rfl⟩
theorem bytes_at (s : ByteArray) (k : Nat) (hk : k ≤ s.size) : Lib.byteCells (List.take 64 (s.extract k s.size).data.toList) = vals8 (((bts s).drop k).take 64) := by
  rw [← bts_cutr]
  unfold Lib.byteCells vals8 bts
  rw [← List.map_take, List.map_map]
  rfl
set_option maxRecDepth 100000 in
set_option maxHeartbeats 8000000 in
theorem write_ok (S : Nat → Prop) (g : Nat) (d : Dk) (N : Nat) (hN : N + 1 ≤ 1000000) (f p n : Nat) (s : ByteArray) (hs : s.size ≤ 140737488351232) (w : World) (h : DkS w S g d N) (hr : readyD d f = 0) (hn : s.size / 64 = n) (hr0 : s.size % 64 = 0) (hn0 : n ≠ 0) (hp : p + n ≤ 8192) :
    Calls Try.prog 22 #[.pointer (some ⟨g, 0, none⟩), .int .i64 f, .int .i64 p, .string s] w fun e w' => e = .returned (.int .i64 (opD d (wrL f p s)).2) ∧ DkR w S g (opD d (wrL f p s)).1 (N + 1) w' := by
  have HRD := Lib.hid (ready_any S g d N f w h)
  rw [hr] at HRD
  have hf8 : f < 8 := by have := (ready_ok hr).2.2.2; omega
  obtain ⟨hq, hq3⟩ := quo64 s hn hr0
  have hq2 : (s.size : Int) % 64 = 0 := hq3
  clear hq3
  have hq4 : (s.size : Int).tmod 64 = 0 := by rw [Int.tmod_eq_emod_of_nonneg (by omega)]; exact hq2
  have hsI : (s.size : Int) ≤ 140737488351232 := by omega
  have b0 : ((n : Int) == 0) = false := by rw [beq_eq_false_iff_ne]; omega
  have b2 : decide ((p : Int) < 0) = false := decide_eq_false (by omega)
  have b3 : decide ((8192 : Int) < n) = false := decide_eq_false (by omega)
  have b3n : decide (8192 < n) = false := decide_eq_false (by omega)
  have b4 : decide (8192 - (n : Int) < p) = false := decide_eq_false (by omega)
  have c2 : (n : Int) ≤ 8192 := by omega
  obtain ⟨iv, hv1, hv2, hv3, hv4⟩ := info_parts ch_info
  have hmk : ∀ W, (Instr.makeSlice 68 (.int .i64 n) (.int .i64 n)).run Try.prog W = .ok (.slice (some ⟨W.heap.size, 0, none⟩) n n) (W.alloc (.cells (madeCells Try.zeroCells99 (n * 67)) 99)) := fun W => by
    have hr := run_make (P := Try.prog) W 68 99 iv _ Try.underlying68 hv1 hv2 .i64 .i64 n n (by omega) (Int.le_refl _) (by rw [hv4]; omega) (by omega)
    rw [hv3] at hr
    simp only [Int.toNat_natCast] at hr
    exact hr
  have HNN := Lib.hid hn
  have HR0 := Lib.hid hr0
  have HH := Lib.hid h
  have HW := Lib.hid (Blk.new w 99 (madeCells Try.zeroCells99 (n * 67)))
  clear h hr hn hr0 hv1 hv2 hv3 hv4
  go_enter Try.func22, Try.ntmps22
  go_wp2_with fail
  refine (HRD.out).mono ?_
  rintro e w' ⟨rfl, rfl⟩
  go_wp2
  go_loopw [46] (fun v wr => ∃ (j : Nat) (cur : Array Value), j ≤ n ∧ v = .int .i64 j ∧ Blk wr w.heap.size 99 cur ∧ MkIs f p s n j cur ∧ Below w.heap.size w wr) (fun v _ => n - (intOf v).toNat)
  case atStart => exact ⟨0, _, Nat.zero_le _, rfl, HW.out, ⟨by rw [size_madeCells], fun q r u hq => absurd hq (Nat.not_lt_zero q)⟩, one_alloc⟩
  case round =>
    clear hmk HW
    obtain ⟨j, cur, hj, rfl, hblk, hmkis, hbl⟩ := hrel
    by_cases hlt : j < n
    · have hj64 : j * 64 + 64 ≤ s.size := by have := HNN.out; omega
      obtain ⟨cur', hb', hsz', hnext⟩ := mk_step hblk hmkis hlt hj64
      have hth : wr.there w.heap.size (j * 67) 67 := fun k hk => ⟨by rw [hblk.cell, Array.getElem?_eq_getElem (by rw [hmkis.1]; omega)]; rfl, hblk.frozen _⟩
      have hi67 : (Try.prog.info? 99).map (·.size) = some 67 := by kernel_rfl
      have hb' : Blk (wr.setCells w.heap.size (j * 67) (chL ⟨f, p + j, false, zS⟩).toArray.toList) w.heap.size 99 cur' := hb'
      have hb2 : Fr (fun x => x = w.heap.size) wr (wr.setCells w.heap.size (j * 67) (chL ⟨f, p + j, false, zS⟩).toArray.toList) := fr_setCells (b := w.heap.size) (chL ⟨f, p + j, false, zS⟩) (j * 67) wr
      have HB2 := Lib.hid hb2
      have HBL := Lib.hid hbl
      have HNX := Lib.hid hnext
      have HBC := Lib.hid hb'
      have HSZ := Lib.hid hsz'
      have jI : (j : Int) < n := by omega
      have jI2 : (j : Int) * 64 + 64 ≤ s.size := by omega
      have jI3 : (j : Int) * 64 ≤ s.size := by omega
      have jI4 : (0 : Int) ≤ (j : Int) * 64 := by omega
      clear hblk hmkis hbl hnext hb' hsz' hb2
      go_wp2_with (first | (refine wpList_store_mid rfl 99 (.tmp 56) (.tmp 55) rfl w.heap.size (j * 67) (chL ⟨f, p + j, false, zS⟩).toArray (by rfl) (by kernel_rfl) hth hi67 (chL_one _) ?_))
      generalize wr.setCells w.heap.size (j * 67) (chL ⟨f, p + j, false, zS⟩).toArray.toList = V at HB2 HBC ⊢
      have hu8 : (Try.prog.info? 5).map (·.size) = some 1 := by kernel_rfl
      have hal : Try.prog.arrayLen 97 = 64 := by kernel_rfl
      have hex : (s.extract (j * 64) s.size).size = s.size - j * 64 := by rw [ByteArray.size_extract]; omega
      have hmin : Nat.min (s.extract (j * 64) s.size).size 64 = 64 := by rw [hex]; show min _ _ = _; omega
      have HEX := Lib.hid hex
      have hfit : j * 67 + 3 + 64 ≤ cur'.size := by rw [HSZ.out]; omega
      have hgb : V.drew.heap[w.heap.size]? = some (.cells cur' 99 (0, 0)) := HBC.out
      have HFT := Lib.hid hfit
      have HGB := Lib.hid hgb
      clear hfit hgb
      have qt : ((j : Int) * 64).toNat = j * 64 := by omega
      have qw : IntKind.i64.wrap ((j : Int) * 64) = (j : Int) * 64 := by rw [IntKind.wrap_i64]; omega
      clear hex
      go_region_held3 (fun _ => True) (trivial) (first | (refine step_copy rfl (.tmp 61) (.tmp 65) 43 9 5 rfl w.heap.size (j * 67 + 3) 64 64 64 (s.extract (j * 64) s.size) cur' 99 (by rfl) (by rfl) Try.underlying43 hu8 HGB.out hmin HFT.out ?_))
      have hbc : Lib.byteCells (List.take 64 (s.extract (j * 64) s.size).data.toList) = vals8 (((bts s).drop (j * 64)).take 64) := bytes_at s (j * 64) (by omega)
      generalize Lib.byteCells (List.take 64 (s.extract (j * 64) s.size).data.toList) = bs at hbc ⊢
      have hX := blk_setRow (W := V.drew) (b := w.heap.size) HBC.out (List.take (j * 67 + 3) cur'.toList ++ bs ++ List.drop (j * 67 + 3 + 64) cur'.toList).toArray
      have hXf := fr_setRow V.drew w.heap.size (List.take (j * 67 + 3) cur'.toList ++ bs ++ List.drop (j * 67 + 3 + 64) cur'.toList).toArray
      generalize V.drew.setRow w.heap.size (List.take (j * 67 + 3) cur'.toList ++ bs ++ List.drop (j * 67 + 3 + 64) cur'.toList).toArray = X at hX hXf ⊢
      have HEND := Lib.hid (show ∃ cur2, Blk X w.heap.size 99 cur2 ∧ MkIs f p s n (j + 1) cur2 ∧ Below w.heap.size w X from ⟨_, hX, HNX.out bs hbc, HBL.out.trans (fr_below (fr_trans (fr_step HB2.out (Below.refl _ _).drew) hXf (fun b hb => .inl hb)) (fun k hk => by rw [hk]; exact Nat.le_refl _) (HBL.out.size))⟩)
      clear hbc hX hXf HFT HGB HEX qw qt hmin
      go_wp2
      go_roundw
      case rel =>
        obtain ⟨cur2, k1, k2, k3⟩ := HEND.out
        exact ⟨j + 1, cur2, by omega, by go_num, k1, k2, k3⟩
      case measure => simp [intOf]; omega
    · obtain rfl : j = n := by omega
      have hws : ¬ S w.heap.size := fun e => by
        obtain ⟨m, hm⟩ := HH.out
        have := hm.lt _ e; omega
      have hlen : (wrL f p s).length = j := by unfold wrL; rw [List.length_map, List.length_range, HNN.out]
      have HOP := Lib.hid (op_any S g d N hN (some ⟨w.heap.size, 0, none⟩) (wrL f p s) j j hlen.symm (by omega) (fun c hc => by
        unfold wrL at hc
        obtain ⟨q, hq, rfl⟩ := List.mem_map.1 hc
        have hq2 := List.mem_range.1 hq
        have := HNN.out
        exact wrC_ok hf8 (by omega) (by omega)) wr (mk_all hblk hmkis HNN.out.symm) (fun a ha => by injection ha with ha; subst ha; exact hws) (dkS_below HH.out hbl))
      have HBL := Lib.hid hbl
      clear hblk hmkis hbl hws hlen
      go_wp2_with fail
      refine (HOP.out).mono ?_
      rintro e w' ⟨rfl, hR⟩
      have HR := Lib.hid (show DkR w S g (opD d (wrL f p s)).1 (N + 1) w' by
        obtain ⟨S', k1, k2, k3⟩ := hR
        exact ⟨S', k1, fr_trans (fr_of HBL.out) k2 (fun b hb => .inl hb), fun b hb => by
          rcases k3 b hb with h4 | h4
          · exact .inl h4
          · exact .inr (Nat.le_trans HBL.out.size h4)⟩)
      clear hR
      go_wp2
      go_ret
      exact ⟨rfl, HR.out⟩
theorem write_any (S : Nat → Prop) (g : Nat) (d : Dk) (N : Nat) (hN : N + 1 ≤ 1000000) (f pl : Int) (s : ByteArray) (hs : s.size ≤ 140737488351232) (w : World) (h : DkS w S g d N) :
    Calls Try.prog 22 #[.pointer (some ⟨g, 0, none⟩), .int .i64 f, .int .i64 pl, .string s] w fun e w' => e = .returned (.int .i64 (writeD d f pl s).2) ∧ DkR w S g (writeD d f pl s).1 (N + 1) w' := by
  have hq := dkR_refl (dkS_more h hN)
  unfold writeD
  by_cases hr : readyD d f = 0
  · rw [if_neg (by simpa using hr)]
    by_cases h1 : s.size / 64 = 0 ∨ s.size % 64 ≠ 0
    · rw [if_pos h1]
      exact (write_err S g d N f pl s hs w h 2 (.inr (.inl ⟨hr, h1, rfl⟩))).mono fun e w' ⟨he, hw⟩ => ⟨he, by subst hw; exact hq⟩
    · rw [if_neg h1]
      by_cases h2 : pl < 0 ∨ 8192 < s.size / 64 ∨ 8192 - (s.size / 64 : Nat) < pl
      · rw [if_pos h2]
        exact (write_err S g d N f pl s hs w h 5 (.inr (.inr ⟨hr, h1, h2, rfl⟩))).mono fun e w' ⟨he, hw⟩ => ⟨he, by subst hw; exact hq⟩
      · rw [if_neg h2]
        have hf0 := (ready_ok hr).2.2.1
        obtain ⟨i, rfl⟩ := Int.eq_ofNat_of_zero_le hf0
        obtain ⟨p, rfl⟩ := Int.eq_ofNat_of_zero_le (show 0 ≤ pl by omega)
        exact write_ok S g d N hN i p _ s hs w h hr rfl (by omega) (by omega) (by omega)
  · rw [if_pos hr]
    exact (write_err S g d N f pl s hs w h _ (.inl ⟨hr, rfl⟩)).mono fun e w' ⟨he, hw⟩ => ⟨he, by subst hw; exact hq⟩
end Go.Proofs.Ythipaabjmlgjmaa
namespace Go.Proofs.Ythipaabjmlgjmaa
open Go.RowKit Go Go.Maps
set_option linter.unusedVariables false
set_option linter.unusedSimpArgs false
/-- a builder that has been written or grown -/
abbrev Bq (B b : Nat) (bs : List Value) (W : World) : Prop := Lib.BuilderAt 111 5 B b (.pointer (some ⟨b, 0, none⟩)) bs W
theorem bq_step {B b : Nat} {bs : List Value} {W W' : World} (h : Bq B b bs W) (hb : Below W.heap.size W W') : Bq B b bs W' := by
  obtain ⟨hB, v, hbk, ho, hn⟩ := h
  have hl : b < W.heap.size := (Array.getElem?_eq_some_iff.1 hbk).1
  exact ⟨hB, v, (hb.block b hl).trans hbk, own_block ho (fun z hz => hb.block z (ho.lt z hz).2), hn⟩
theorem bq_used (b : Nat) (w : World) (c0 : w.cell? ⟨b, 0, none⟩ = some (.pointer (some ⟨b, 0, none⟩))) :
    Calls Try.prog 85 #[.pointer (some ⟨b, 0, none⟩)] w fun e w' => e = .returned (.tuple #[]) ∧ w = w' := by
  refine (Any.Builder_copyCheck_used { Try.lays105 with } Try.Builder_Extra_105.toX72 b w c0).mono ?_
  rintro e w' ⟨rfl, rfl⟩
  exact ⟨rfl, rfl⟩
theorem u8_info : (Try.prog.info? 5).map (fun i => (i.zero, i.size, i.bytes)) = some (some (.int .u8 0), 1, 1) := by kernel_rfl
set_option maxHeartbeats 2000000 in
set_option maxRecDepth 100000 in
theorem bq_write (B b : Nat) (bs news : List Value) (A : Option Addr) (m c B2 : Nat) (w : World) (h : Bq B b bs w) (hr : Reads w B2 1 A m news) (h1 : ∀ u ∈ news, u.oneCell' = true) (hlen : bs.length + m ≤ 140737488355328) (hBw : B ≤ w.heap.size) :
    Calls Try.prog 58 #[.pointer (some ⟨b, 0, none⟩), .slice A m c] w fun e w' => e = .returned (.tuple #[.int .i64 m, .nilIface]) ∧ Bq B b (bs ++ news) w' ∧ Below B w w' := by
  obtain ⟨iv, hv1, hv2, hv3, hv4⟩ := info_parts u8_info
  obtain ⟨hB, v, hbk, ho, hn⟩ := h
  have c0 : w.cell? ⟨b, 0, none⟩ = some (.pointer (some ⟨b, 0, none⟩)) := by rw [Lib.cell_of_heap hbk]; rfl
  have c1 : w.cell? ⟨b, 1, none⟩ = some v := by rw [Lib.cell_of_heap hbk]; rfl
  have hl : b < w.heap.size := (Array.getElem?_eq_some_iff.1 hbk).1
  have HCC := Lib.hid (bq_used b w c0)
  have hm : news.length = m := by have := hr.1; omega
  go_enter Try.func58, Try.ntmps58
  go_wp2_with fail
  refine (HCC.out).mono ?_
  rintro e w1 ⟨rfl, rfl⟩
  go_wp2_with (at_builtin; refine wpList_append_any _ rfl (.tmp 12) (.tmp 13) 43 rfl B 5 iv _ 1 1 Try.underlying43 hv1 hv2 hv3 hv4 rfl (by omega) v bs.length bs rfl ho B2 A m c news rfl hr h1 (by simp only [maxLen]; omega) (by omega) hBw ?_; intro v1 w2 hown' hgrow hat; (have hb2 : w2.heap[b]? = some (.cells #[.pointer (some ⟨b, 0, none⟩), v] 111 (0, 0)) := (hgrow.block b hl (fun e => hn e.symm)).trans hbk); (have d0 : w2.cell? ⟨b, 0, none⟩ = some (.pointer (some ⟨b, 0, none⟩)) := by rw [Lib.cell_of_heap hb2]; rfl); (have d1 : w2.cell? ⟨b, 1, none⟩ = some v := by rw [Lib.cell_of_heap hb2]; rfl); (have f1 : w2.frozen? ⟨b, 1, none⟩ = false := Lib.frozen_of_heap hb2 1); obtain ⟨A1, c1', rfl⟩ := own_form hown'; (have HO := Lib.hid hown'); (have HG := Lib.hid hgrow); (have HT := Lib.hid hat); (have HB2 := Lib.hid hb2); clear hown' hgrow hat hb2)
  go_ret2
  have hn2 := Lib.ownBlock_ne HO.out HB2.out (by decide)
  refine ⟨rfl, ⟨hB, .slice A1 (bs.length + m) c1', ?_, ?_, hn2⟩, ?_⟩
  · simp [World.setCell, Array.getElem?_modify, HB2.out]
  · rw [List.length_append, hm]
    exact own_block HO.out (fun z hz => Below.heap_setCell _ _ _ _ (fun e => hn2 (by rw [hz, e])))
  · exact ((Below.refl B w).grown HG.out hBw (fun k hk => (ho.lt k hk).1)).setCell (p := ⟨b, 1, none⟩) hB _
/-- bytes as the builder's contracts spell them -/
theorem vals_bytes {L : List Nat} (h : ∀ x ∈ L, x < 256) : vals8 L = Lib.byteCells (L.map UInt8.ofNat) := by
  unfold vals8 Lib.byteCells
  rw [List.map_map]
  apply List.map_congr_left
  intro x hx
  have := h x hx
  simp [Nat.mod_eq_of_lt this]
theorem bq_string (B b : Nat) (L : List Nat) (w : World) (h : Bq B b (vals8 L) w) (hL : ∀ x ∈ L, x < 256) (hBw : B ≤ w.heap.size) :
    Calls Try.prog 59 #[.pointer (some ⟨b, 0, none⟩)] w fun e w' => e = .returned (.string (bstr L)) ∧ Below B w w' := by
  rw [vals_bytes hL] at h
  exact (Try.Builder_String_any B b (L.map UInt8.ofNat) w (.inr h) hBw).mono fun e w' hh => ⟨hh.1, by have := hh.2; first | exact this | exact this.2 | exact this.2.1⟩
end Go.Proofs.Ythipaabjmlgjmaa
