/- The net and ref25's net side by side: each call answers the same. Conditions: those of each lemma. -/
import Derived.Test.YtndlcjpkpkfcpaaNt17
namespace Go.Proofs.Ytndlcjpkpkfcpaa
open Go.RowKit Go Go.Maps
set_option linter.unusedVariables false
set_option linter.unusedSimpArgs false
def Sz (L : List Lt) : Prop := ∀ x ∈ L, x.bytes.size ≤ 262144
theorem sz_snoc {L : List Lt} (h : Sz L) {x : Lt} (hx : x.bytes.size ≤ 262144) : Sz (L ++ [x]) := fun y hy => by
  rcases List.mem_append.1 hy with hy | hy
  · exact h y hy
  · rw [List.mem_singleton.1 hy]; exact hx
theorem sz_filter {L : List Lt} (h : Sz L) (f : Lt → Bool) : Sz (L.filter f) := fun y hy => h y (List.mem_filter.1 hy).1
theorem sz_set {L : List Lt} (h : Sz L) (k : Int) {a : Lt} (ha : a.bytes.size ≤ 262144) : Sz (setLt L k a) := fun y hy => by
  unfold setLt at hy
  obtain ⟨x, hx, rfl⟩ := List.mem_map.1 hy
  split
  · exact ha
  · exact h x hx
/-- what both make of a call -/
def Both (fn fr : FuncId) (args : Array Value) (R : Value) (L L' : List Lt) (N N' : Int) : Prop :=
  (∀ gn gm W, NetS gn gm L N W → Calls Try.prog fn (#[.pointer (some ⟨gn, 0, none⟩)] ++ args) W fun e w' => e = .returned R ∧ NetS gn gm L' N' w' ∧ But gn gm W w') ∧
  (∀ gr base W, RefS gr base L N W → Calls Try.prog fr (#[.pointer (some ⟨gr, 0, none⟩)] ++ args) W fun e w' => e = .returned R ∧ RefS gr base L' N' w' ∧ But gr gr W w')
theorem send_size' {f t : Int} {s : ByteArray} (h : sendE f t s = 0) : s.size ≤ 262144 := by
  unfold sendE at h
  split at h
  · split at h
    · cases h
    · omega
  · cases h
theorem send_both (f t : Int) (s : ByteArray) (L : List Lt) (N : Int) (hS : Sz L) (hN0 : 0 ≤ N) (hN : N ≤ 1000000) : ∃ z1 z2 L' N', Sz L' ∧ N' ≤ N + 1 ∧ Both 7 16 #[.int .i64 f, .int .i64 t, .string s] (.tuple #[.int .i64 z1, .int .i64 z2]) L L' N N' := by
  by_cases hE : sendE f t s = 0
  · by_cases hful : 64 ≤ L.length
    · exact ⟨0, 8, L, N, hS, by omega, fun gn gm W hs => send_ok f t s gn gm L N W hs hN hE 0 8 L N (if_pos hful) (if_pos hful) (if_pos hful) (if_pos hful), fun gr base W hs => rsend_ok f t s gr base L N W hs hN0 hN hE 0 8 L N (if_pos hful) (if_pos hful) (if_pos hful) (if_pos hful)⟩
    · exact ⟨N + 1, 0, L ++ [⟨N + 1, f, t, s, false⟩], N + 1, sz_snoc hS (send_size' hE), by omega, fun gn gm W hs => send_ok f t s gn gm L N W hs hN hE (N + 1) 0 _ (N + 1) (if_neg hful) (if_neg hful) (if_neg hful) (if_neg hful), fun gr base W hs => rsend_ok f t s gr base L N W hs hN0 hN hE (N + 1) 0 _ (N + 1) (if_neg hful) (if_neg hful) (if_neg hful) (if_neg hful)⟩
  · refine ⟨0, sendE f t s, L, N, hS, by omega, fun gn gm W hs => ?_, fun gr base W hs => ?_⟩
    · refine (send_bad f t s gn gm W _ rfl hE).mono ?_
      rintro e w' ⟨rfl, rfl⟩
      exact ⟨rfl, hs, but_refl _ _ _⟩
    · refine (rsend_bad f t s gr W _ rfl hE).mono ?_
      rintro e w' ⟨rfl, rfl⟩
      exact ⟨rfl, hs, but_refl _ _ _⟩
theorem deliver_both (k : Int) (L : List Lt) (N : Int) (hk : I64' k) (hu : Up L) (hl : L.length ≤ 64) (hS : Sz L) : ∃ x E L', Sz L' ∧ Both 11 17 #[.int .i64 k] (.tuple #[ltV x, .int .i64 E]) L L' N N ∧ (∀ gn gm W, NetS gn gm L N W → Calls Try.prog 12 #[.pointer (some ⟨gn, 0, none⟩), .int .i64 k] W fun e w' => e = .returned (.int .i64 E) ∧ NetS gn gm L' N w' ∧ But gn gm W w') := by
  rcases Option.eq_none_or_eq_some (findL L k) with hf | ⟨x, hf⟩
  · refine ⟨zL, 4, L, hS, ⟨fun gn gm W hs => ?_, fun gr base W hs => ?_⟩, fun gn gm W hs => ?_⟩
    · refine (deliver_none k gn gm L N W hs hk hf).mono ?_
      rintro e w' ⟨rfl, hb⟩
      exact ⟨rfl, net_step hs hb, but_of hb⟩
    · refine (rdeliver_none k gr base L N W hs hl hf).mono ?_
      rintro e w' ⟨rfl, hb⟩
      exact ⟨rfl, ref_step hs hb, but_of hb⟩
    · refine (drop_none k gn gm L N W hs hk hf).mono ?_
      rintro e w' ⟨rfl, hb⟩
      exact ⟨rfl, net_step hs hb, but_of hb⟩
  · exact ⟨x, 0, L.filter fun x => decide (x.id ≠ k), sz_filter hS _, ⟨fun gn gm W hs => deliver_some k gn gm L N W hs hk x hf, fun gr base W hs => rdeliver_some k gr base L N W hs hl hu x hf⟩, fun gn gm W hs => drop_some k gn gm L N W hs hk x hf⟩
theorem twice_both (k : Int) (L : List Lt) (N : Int) (hk : I64' k) (hl : L.length ≤ 64) (hS : Sz L) (hN0 : 0 ≤ N) (hN : N ≤ 1000000) : ∃ z1 z2 L' N', Sz L' ∧ N' ≤ N + 1 ∧ Both 8 18 #[.int .i64 k] (.tuple #[.int .i64 z1, .int .i64 z2]) L L' N N' := by
  rcases Option.eq_none_or_eq_some (findL L k) with hf | ⟨x, hf⟩
  · refine ⟨0, 4, L, N, hS, by omega, fun gn gm W hs => ?_, fun gr base W hs => ?_⟩
    · refine (twice_none k gn gm L N W hs hk hf).mono ?_
      rintro e w' ⟨rfl, hb⟩
      exact ⟨rfl, net_step hs hb, but_of hb⟩
    · refine (rtwice_none k gr base L N W hs hl hf).mono ?_
      rintro e w' ⟨rfl, rfl⟩
      exact ⟨rfl, hs, but_refl _ _ _⟩
  · by_cases hful : 64 ≤ L.length
    · exact ⟨0, 8, L, N, hS, by omega, fun gn gm W hs => twice_some k gn gm L N W hs hN hk x hf 0 8 L N (if_pos hful) (if_pos hful) (if_pos hful) (if_pos hful), fun gr base W hs => rtwice_some k gr base L N W hs hl hN0 hN x hf 0 8 L N (if_pos hful) (if_pos hful) (if_pos hful) (if_pos hful)⟩
    · exact ⟨N + 1, 0, L ++ [newL x N], N + 1, sz_snoc hS (hS x (find_id hf).2), by omega, fun gn gm W hs => twice_some k gn gm L N W hs hN hk x hf (N + 1) 0 _ (N + 1) (if_neg hful) (if_neg hful) (if_neg hful) (if_neg hful), fun gr base W hs => rtwice_some k gr base L N W hs hl hN0 hN x hf (N + 1) 0 _ (N + 1) (if_neg hful) (if_neg hful) (if_neg hful) (if_neg hful)⟩
theorem spoil_both (k at_ y : Int) (L : List Lt) (N : Int) (hk : I64' k) (hu : Up L) (hl : L.length ≤ 64) (hS : Sz L) (hy : 0 ≤ y ∧ y < 256) : ∃ E L', Sz L' ∧ Both 10 19 #[.int .i64 k, .int .i64 at_, .int .u8 y] (.int .i64 E) L L' N N := by
  rcases Option.eq_none_or_eq_some (findL L k) with hf | ⟨x, hf⟩
  · refine ⟨4, L, hS, fun gn gm W hs => ?_, fun gr base W hs => ?_⟩
    · refine (spoil_none k at_ y gn gm L N W hs hk hf).mono ?_
      rintro e w' ⟨rfl, hb⟩
      exact ⟨rfl, net_step hs hb, but_of hb⟩
    · refine (rspoil_none k at_ y gr base L N W hs hl hf).mono ?_
      rintro e w' ⟨rfl, hb⟩
      exact ⟨rfl, ref_step hs hb, but_of hb⟩
  · by_cases h0 : spoilE x at_ y = 0
    · obtain ⟨xi, f, t, b, s⟩ := x
      obtain rfl : xi = k := (find_id hf).1
      have hsz : b.size ≤ 262144 := hS _ (find_id hf).2
      unfold spoilE at h0
      cases s
      · rw [if_neg (by simp)] at h0
        by_cases h1 : at_ < 0 ∨ (b.size : Int) ≤ at_
        · rw [if_pos h1] at h0; cases h0
        · rw [if_neg h1] at h0
          by_cases h2 : y = 0
          · rw [if_pos h2] at h0; cases h0
          · obtain ⟨p, rfl⟩ : ∃ p : Nat, (p : Int) = at_ := ⟨at_.toNat, by omega⟩
            have hp : p < b.size := by omega
            exact ⟨0, setLt L xi ⟨xi, f, t, spoilB b p (xorB b p y), true⟩, sz_set hS xi (by show (spoilB b p (xorB b p y)).size ≤ _; rw [spoil_size b p _ hp (xor_lt hy.2)]; exact hsz), fun gn gm W hs => spoil_ok xi p y gn gm L N W hs hk f t b hf hp hsz (by omega) hy.2, fun gr base W hs => rspoil_ok xi p y gr base L N W hs hl hu f t b hf hp hsz (by omega) hy.2⟩
      · rw [if_pos rfl] at h0; cases h0
    · refine ⟨spoilE x at_ y, L, hS, fun gn gm W hs => ?_, fun gr base W hs => ?_⟩
      · refine (spoil_err k at_ y gn gm L N W hs hk x hf _ rfl h0).mono ?_
        rintro e w' ⟨rfl, hb⟩
        exact ⟨rfl, net_step hs hb, but_of hb⟩
      · refine (rspoil_err k at_ y gr base L N W hs hl x hf _ rfl h0).mono ?_
        rintro e w' ⟨rfl, hb⟩
        exact ⟨rfl, ref_step hs hb, but_of hb⟩
/-- both nets in memory, beside the law's script -/
def Pl (w : World) (gn gm gr base : Nat) (La Lb : List Lt) (Na Nb : Int) (W : World) : Prop := NetS gn gm La Na W ∧ RefS gr base Lb Nb W ∧ gn < base ∧ gm < base ∧ w.heap.size ≤ gn ∧ w.heap.size ≤ gm ∧ Below w.heap.size w W
theorem pl_step {w W W' : World} {gn gm gr base : Nat} {La Lb : List Lt} {Na Nb : Int} (h : Pl w gn gm gr base La Lb Na Nb W) (hb : Below W.heap.size W W') : Pl w gn gm gr base La Lb Na Nb W' := ⟨net_step h.1 hb, ref_step h.2.1 hb, h.2.2.1, h.2.2.2.1, h.2.2.2.2.1, h.2.2.2.2.2.1, bj h.2.2.2.2.2.2 hb⟩
theorem pl_net {w W W' : World} {gn gm gr base : Nat} {La La' Lb : List Lt} {Na Na' Nb : Int} (h : Pl w gn gm gr base La Lb Na Nb W) (hn : NetS gn gm La' Na' W') (hb : But gn gm W W') : Pl w gn gm gr base La' Lb Na' Nb W' := ⟨hn, ref_but h.2.1 hb h.2.2.1 h.2.2.2.1, h.2.2.1, h.2.2.2.1, h.2.2.2.2.1, h.2.2.2.2.2.1, h.2.2.2.2.2.2.trans (but_below hb h.2.2.2.2.1 h.2.2.2.2.2.1 h.2.2.2.2.2.2.size)⟩
theorem pl_ref {w W W' : World} {gn gm gr base : Nat} {La Lb Lb' : List Lt} {Na Nb Nb' : Int} (h : Pl w gn gm gr base La Lb Na Nb W) (hn : RefS gr base Lb' Nb' W') (hb : But gr gr W W') : Pl w gn gm gr base La Lb' Na Nb' W' := by
  have hbase : base ≤ gr := by obtain ⟨_, _, _, _, q⟩ := h.2.1; exact q
  have h1 := h.2.2.1
  have h2 := h.2.2.2.1
  have h3 := h.2.2.2.2.1
  exact ⟨net_but h.1 hb (by omega) (by omega) (by omega) (by omega), hn, h1, h2, h3, h.2.2.2.2.2.1, h.2.2.2.2.2.2.trans (but_below hb (by omega) (by omega) h.2.2.2.2.2.2.size)⟩
/-- beside the operation's box -/
def Pq (w : World) (gn gm gr base : Nat) (La Lb : List Lt) (Na Nb : Int) (g : Nat) (x : Opx) (W : World) : Prop := Pl w gn gm gr base La Lb Na Nb W ∧ Blk W g 44 (opC x) ∧ g ≠ gn ∧ g ≠ gm ∧ g ≠ gr
theorem pq_new {w W : World} {gn gm gr base : Nat} {La Lb : List Lt} {Na Nb : Int} (h : Pl w gn gm gr base La Lb Na Nb W) (x : Opx) : Pq w gn gm gr base La Lb Na Nb W.heap.size x (W.alloc (.cells (opC x) 44)) := by
  have h1 := h.1.1.lt
  have h2 := h.1.2.1.lt
  have h3 : gr < W.heap.size := by obtain ⟨_, q, _⟩ := h.2.1; exact q.lt
  exact ⟨pl_step h one_alloc, Blk.new _ _ _, by omega, by omega, by omega⟩
theorem pq_step {w W W' : World} {gn gm gr base : Nat} {La Lb : List Lt} {Na Nb : Int} {g : Nat} {x : Opx} (h : Pq w gn gm gr base La Lb Na Nb g x W) (hb : Below W.heap.size W W') : Pq w gn gm gr base La Lb Na Nb g x W' := ⟨pl_step h.1 hb, blk_step h.2.1 hb, h.2.2⟩
theorem pq_net {w W W' : World} {gn gm gr base : Nat} {La La' Lb : List Lt} {Na Na' Nb : Int} {g : Nat} {x : Opx} (h : Pq w gn gm gr base La Lb Na Nb g x W) (hn : NetS gn gm La' Na' W') (hb : But gn gm W W') : Pq w gn gm gr base La' Lb Na' Nb g x W' := ⟨pl_net h.1 hn hb, but_blk hb h.2.1 h.2.2.1 h.2.2.2.1, h.2.2⟩
theorem pq_ref {w W W' : World} {gn gm gr base : Nat} {La Lb Lb' : List Lt} {Na Nb Nb' : Int} {g : Nat} {x : Opx} (h : Pq w gn gm gr base La Lb Na Nb g x W) (hn : RefS gr base Lb' Nb' W') (hb : But gr gr W W') : Pq w gn gm gr base La Lb' Na Nb' g x W' := ⟨pl_ref h.1 hn hb, but_blk hb h.2.1 h.2.2.2.2 h.2.2.2.2, h.2.2⟩
end Go.Proofs.Ytndlcjpkpkfcpaa
