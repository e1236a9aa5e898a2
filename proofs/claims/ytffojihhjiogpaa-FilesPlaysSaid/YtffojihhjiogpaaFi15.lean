/- Layer 3: maps.Clone, slices.Clone; files.copied. Conditions: those of each lemma. -/
import Derived.Test.YtffojihhjiogpaaFi14
namespace Go.Proofs.Ytffojihhjiogpaa
open Go.RowKit Go Go.Maps
set_option linter.unusedVariables false
set_option linter.unusedSimpArgs false
theorem mclone_run {W : World} {b : Nat} {es : Array MapEntry} {clock : Nat} (hb : W.heap[b]? = some (.map es clock)) (t : TypeId) :
    (callFunc 60 #[.iface t (.map (some b))]).run Try.prog W = .ok (.value (.iface t (.map (some W.heap.size)))) (W.alloc (.map es clock)) := by
  rw [run_callFunc_extern (show Try.prog.funcs[60]? = some Try.f60 by kernel_rfl) (by kernel_rfl) (by kernel_rfl) (by kernel_rfl) (e := Extern.MapsClone.clone) (by kernel_rfl), run_maps_clone_sl W t hb]
  rfl
set_option maxRecDepth 100000 in
set_option maxHeartbeats 4000000 in
theorem mclone_sec {W : World} {m : Option Nat} {pres : Nat → Prop} {val : Nat → Sec} (h : FM W m pres val) :
    Calls Try.prog 59 #[.map m] W fun e w' => ∃ m', e = .returned (.map m') ∧ FM w' m' pres val ∧ (∀ b, m' = some b → W.heap.size ≤ b) ∧ Below W.heap.size W w' := by
  cases m with
  | none =>
    have hq := map_nil none
    go_enter Try.func59, Try.ntmps59
    go_wp2
    go_ret
    exact ⟨none, rfl, h, fun b hb => (by cases hb), Below.refl _ _⟩
  | some b =>
    obtain ⟨D, n, ⟨es, clock, hb, F, hs, hD⟩, hk⟩ := h
    have hq := map_nil (some b)
    have hcl := mclone_run hb 64
    have hta : ∀ W', (Instr.typeAssert (.iface 64 (.map (some W.heap.size))) 20 64 false).run Try.prog W' = .ok (.map (some W.heap.size)) W' := fun W' => run_typeAssert_map_sl W' 64 20 _ _ _ Try.underlying64
    have HE := Lib.hid (show FM (W.alloc (.map es clock)) (some W.heap.size) pres val from ⟨D, n, ⟨es, clock, (MapKept.heap_alloc W _).1, F, hs, hD⟩, hk⟩)
    clear hb F hs hD hk
    go_enter Try.func59, Try.ntmps59
    go_wp2
    go_ret
    exact ⟨some W.heap.size, rfl, HE.out, fun b hb => (by injection hb with hb; omega), one_alloc⟩
theorem map_nil_e (p : Option Nat) (w : World) : (binOp .eql 63 (.map p) (.map none)).run Try.prog w = .ok (.bool p.isNone) w := Go.Proofs.run_eql_map_nil_sl w 63 _ _ p Try.underlying63
set_option maxRecDepth 100000 in
set_option maxHeartbeats 4000000 in
theorem mclone_arm {W : World} {b n : Nat} {R : Value → Option (DataW Value × List MemPlace)} {D : DataW Value} (h : W.ownsMap Try.prog 3 R b n D) :
    Calls Try.prog 49 #[.map (some b)] W fun e w' => ∃ b', e = .returned (.map (some b')) ∧ w'.ownsMap Try.prog 3 R b' n D ∧ W.heap.size ≤ b' ∧ Below W.heap.size W w' := by
  obtain ⟨es, clock, hb, F, hs, hD⟩ := h
  have hq := map_nil_e (some b)
  have hcl := mclone_run hb 63
  have hta : ∀ W', (Instr.typeAssert (.iface 63 (.map (some W.heap.size))) 20 63 false).run Try.prog W' = .ok (.map (some W.heap.size)) W' := fun W' => run_typeAssert_map_sl W' 63 20 _ _ _ Try.underlying63
  have HE := Lib.hid (show (W.alloc (.map es clock)).ownsMap Try.prog 3 R W.heap.size n D from ⟨es, clock, (MapKept.heap_alloc W _).1, F, hs, hD⟩)
  clear hb F hs hD
  go_enter Try.func49, Try.ntmps49
  go_wp2
  go_ret
  exact ⟨W.heap.size, rfl, HE.out, Nat.le_refl _, one_alloc⟩
theorem own_base {w : World} {base e size n : Nat} {v : Value} {xs : List Value} (h : w.ownsRow base e size v n xs) : w.ownsRow 0 e size v n xs := by
  refine ⟨h.1, ?_⟩
  rcases h.2 with h1 | ⟨g, cap, cur, hv, _, rest⟩
  · exact .inl h1
  · exact .inr ⟨g, cap, cur, hv, Nat.zero_le _, rest⟩
theorem slice_nil (a : Option Addr) (n c : Nat) (w : World) : (binOp .eql 68 (.slice a n c) (.slice none 0 0)).run Try.prog w = .ok (.bool a.isNone) w := Lib.run_eql_slice_nil w _ _ a n c 0 0 Try.underlying68
set_option maxRecDepth 100000 in
set_option maxHeartbeats 4000000 in
theorem sclone_any {W : World} {A : Option Addr} {n c : Nat} {l : List Ch} (h : W.ownsRow 0 74 67 (.slice A n c) n (chsL l)) (hl : ∀ x ∈ l, ChOk x) (hn : n = l.length) (hn8 : n ≤ 8192000000) :
    Calls Try.prog 48 #[.slice A n c] W fun e w' => ∃ A' c', e = .returned (.slice A' n c') ∧ w'.ownsRow 0 74 67 (.slice A' n c') n (chsL l) ∧ (∀ z, (Value.slice A' n c').ownBlock = some z → W.heap.size ≤ z) ∧ Below W.heap.size W w' := by
  have hlen : ∀ x ∈ l, (chL x).length = 67 := fun x hx => chL_length (hl x hx)
  cases A with
  | none =>
    have h0 : n = 0 := by
      rcases h.2 with ⟨_, h1⟩ | ⟨g, cap, cur, hv, _⟩
      · exact h1
      · cases hv
    subst h0
    have hq := slice_nil none 0 c
    have HO := Lib.hid (show W.ownsRow 0 74 67 (.slice none 0 0) 0 (chsL l) by
      have : l = [] := List.eq_nil_of_length_eq_zero hn.symm
      subst this
      exact World.ownsRow_nil _ _ _ _)
    clear h hl hlen hn
    go_enter Try.func48, Try.ntmps48
    go_wp2
    go_ret
    exact ⟨none, 0, rfl, HO.out, fun z hz => (by cases hz), Below.refl _ _⟩
  | some a =>
    have hq := slice_nil (some a) n c
    obtain ⟨iv, hv1, hv2, hv3, hv4⟩ := info_parts ch_info
    have hm := World.ownsRow_made (base := W.heap.size) (e := 74) (size := 67) W #[] 0 (Nat.le_refl _) (Nat.zero_le _) (by simp)
    have hrd : Reads W W.heap.size 67 (some a) n (chsL l) := by
      have hrd := Reads.of_own h
      exact hrd
    have hrd2 := hrd.alloc (Nat.le_refl _) (.cells #[] 74)
    have HL := Lib.hid hl
    clear h hl hlen hn hrd
    go_enter Try.func48, Try.ntmps48
    go_wp2_with (at_builtin; refine wpList_append_any _ rfl (.tmp 5) (.tmp 6) 68 rfl W.heap.size 74 iv _ 67 88 Try.underlying68 hv1 hv2 hv3 hv4 (by kernel_rfl) (by omega) (.slice (some ⟨W.heap.size, 0, none⟩) 0 0) 0 [] rfl hm W.heap.size (some a) n c (chsL l) rfl hrd2 (chsL_one l) (by simp only [maxLen]; omega) (by omega) (by simp) ?_; intro v1 w4 hown1 hg1 hat1; obtain ⟨A1, c1, rfl⟩ := own_form hown1; (have HO1 := Lib.hid hown1); (have HG1 := Lib.hid hg1); clear hown1 hg1 hat1)
    go_ret
    have hO := HO1.out
    rw [Nat.zero_add] at hO
    refine ⟨A1, c1, rfl, by simpa using own_base hO, fun z hz => (hO.lt z hz).1, ?_⟩
    exact (one_alloc (w := W)).trans (((Below.refl W.heap.size (W.alloc (.cells #[] 74))).grown HG1.out (by simp) (fun k hk => (hm.lt k hk).1)))
end Go.Proofs.Ytffojihhjiogpaa
