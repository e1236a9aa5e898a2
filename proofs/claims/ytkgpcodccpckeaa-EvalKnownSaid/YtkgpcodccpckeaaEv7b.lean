/- counterfoillaw15.two. No condition. -/
import Derived.Test.YtkgpcodccpckeaaEv7
namespace Go.Proofs.Ytkgpcodccpckeaa
open Go.RowKit
set_option linter.unusedVariables false
set_option linter.unusedSimpArgs false
set_option maxRecDepth 100000 in
set_option maxHeartbeats 4000000 in
theorem two_any (op : Int) (a b : Val) (w : World) : Calls Try.prog 16 #[.int .u8 op, valV a, valV b] w fun e w' => ∃ g, e = .returned (exV (nodeX op (some ⟨g, 0, none⟩) 2 2)) ∧ Kids w' w'.heap.size (some ⟨g, 0, none⟩) [leafX a, leafX b] ∧ Below w.heap.size w w' := by
  obtain ⟨p, q, s⟩ := a
  obtain ⟨p', q', s'⟩ := b
  have HW1 := Lib.hid (fun W (k : Tw w (p, q, s) (p', q', s') W) => (with_any (p, q, s) W).mono fun e w' he => And.intro he.1 (tw_below k he.2))
  have HW2 := Lib.hid (fun W (k : Tw w (p, q, s) (p', q', s') W) => (with_any (p', q', s') W).mono fun e w' he => And.intro he.1 (tw_below k he.2))
  have HMO : Hid (∀ W G, W.heap.size = G → Tw w (p, q, s) (p', q', s') W → Calls Try.prog 12 #[.int .u8 op, .slice (some ⟨G, 0, none⟩) 2 2] (W.alloc (.cells #[.int .u8 1, .int .u8 p, .int .i64 q, .string s, .string ⟨#[]⟩, .string ⟨#[]⟩, .int .i64 0, .slice none 0 0, .int .u8 1, .int .u8 p', .int .i64 q', .string s', .string ⟨#[]⟩, .string ⟨#[]⟩, .int .i64 0, .slice none 0 0] 29)) fun e w' => e = .returned (.agg #[.int .u8 op, .int .u8 0, .int .i64 0, .string ⟨#[]⟩, .string ⟨#[]⟩, .string ⟨#[]⟩, .int .i64 0, .slice (some ⟨G, 0, none⟩) 2 2]) ∧ Tw w (p, q, s) (p', q', s') w' ∧ Blk w' G 29 (exC2 (leafX (p, q, s)) (leafX (p', q', s'))) ∧ G ≠ w.heap.size + 1 + 1) := Lib.hid fun W G hG k => by
    subst hG
    exact (mkof_any op _ 2 2 _).mono fun e w' he => ⟨he.1, tw_below k (bj one_alloc he.2), blk_step (Blk.new _ _ _) he.2, fun e => by have := k.2.2.1.lt; omega⟩
  have hs := tw_drew (tw_new w (p, q, s) (p', q', s'))
  go_enter Try.func16, Try.ntmps16
  go_wp2_with fail
  go_region_held3 (fun W => W.cell? ⟨w.heap.size, 0, none⟩ = some (.int .u8 p) ∧ W.cell? ⟨w.heap.size, 1, none⟩ = some (.int .i64 q) ∧ W.cell? ⟨w.heap.size, 2, none⟩ = some (.string s) ∧ W.cell? ⟨w.heap.size + 1, 0, none⟩ = some (.int .u8 p') ∧ W.cell? ⟨w.heap.size + 1, 1, none⟩ = some (.int .i64 q') ∧ W.cell? ⟨w.heap.size + 1, 2, none⟩ = some (.string s'))
    (first | (with_reducible exact tw_S8 (by assumption) _ _ _ _ _ _ _ _) | (with_reducible exact tw_S (by assumption)) | (with_reducible exact tw_S (tw_below (by assumption) one_alloc)))
    (first
      | (go_at_call 18; (first | (with_reducible refine (HW1.out _ (by assumption)).mono ?_) | (with_reducible refine (HW2.out _ (by assumption)).mono ?_)); rintro e w4 ⟨rfl, hs⟩)
      | (go_at_call 12; (with_reducible refine (HMO.out _ _ rfl (by assumption)).mono ?_); rintro e w5 ⟨rfl, hs, hk, hne⟩; obtain ⟨z0, z1, z2, z3, z4, z5, z6, z7⟩ := cell8_all hs.2.2.1; (have f0 := hs.2.2.1.frozen 0); (have f1 := hs.2.2.1.frozen 1); (have f2 := hs.2.2.1.frozen 2); (have f3 := hs.2.2.1.frozen 3); (have f4 := hs.2.2.1.frozen 4); (have f5 := hs.2.2.1.frozen 5); (have f6 := hs.2.2.1.frozen 6); (have f7 := hs.2.2.1.frozen 7)))
  all_goals
    go_wp2
    obtain ⟨e0, e1, e2, e3, e4, e5, e6, e7⟩ := cell8_all (set8 hs.2.2.1 (.int .u8 op) (.int .u8 0) (.int .i64 0) (.string ⟨#[]⟩) (.string ⟨#[]⟩) (.string ⟨#[]⟩) (.int .i64 0) (.slice (some ⟨w4.heap.size, 0, none⟩) 2 2))
    exact bodyPost_ret (v := .agg #[.int .u8 op, .int .u8 0, .int .i64 0, .string ⟨#[]⟩, .string ⟨#[]⟩, .string ⟨#[]⟩, .int .i64 0, .slice (some ⟨w4.heap.size, 0, none⟩) 2 2]) (by simp [results, Try.results16, go_sem, e0, e1, e2, e3, e4, e5, e6, e7]) rfl ⟨w4.heap.size, rfl, kids_2 (far8 hk hne _ _ _ _ _ _ _ _), below8 hs.2.2.2 (by omega) _ _ _ _ _ _ _ _⟩
end Go.Proofs.Ytkgpcodccpckeaa
