/- What sum.Text and sum.Take answer. Conditions: the numbers fit their kinds, a text is no longer than a machine has addresses. -/
import Derived.Test.YthipaabjmlgjmaaProg
import Derived.Test.YthipaabjmlgjmaaNumFix2
import Derived.Test.YthipaabjmlgjmaaSum
import Derived.Deep.RegionHeld3
namespace Go.Proofs.Ythipaabjmlgjmaa
open Go.RowKit
theorem held1_below {w0 W w' : World} {a b : Int} {g : Nat} (hb : Below W.heap.size W w') (h0 : W.cell? ⟨g, 0, none⟩ = some (.int .u32 a)) (h1 : W.cell? ⟨g, 1, none⟩ = some (.int .u32 b)) (hl1 : g < W.heap.size) (hw : Below w0.heap.size w0 W) :
    w'.cell? ⟨g, 0, none⟩ = some (.int .u32 a) ∧ w'.cell? ⟨g, 1, none⟩ = some (.int .u32 b) ∧ g < w'.heap.size ∧ Below w0.heap.size w0 w' :=
  ⟨(hb.cell (p := ⟨g, 0, none⟩) hl1).trans h0, (hb.cell (p := ⟨g, 1, none⟩) hl1).trans h1, Nat.lt_of_lt_of_le hl1 hb.size, hw.trans (hb.mono hw.size)⟩
def textL (a b : Int) : List Nat := fourL a.toNat ++ fourL b.toNat
set_option maxRecDepth 100000 in
set_option maxHeartbeats 2000000 in
theorem text_any (a b : Int) (w : World) (hp : Fit (a, b)) :
    Calls Try.prog 71 #[.agg #[.int .u32 a, .int .u32 b]] w fun e w' => e = .returned (.string (bstr (textL a b))) ∧ Below w.heap.size w w' := by
  obtain ⟨h1, h2, h3, h4⟩ := hp
  simp only at h1 h2 h3 h4
  have f1 := fun w => four_any a w h1 h2
  have f2 := fun w => four_any b w h3 h4
  have F1 := Lib.hid f1
  have F2 := Lib.hid f2
  have hl1 : w.heap.size < (w.alloc (.cells #[.int .u32 a, .int .u32 b] 73)).drew.heap.size := by simp [World.drew]
  have hl3 : Below w.heap.size w (w.alloc (.cells #[.int .u32 a, .int .u32 b] 73)).drew := ((Below.refl _ _).alloc (Nat.le_refl _) _).drew
  have hcat : (bstr (fourL a.toNat)).size + (bstr (fourL b.toNat)).size ≤ 9223372036854775807 := by simp [bstr_size, fourL]
  have hcat2 : ¬ (9223372036854775807 < (bstr (fourL a.toNat)).size + (bstr (fourL b.toNat)).size) := by omega
  have hcat3 : ((bstr (fourL a.toNat)).size : Int) + (bstr (fourL b.toNat)).size ≤ 9223372036854775807 := by omega
  clear f1 f2
  go_enter Try.func71, Try.ntmps71
  go_wp2_with fail
  go_region_held3 (fun w' => w'.cell? ⟨w.heap.size, 0, none⟩ = some (.int .u32 a) ∧ w'.cell? ⟨w.heap.size, 1, none⟩ = some (.int .u32 b) ∧ w.heap.size < w'.heap.size ∧ Below w.heap.size w w')
    (first | go_keep | (go_split_ands; exact held1_below (by assumption) (by assumption) (by assumption) (by assumption) (by assumption)) | exact held1_below (by assumption) (by assumption) (by assumption) (by assumption) (by assumption))
    (first | (go_at_call 70; (with_reducible refine (F1.out _).mono ?_); rintro e w3 ⟨rfl, hb3⟩) | (go_at_call 70; (with_reducible refine (F2.out _).mono ?_); rintro e w4 ⟨rfl, hb4⟩))
  go_wp2
  go_ret
  have hz : w4.cell? ⟨w.heap.size, 0, none⟩ = some (.int .u32 a) ∧ w4.cell? ⟨w.heap.size, 1, none⟩ = some (.int .u32 b) ∧ w.heap.size < w4.heap.size ∧ Below w.heap.size w w4 := by assumption
  refine ⟨?_, hz.2.2.2⟩
  rw [bstr_append]
  rfl
end Go.Proofs.Ythipaabjmlgjmaa
