/- The walk of ValueReads. Condition: the laid variables hold what they should. -/
import Derived.Test.YtlbalhiiamenfaaDoorLawValBack
import Derived.Test.YtlbalhiiamenfaaDoorRead7
namespace Go.Proofs.YtlbalhiiamenfaaDoor
open Go.RowKit
set_option linter.unusedVariables false
theorem rread_back (s : ByteArray) (W : World) (hl : s.size ≤ 100000) {p q : Int} {t : ByteArray} {e : Int} (h : readZ (bts s) = ((p, q, t), e)) : Calls Tryd.prog 26 #[.string s] W fun en w' => en = .returned (.tuple #[.agg #[.int .u8 p, .int .i64 q, .string t], .int .i64 e]) ∧ Below W.heap.size W w' := by
  have hr := rread_any s W hl
  unfold RdP at hr
  rw [h] at hr
  exact hr
set_option maxRecDepth 100000 in
set_option maxHeartbeats 8000000 in
theorem valueReads_walk (a0 : ByteArray) (w0 : a0.size ≤ 140737488351232) (w : World) (hG : Gl w) :
    Calls Tryd.prog 7 #[.string a0] w fun e w' => e = .returned (.bool true) ∧ Below w.heap.size w w' := by
  have HW := Lib.hid (works7 w hG)
  have HL := Lib.hid long7
  have HG := Lib.hid hG
  clear hG w0
  by_cases l0 : 16384 < a0.size
  · have d0 : decide (16384 < a0.size) = true := decide_eq_true l0
    clear l0
    go_enter Tryd.func7, Tryd.ntmps7
    go_wp2_with fail
    refine HW.out.mono ?_
    rintro e w1 ⟨rfl, h1⟩
    have H1 := Lib.hid h1
    clear h1
    go_wp2_with fail
    refine (HL.out _ _).mono ?_
    rintro e w2 ⟨rfl, rfl⟩
    go_wp2
    go_ret
    exact ⟨rfl, H1.out⟩
  · have d0 : decide (16384 < a0.size) = false := decide_eq_false l0
    obtain ⟨⟨p, q, t⟩, k, hz⟩ : ∃ x k, readZ (bts a0) = (x, k) := ⟨_, _, rfl⟩
    have HR1 := Lib.hid (fun W (hb : Below w.heap.size w W) => read_back a0 W (gl_below HG.out hb) (by omega) hz)
    have HR2 := Lib.hid (fun W => rread_back a0 W (by omega) hz)
    clear l0 hz
    go_enter Tryd.func7, Tryd.ntmps7
    go_wp2_with fail
    refine HW.out.mono ?_
    rintro e w1 ⟨rfl, h1⟩
    have H1 := Lib.hid h1
    clear h1
    go_wp2_with fail
    refine (HL.out _ _).mono ?_
    rintro e w2 ⟨rfl, rfl⟩
    go_wp2_with fail
    refine (HR1.out _ H1.out).mono ?_
    rintro e w2 ⟨rfl, h2⟩
    have H2 := Lib.hid (bj H1.out h2)
    have HV := Lib.hid (Blk.new w2 24 (valC (p, q, t)))
    clear h2
    go_wp2_with fail
    refine (HR2.out _).mono ?_
    rintro e w3 ⟨rfl, h3⟩
    have hv3 := blk_step HV.out h3
    obtain ⟨x0, x1, x2, _⟩ := cell3 hv3
    obtain ⟨y0, y1, y2, _⟩ := cell3 (hv3.alloc (.cells (valC (p, q, t)) 24))
    obtain ⟨z0, z1, z2, _⟩ := cell3 (Blk.new w3 24 (valC (p, q, t)))
    have H3 := Lib.hid (bj (H2.out.alloc H2.out.size (.cells (valC (p, q, t)) 24)) h3)
    have H4 := Lib.hid (H3.out.alloc H3.out.size (.cells (valC (p, q, t)) 24))
    clear h3 hv3
    go_wp2
    go_ret
    exact ⟨rfl, H4.out⟩
end Go.Proofs.YtlbalhiiamenfaaDoor
