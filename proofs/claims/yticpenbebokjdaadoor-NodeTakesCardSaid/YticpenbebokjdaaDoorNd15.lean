/- The law's 'works': a leaf is put and taken. Conditions: none. -/
import Derived.Test.YticpenbebokjdaaDoorNd12
import Derived.Test.YticpenbebokjdaaDoorNd14
namespace Go.Proofs.YticpenbebokjdaaDoor
open Go.RowKit Go
set_option linter.unusedVariables false
set_option linter.unusedSimpArgs false
def cW : Cl := ⟨⟨#[107]⟩, 2, ⟨#[97, 98]⟩, 0⟩
theorem emp_list : (⟨#[]⟩ : ByteArray).toList.isEmpty = true := by
  rw [ByteArray.toList_eq]
  rfl
theorem may_W : mayB 1 0 [cW] ⟨#[]⟩ = true := by
  rw [may_1, emp_list]
  rfl
theorem size_W : sizeZ 1 0 [cW] ⟨#[]⟩ = 9 := by
  unfold sizeZ
  rw [if_pos may_W]
  rfl
def pgW : ByteArray := bstr (nodeL 1 0 [cW] ⟨#[]⟩ ++ List.replicate 503 0)
theorem put_W : putN 1 0 [cW] ⟨#[]⟩ = (pgW, 0) := by
  unfold putN
  rw [size_W]
  rfl
theorem pgW_size : pgW.size = 512 := by
  unfold pgW
  rw [bstr_size, List.length_append, nodeL_length, List.length_replicate]
  rfl
theorem take_W : takeZ pgW = (1, 0, [cW], ⟨#[]⟩, 0) := by
  obtain ⟨h1, h2, h3, h4, h5⟩ := take_put (m := 503) may_W (by rfl)
  unfold takeZ
  rw [show pgW = bstr (nodeL 1 0 [cW] ⟨#[]⟩ ++ List.replicate 503 0) from rfl, if_pos h1, h2, h3, h4, h5]
theorem pre_W : Lib.hasPrefix pgW.data.toList [1, 0, 1, 1, 107, 0, 2, 97, 98, 0] = true := by decide +kernel
theorem cls_one (W : World) (c : Cl) : Cls (W.alloc (.cells (clC c) 30)) (W.alloc (.cells (clC c) 30)).heap.size (some ⟨W.heap.size, 0, none⟩) [c] := by
  refine .inr ⟨W.heap.size, 0, rfl, by simp, fun j x hx => ?_⟩
  have hj : j = 0 := by
    rcases j with _ | j
    · rfl
    · simp at hx
  subst hj
  have hx' : c = x := by simpa using hx
  subst hx'
  exact cell4 (Blk.new W 30 (clC c))
abbrev bxW (w : World) : Array Value := #[.int .u8 1, .int .i64 0, .slice (some ⟨w.heap.size, 0, none⟩) 1 1, .string ⟨#[]⟩]
def WkSt (w W : World) : Prop := Blk W (w.heap.size + 1) 27 (bxW w) ∧ Cls W W.heap.size (some ⟨w.heap.size, 0, none⟩) [cW] ∧ Below w.heap.size w W
theorem wkst_step {w W W' : World} (h : WkSt w W) (hb : Below W.heap.size W W') : WkSt w W' := ⟨blk_step h.1 hb, cls_step h.2.1 hb, bj h.2.2 hb⟩
theorem wkst_new (w : World) : WkSt w ((w.alloc (.cells #[.string ⟨#[107]⟩, .int .i64 2, .string ⟨#[97, 98]⟩, .int .i64 0] 30)).alloc (.cells #[.int .u8 1, .int .i64 0, .slice (some ⟨w.heap.size, 0, none⟩) 1 1, .string ⟨#[]⟩] 27)) := by
  have h1 := cls_one w cW
  have h2 := Blk.new (w.alloc (.cells (clC cW) 30)) 27 (bxW w)
  have e : (w.alloc (.cells (clC cW) 30)).heap.size = w.heap.size + 1 := by simp
  rw [e] at h2
  exact ⟨h2, cls_step h1 one_alloc, (one_alloc (w := w) (o := .cells (clC cW) 30)).alloc (by simp) _⟩
theorem take_W2 (W : World) : Calls Tryd.prog 11 #[.string pgW] W fun e w' => ∃ A c, e = .returned (.tuple #[.agg #[.int .u8 1, .int .i64 0, .slice A 1 c, .string ⟨#[]⟩], .int .i64 0]) ∧ Cls w' w'.heap.size A [cW] ∧ Below W.heap.size W w' := by
  refine (take_any pgW W (by rw [pgW_size]; omega)).mono ?_
  rintro e w' h
  unfold TkP at h
  rw [take_W] at h
  obtain ⟨A, n, c, rfl, hC, rfl, hb⟩ := h
  exact ⟨A, c, rfl, hC, hb⟩
set_option maxRecDepth 100000 in
set_option maxHeartbeats 8000000 in
theorem works_any (w : World) : Calls Tryd.prog 12 #[] w fun e w' => e = .returned (.bool true) ∧ Below w.heap.size w w' := by
  have HST := Lib.hid (wkst_new w)
  go_enter Tryd.func12, Tryd.ntmps12
  go_wp2_with fail
  have hp := putN_any 1 0 (some ⟨w.heap.size, 0, none⟩) [cW] 1 1 ⟨#[]⟩ _ HST.out.2.1 rfl (by omega)
  rw [put_W] at hp
  refine hp.mono ?_
  rintro e wa ⟨rfl, hba⟩
  have HST2 := Lib.hid (wkst_step HST.out hba)
  clear hp hba HST
  obtain ⟨c0, c1, c2, c3⟩ := cell4 HST2.out.1
  go_wp2_with fail
  refine (take_W2 wa).mono ?_
  rintro e wb ⟨A, c, rfl, hCb, hbb⟩
  have HST3 := Lib.hid (wkst_step (wkst_step HST2.out hbb) (one_alloc (o := .cells #[.int .u8 1, .int .i64 0, .slice A 1 c, .string ⟨#[]⟩] 27)))
  have HCB := Lib.hid (cls_step hCb (one_alloc (o := .cells #[.int .u8 1, .int .i64 0, .slice A 1 c, .string ⟨#[]⟩] 27)))
  have HNB := Lib.hid (Blk.new wb 27 #[.int .u8 1, .int .i64 0, .slice A 1 c, .string ⟨#[]⟩])
  clear c0 c1 c2 c3 hCb hbb HST2
  obtain ⟨c0, c1, c2, c3⟩ := cell4 HST3.out.1
  obtain ⟨d0, d1, d2, d3⟩ := cell4 HNB.out
  have hsz : (pgW.size : Int) = 512 := by rw [pgW_size]; rfl
  go_wp2_with fail
  have hpre := Tryd.strings_HasPrefix pgW ⟨#[1, 0, 1, 1, 107, 0, 2, 97, 98, 0]⟩
  rw [show Lib.hasPrefix pgW.data.toList (⟨#[1, 0, 1, 1, 107, 0, 2, 97, 98, 0]⟩ : ByteArray).data.toList = true from pre_W] at hpre
  refine (hpre _).mono ?_
  rintro e wc ⟨rfl, rfl⟩
  clear hpre
  go_wp2_with fail
  refine (same_one 1 0 [cW] A 1 c (some ⟨w.heap.size, 0, none⟩) 1 ⟨#[]⟩ _ HCB.out HST3.out.2.1 rfl (by omega)).mono ?_
  rintro e wd ⟨rfl, hbd⟩
  have HST4 := Lib.hid (wkst_step HST3.out hbd)
  clear c0 c1 c2 c3 d0 d1 d2 d3 hbd HST3 HCB HNB
  obtain ⟨c0, c1, c2, c3⟩ := cell4 HST4.out.1
  go_wp2_with fail
  have hz := size_any 1 0 (some ⟨w.heap.size, 0, none⟩) [cW] 1 1 ⟨#[]⟩ _ HST4.out.2.1 rfl (by omega)
  rw [size_W] at hz
  refine hz.mono ?_
  rintro e we ⟨rfl, hbe⟩
  have HST5 := Lib.hid (wkst_step HST4.out hbe)
  clear hz hbe
  go_wp2
  go_ret
  exact ⟨rfl, HST5.out.2.2⟩
end Go.Proofs.YticpenbebokjdaaDoor
