/- Layer 3: strings.Builder where bytes are written to it. Conditions: those of each lemma. -/
import Derived.Test.YtffojihhjiogpaaShelf
import Derived.Test.YtffojihhjiogpaaFi11
import Derived.Lib.AppendStr
namespace Go.Proofs.Ytffojihhjiogpaa
open Go.RowKit Go Go.Maps
set_option linter.unusedVariables false
set_option linter.unusedSimpArgs false
/-- a builder that has been written or grown -/
abbrev Bq (B b : Nat) (bs : List Value) (W : World) : Prop := Lib.BuilderAt 81 5 B b (.pointer (some ⟨b, 0, none⟩)) bs W
theorem bq_step {B b : Nat} {bs : List Value} {W W' : World} (h : Bq B b bs W) (hb : Below W.heap.size W W') : Bq B b bs W' := by
  obtain ⟨hB, v, hbk, ho, hn⟩ := h
  have hl : b < W.heap.size := (Array.getElem?_eq_some_iff.1 hbk).1
  exact ⟨hB, v, (hb.block b hl).trans hbk, own_block ho (fun z hz => hb.block z (ho.lt z hz).2), hn⟩
theorem bq_used (b : Nat) (w : World) (c0 : w.cell? ⟨b, 0, none⟩ = some (.pointer (some ⟨b, 0, none⟩))) :
    Calls Try.prog 57 #[.pointer (some ⟨b, 0, none⟩)] w fun e w' => e = .returned (.tuple #[]) ∧ w = w' := by
  refine (Any.Builder_copyCheck_used { Try.lays105 with } Try.Builder_Extra_105.toX72 b w c0).mono ?_
  rintro e w' ⟨rfl, rfl⟩
  exact ⟨rfl, rfl⟩
theorem u8_info : (Try.prog.info? 5).map (fun i => (i.zero, i.size, i.bytes)) = some (some (.int .u8 0), 1, 1) := by kernel_rfl
set_option maxHeartbeats 2000000 in
set_option maxRecDepth 100000 in
theorem bq_write (B b : Nat) (bs news : List Value) (A : Option Addr) (m c B2 : Nat) (w : World) (h : Bq B b bs w) (hr : Reads w B2 1 A m news) (h1 : ∀ u ∈ news, u.oneCell' = true) (hlen : bs.length + m ≤ 140737488355328) (hBw : B ≤ w.heap.size) :
    Calls Try.prog 44 #[.pointer (some ⟨b, 0, none⟩), .slice A m c] w fun e w' => e = .returned (.tuple #[.int .i64 m, .nilIface]) ∧ Bq B b (bs ++ news) w' ∧ Below B w w' := by
  obtain ⟨iv, hv1, hv2, hv3, hv4⟩ := info_parts u8_info
  obtain ⟨hB, v, hbk, ho, hn⟩ := h
  have c0 : w.cell? ⟨b, 0, none⟩ = some (.pointer (some ⟨b, 0, none⟩)) := by rw [Lib.cell_of_heap hbk]; rfl
  have c1 : w.cell? ⟨b, 1, none⟩ = some v := by rw [Lib.cell_of_heap hbk]; rfl
  have hl : b < w.heap.size := (Array.getElem?_eq_some_iff.1 hbk).1
  have HCC := Lib.hid (bq_used b w c0)
  have hm : news.length = m := by have := hr.1; omega
  go_enter Try.func44, Try.ntmps44
  go_wp2_with fail
  refine (HCC.out).mono ?_
  rintro e w1 ⟨rfl, rfl⟩
  go_wp2_with (at_builtin; refine wpList_append_any _ rfl (.tmp 12) (.tmp 13) 75 rfl B 5 iv _ 1 1 Try.underlying75 hv1 hv2 hv3 hv4 rfl (by omega) v bs.length bs rfl ho B2 A m c news rfl hr h1 (by simp only [maxLen]; omega) (by omega) hBw ?_; intro v1 w2 hown' hgrow hat; (have hb2 : w2.heap[b]? = some (.cells #[.pointer (some ⟨b, 0, none⟩), v] 81 (0, 0)) := (hgrow.block b hl (fun e => hn e.symm)).trans hbk); (have d0 : w2.cell? ⟨b, 0, none⟩ = some (.pointer (some ⟨b, 0, none⟩)) := by rw [Lib.cell_of_heap hb2]; rfl); (have d1 : w2.cell? ⟨b, 1, none⟩ = some v := by rw [Lib.cell_of_heap hb2]; rfl); (have f1 : w2.frozen? ⟨b, 1, none⟩ = false := Lib.frozen_of_heap hb2 1); obtain ⟨A1, c1', rfl⟩ := own_form hown'; (have HO := Lib.hid hown'); (have HG := Lib.hid hgrow); (have HT := Lib.hid hat); (have HB2 := Lib.hid hb2); clear hown' hgrow hat hb2)
  go_ret2
  have hn2 := Lib.ownBlock_ne HO.out HB2.out (by decide)
  refine ⟨rfl, ⟨hB, .slice A1 (bs.length + m) c1', ?_, ?_, hn2⟩, ?_⟩
  · simp [World.setCell, Array.getElem?_modify, HB2.out]
  · rw [List.length_append, hm]
    exact own_block HO.out (fun z hz => Below.heap_setCell _ _ _ _ (fun e => hn2 (by rw [hz, e])))
  · exact ((Below.refl B w).grown HG.out hBw (fun k hk => (ho.lt k hk).1)).setCell (p := ⟨b, 1, none⟩) hB _
/-- bytes as the builder's contracts spell them -/
theorem vals_bytes {L : List Nat} (h : ∀ x ∈ L, x < 256) : vals8 L = Lib.byteCells (L.map UInt8.ofNat) := by
  unfold vals8 Lib.byteCells
  rw [List.map_map]
  apply List.map_congr_left
  intro x hx
  have := h x hx
  simp [Nat.mod_eq_of_lt this]
theorem bq_string (B b : Nat) (L : List Nat) (w : World) (h : Bq B b (vals8 L) w) (hL : ∀ x ∈ L, x < 256) (hBw : B ≤ w.heap.size) :
    Calls Try.prog 45 #[.pointer (some ⟨b, 0, none⟩)] w fun e w' => e = .returned (.string (bstr L)) ∧ Below B w w' := by
  rw [vals_bytes hL] at h
  exact (Try.Builder_String_any B b (L.map UInt8.ofNat) w (.inr h) hBw).mono fun e w' hh => ⟨hh.1, by have := hh.2; first | exact this | exact this.2 | exact this.2.1⟩
end Go.Proofs.Ytffojihhjiogpaa
