/- Two strings.Builders beside each other. Conditions: those of each lemma. -/
import Derived.Test.YtocbdehcjcggeaaBu
namespace Go.Proofs.Ytocbdehcjcggeaa
open Go.RowKit
set_option linter.unusedVariables false
set_option maxHeartbeats 2000000 in
set_option maxRecDepth 100000 in
theorem bu_string (B b : Nat) (v : Value) (l : List UInt8) (w : World) (h : Bu B b v (Lib.byteCells l) w) (h0 : l ≠ []) :
    Calls Try.prog 27 #[.pointer (some ⟨b, 0, none⟩)] w fun e w' => e = .returned (.string ⟨l.toArray⟩) ∧
      w'.heap.size = w.heap.size ∧ (∀ k, k < w.heap.size → v.ownBlock ≠ some k → w'.heap[k]? = w.heap[k]?) ∧ Below B w w' := by
  obtain ⟨hB, p, hp, hbk, hown, hne⟩ := h
  have hl0 : l.length ≠ 0 := by simpa using h0
  rw [Lib.byteCells_length] at hown
  obtain ⟨g, cap, cur, rfl, hbg, hg, hnc, hcm, hcs, htake⟩ : ∃ g cap cur, v = .slice (some ⟨g, 0, none⟩) l.length cap ∧ B ≤ g ∧ w.heap[g]? = some (.cells cur 5 (0, 0)) ∧ l.length ≤ cap ∧ cap ≤ maxLen ∧ cur.size = cap * 1 ∧ cur.toList.take (l.length * 1) = Lib.byteCells l := by
    rcases hown.2 with ⟨_, hz⟩ | ⟨g, cap, cur, hv, r⟩
    · exact absurd hz hl0
    · exact ⟨g, cap, cur, hv, r⟩
  have c1 : w.drew.cell? ⟨b, 1, none⟩ = some (.slice (some ⟨g, 0, none⟩) l.length cap) := by
    have : w.drew.heap[b]? = some (.cells #[p, .slice (some ⟨g, 0, none⟩) l.length cap] 47 (0, 0)) := hbk
    rw [Lib.cell_of_heap this]; rfl
  have hSD : (Builtin.unsafeSliceData_ #[45] 92 #[.slice (some ⟨g, 0, none⟩) l.length cap]).run Try.prog w.drew = .ok (.pointer (some ⟨g, 0, none⟩)) w.drew :=
    Lib.run_unsafeSliceData_row _ _ _ _ _ _ (by omega)
  have hUS : (Builtin.unsafeString_ #[92, 3] 9 #[.pointer (some ⟨g, 0, none⟩), .int .i64 l.length]).run Try.prog w.drew = .ok (.string ⟨l.toArray⟩) (w.drew.freeze ⟨g, 0, none⟩ l.length) := by
    refine Lib.run_unsafeString_row w.drew 92 3 9 5 (by kernel_rfl) (by kernel_rfl) g cur.size (by have hg' : w.drew.heap[g]? = some (.cells cur 5 (0, 0)) := hg; simp [World.shape?, hg']) l h0 (by omega) (by unfold maxLen at hcm; omega) ?_
    intro j x hx
    have := hown.cells (g := g) rfl j (.int .u8 x.toNat) (by simp [Lib.byteCells, hx])
    exact this
  go_enter Try.func27, Try.ntmps27
  have mixed := Try.lays169.mixed
  go_wp2
  go_region_o
  all_goals (go_wp2; go_ret; exact ⟨rfl, by simp [World.freeze, h0], fun k hk hn => by
    have hkg : g ≠ k := fun e => hn (by rw [← e]; rfl)
    simp [World.freeze, h0, Array.getElem?_modify, hkg]; rfl, Lib.below_freeze (Below.drew (Below.refl B w)) (p := ⟨g, 0, none⟩) hbg _⟩)
def Two (B b c : Nat) (L M : List Nat) (W : World) : Prop :=
  ∃ v u, Bu B b v (Lib.strCells (bstr L)) W ∧ Bu B c u (Lib.strCells (bstr M)) W ∧ b ≠ c ∧ v.ownBlock ≠ some c ∧ u.ownBlock ≠ some b ∧ (∀ k, v.ownBlock = some k → u.ownBlock ≠ some k)
theorem two_step {B b c : Nat} {L M : List Nat} {W W' : World} (h : Two B b c L M W) (hb : Below W.heap.size W W') : Two B b c L M W' := by
  obtain ⟨v, u, h1, h2, r⟩ := h
  exact ⟨v, u, h1.keep hb.os hb.tape hb.output hb.size (fun k hk _ => hb.block k hk), h2.keep hb.os hb.tape hb.output hb.size (fun k hk _ => hb.block k hk), r⟩
theorem strCells_app (L : List Nat) (s : ByteArray) : Lib.strCells (bstr L) ++ Lib.strCells s = Lib.strCells (bstr (L ++ bts s)) := by
  rw [← bstr_append, bstr_bts]
  simp [Lib.strCells]
theorem two_new (w : World) (B : Nat) (hB : B ≤ w.heap.size) : Two B w.heap.size (w.heap.size + 1) [] [] ((w.alloc (.cells #[.pointer none, .slice none 0 0] 47)).alloc (.cells #[.pointer none, .slice none 0 0] 47)) := by
  have h1 := bu_new B w hB
  have h2 := bu_new B (w.alloc (.cells #[.pointer none, .slice none 0 0] 47)) (by simp; omega)
  have hs : (w.alloc (.cells #[.pointer none, .slice none 0 0] 47)).heap.size = w.heap.size + 1 := by simp
  have hb := (Below.refl (w.alloc (.cells #[.pointer none, .slice none 0 0] 47)).heap.size (w.alloc (.cells #[.pointer none, .slice none 0 0] 47))).alloc (Nat.le_refl _) (.cells #[.pointer none, .slice none 0 0] 47)
  rw [hs] at h2
  exact ⟨_, _, h1.keep hb.os hb.tape hb.output hb.size (fun k hk _ => hb.block k hk), h2, by omega, by simp [Value.ownBlock], by simp [Value.ownBlock], by simp [Value.ownBlock]⟩
theorem frame_two {B b c : Nat} {v v' u : Value} {bs bs' cs : List Value} {W W' : World} (h1 : Bu B b v bs W) (h2 : Bu B c u cs W) (hbc : b ≠ c) (hvc : v.ownBlock ≠ some c) (hub : u.ownBlock ≠ some b) (hvu : ∀ k, v.ownBlock = some k → u.ownBlock ≠ some k)
    (h1' : Bu B b v' bs' W') (hfr : Fr b v W W') (hb : Below B W W') (hat : v'.ownBlock = v.ownBlock ∨ ∃ k, W.heap.size ≤ k ∧ v'.ownBlock = some k) :
    Bu B c u cs W' ∧ v'.ownBlock ≠ some c ∧ (∀ k, v'.ownBlock = some k → u.ownBlock ≠ some k) := by
  have hcl := h2.lt
  have hul := h2.rowlt
  refine ⟨h2.keep hb.os hb.tape hb.output hb.size (fun k hk he => hfr.2 k hk ?_ ?_), ?_, ?_⟩
  · rcases he with rfl | he
    · exact fun e => hbc e.symm
    · intro e; exact hub (by rw [he, e])
  · rcases he with rfl | he
    · exact hvc
    · exact fun e => hvu k e he
  · rcases hat with e | ⟨j, hj, e⟩
    · rw [e]; exact hvc
    · rw [e]; intro h; injection h with h; omega
  · intro k hk
    rcases hat with e | ⟨j, hj, e⟩
    · exact hvu k (by rw [← e]; exact hk)
    · intro hu
      have := (hul k hu).2
      rw [e] at hk
      injection hk with hk
      omega
/-- blocks that are no builder and no row of bytes stand -/
def Oth (W W' : World) : Prop := ∀ g t cs, t ≠ 47 → t ≠ 5 → Blk W g t cs → Blk W' g t cs
theorem bu_oth {B b : Nat} {v : Value} {bs : List Value} {W W' : World} (h : Bu B b v bs W) (hf : Fr b v W W') : Oth W W' := by
  intro g t cs h1 h2 hb
  obtain ⟨_, p, _, hbk, ho, _⟩ := h
  refine (hf.2 g hb.lt ?_ ?_).trans hb
  · rintro rfl
    unfold Blk at hb
    rw [hbk] at hb
    simp only [Option.some.injEq, Obj.cells.injEq] at hb
    exact h1 hb.2.1.symm
  · intro e
    rcases ho.2 with ⟨hv, _⟩ | ⟨g', cap, cur, hv, _, hg, _⟩
    · rw [hv] at e; cases e
    · rw [hv] at e
      simp only [Value.ownBlock, Option.some.injEq] at e
      subst e
      unfold Blk at hb
      rw [hg] at hb
      simp only [Option.some.injEq, Obj.cells.injEq] at hb
      exact h2 hb.2.1.symm
theorem two_ws1 (B b c : Nat) (L M : List Nat) (s : ByteArray) (w : World) (h : Two B b c L M w) (hlen : L.length + s.size ≤ 140737488355328) (hBw : B ≤ w.heap.size) :
    Calls Try.prog 23 #[.pointer (some ⟨b, 0, none⟩), .string s] w fun e w' => e = .returned (.tuple #[.int .i64 s.size, .nilIface]) ∧ Two B b c (L ++ bts s) M w' ∧ Below B w w' ∧ Oth w w' := by
  obtain ⟨v, u, h1, h2, hbc, hvc, hub, hvu⟩ := h
  refine (bu_writeString B b v _ s w h1 (by rw [Lib.strCells_length, bstr_size]; exact hlen) hBw).mono ?_
  rintro e w' ⟨rfl, v', h1', hfr, hb, hat⟩
  obtain ⟨g1, g2, g3⟩ := frame_two h1 h2 hbc hvc hub hvu h1' hfr hb hat
  rw [strCells_app] at h1'
  exact ⟨rfl, ⟨v', u, h1', g1, hbc, g2, hub, g3⟩, hb, bu_oth h1 hfr⟩
theorem two_ws2 (B b c : Nat) (L M : List Nat) (s : ByteArray) (w : World) (h : Two B b c L M w) (hlen : M.length + s.size ≤ 140737488355328) (hBw : B ≤ w.heap.size) :
    Calls Try.prog 23 #[.pointer (some ⟨c, 0, none⟩), .string s] w fun e w' => e = .returned (.tuple #[.int .i64 s.size, .nilIface]) ∧ Two B b c L (M ++ bts s) w' ∧ Below B w w' ∧ Oth w w' := by
  obtain ⟨v, u, h1, h2, hbc, hvc, hub, hvu⟩ := h
  refine (bu_writeString B c u _ s w h2 (by rw [Lib.strCells_length, bstr_size]; exact hlen) hBw).mono ?_
  rintro e w' ⟨rfl, u', h2', hfr, hb, hat⟩
  obtain ⟨g1, g2, g3⟩ := frame_two h2 h1 (fun e => hbc e.symm) hub hvc (fun k hk hv => hvu k hv hk) h2' hfr hb hat
  rw [strCells_app] at h2'
  exact ⟨rfl, ⟨v, u', g1, h2', hbc, hvc, g2, fun k hv hu => g3 k hu hv⟩, hb, bu_oth h2 hfr⟩
theorem two_wb1 (B b c : Nat) (L M : List Nat) (x : Nat) (w : World) (h : Two B b c L M w) (hx : x < 256) (hlen : L.length + 1 ≤ 140737488355328) (hBw : B ≤ w.heap.size) :
    Calls Try.prog 50 #[.pointer (some ⟨b, 0, none⟩), .int .u8 x] w fun e w' => e = .returned .nilIface ∧ Two B b c (L ++ [x]) M w' ∧ Below B w w' := by
  obtain ⟨v, u, h1, h2, hbc, hvc, hub, hvu⟩ := h
  refine (bu_writeByte B b v _ x w h1 (by rw [Lib.strCells_length, bstr_size]; exact hlen) hBw).mono ?_
  rintro e w' ⟨rfl, v', h1', hfr, hb, hat⟩
  obtain ⟨g1, g2, g3⟩ := frame_two h1 h2 hbc hvc hub hvu h1' hfr hb hat
  have e1 : Lib.strCells (bstr L) ++ [Value.int .u8 (x : Int)] = Lib.strCells (bstr (L ++ [x])) := by
    rw [← bstr_append]
    have e2 : (UInt8.ofNat x).toNat = x := by rw [UInt8.toNat_ofNat']; omega
    simp [Lib.strCells, bstr, e2]
  rw [e1] at h1'
  exact ⟨rfl, ⟨v', u, h1', g1, hbc, g2, hub, g3⟩, hb⟩
theorem two_len (B b c : Nat) (L M : List Nat) (w : World) (h : Two B b c L M w) :
    (Calls Try.prog 53 #[.pointer (some ⟨b, 0, none⟩)] w fun e w' => e = .returned (.int .i64 L.length) ∧ w' = w) ∧
    (Calls Try.prog 53 #[.pointer (some ⟨c, 0, none⟩)] w fun e w' => e = .returned (.int .i64 M.length) ∧ w' = w) := by
  obtain ⟨v, u, h1, h2, _⟩ := h
  have a1 := Try.Builder_Len B b _ w h1.old
  have a2 := Try.Builder_Len B c _ w h2.old
  rw [Lib.strCells_length, bstr_size] at a1 a2
  exact ⟨a1, a2⟩
theorem two_string1 (B b c : Nat) (L M : List Nat) (w : World) (h : Two B b c L M w) (h0 : L ≠ []) :
    Calls Try.prog 27 #[.pointer (some ⟨b, 0, none⟩)] w fun e w' => e = .returned (.string (bstr L)) ∧ Lib.IsBuilder 47 5 B c (Lib.strCells (bstr M)) w' ∧ Below B w w' := by
  obtain ⟨v, u, h1, h2, hbc, hvc, hub, hvu⟩ := h
  refine (bu_string B b v (bstr L).data.toList w h1 (by rw [bstr_toList]; simpa using h0)).mono ?_
  rintro e w' ⟨rfl, hs, hk, hb⟩
  refine ⟨rfl, (h2.keep hb.os hb.tape hb.output hb.size (fun k hkl he => hk k hkl ?_)).old, hb⟩
  rcases he with rfl | he
  · exact hvc
  · exact fun e => hvu k e he
theorem bstring (B b : Nat) (L : List Nat) (w : World) (h : Lib.IsBuilder 47 5 B b (Lib.strCells (bstr L)) w) (hBw : B ≤ w.heap.size) :
    Calls Try.prog 27 #[.pointer (some ⟨b, 0, none⟩)] w fun e w' => e = .returned (.string (bstr L)) ∧ Below B w w' := by
  have hc := Try.Builder_String_any B b (bstr L).data.toList w h hBw
  exact hc
end Go.Proofs.Ytocbdehcjcggeaa
