/- Layer 5: done, operation. Conditions: those of each lemma. -/
import Derived.Test.YthipaabjmlgjmaaMvA
import Derived.Deep.MidRow
import Derived.Deep.QuietTactic
import Derived.BigQuiet
import Derived.BigRegion
import Derived.Deep.RegionHeld3
import Derived.Shelf.SlMaps.Clone
import Derived.Deep.WholeRow
import Derived.Deep.RegionWith
import Derived.Deep.RegionLaw
namespace Go.Proofs.Ythipaabjmlgjmaa
open Go.RowKit Go Go.Maps
set_option linter.unusedVariables false
set_option linter.unusedSimpArgs false
theorem one_alloc {w : World} {o : Obj} : Below w.heap.size w (w.alloc o) := (Below.refl _ _).alloc (Nat.le_refl _) _
theorem chA_cells (w : World) (c : Ch) : ∀ W, Below (w.alloc (.cells (chL c).toArray 99)).heap.size (w.alloc (.cells (chL c).toArray 99)) W → W.cell? ⟨w.heap.size, 0, none⟩ = some (.int .i64 c.file) ∧ W.cell? ⟨w.heap.size, 1, none⟩ = some (.int .i64 c.pl) ∧ W.cell? ⟨w.heap.size, 2, none⟩ = some (.bool c.cut) := fun W hW => by
  have h := blk_at hW
  exact ⟨by rw [h.cell 0]; rfl, by rw [h.cell 1]; rfl, by rw [h.cell 2]; rfl⟩
theorem map_nil (p : Option Nat) (w : World) : (binOp .eql 64 (.map p) (.map none)).run Try.prog w = .ok (.bool p.isNone) w := Go.Proofs.run_eql_map_nil_sl w 64 _ _ p Try.underlying64
theorem below_drew {B : Nat} {a w : World} (h : Below B a w) (n : Nat) : Below B a (w.drewN n) := below_drewN h n
/-- what a change leaves: the disk, its loose changes and what is armed where they lay -/
def DkQ (w : World) (S : Nat → Prop) (g : Nat) (m : Mm) (d : Dk) (N : Nat) (w' : World) : Prop := ∃ S' m', DkAt w' S' g m' d N ∧ (m'.A = m.A ∧ m'.cap = m.cap ∧ m'.ga = m.ga) ∧ Fr S w w' ∧ ∀ b, S' b → S b ∨ w.heap.size ≤ b
theorem dkQ_R {w w' : World} {S : Nat → Prop} {g : Nat} {m : Mm} {d : Dk} {N : Nat} (h : DkQ w S g m d N w') : DkR w S g d N w' := by
  obtain ⟨S', m', h1, _, h2, h3⟩ := h
  exact ⟨S', ⟨m', h1⟩, h2, h3⟩
/-- in the midst of a call on the disk: the disk, and a change that the call has boxed -/
structure Dn (w : World) (S : Nat → Prop) (g : Nat) (m : Mm) (d : Dk) (N : Nat) (c : Ch) (i o : Nat) (W : World) : Prop where
  at0 : DkAt W S g m d N
  bel : Below w.heap.size w W
  box : Blk W w.heap.size 99 (chL c).toArray
  hi : i < 16
  ho : 2 * i = o
  lt : ∀ b, S b → b < w.heap.size
theorem dn_cells {w : World} {S : Nat → Prop} {g : Nat} {m : Mm} {d : Dk} {N : Nat} {c : Ch} {i o : Nat} {W W' : World} (h : Dn w S g m d N c i o W) (hf : Fr (fun b => m.M i = some b) W W') :
    W'.cell? ⟨g, o, none⟩ = some (.int .i64 ((d.fl i).length : Nat)) ∧ W'.cell? ⟨g, o + 1, none⟩ = some (.map (m.M i)) ∧ W'.frozen? ⟨g, o, none⟩ = false ∧ W'.frozen? ⟨g, o + 1, none⟩ = false ∧
    W'.cell? ⟨w.heap.size, 0, none⟩ = some (.int .i64 c.file) ∧ W'.cell? ⟨w.heap.size, 1, none⟩ = some (.int .i64 c.pl) ∧ W'.cell? ⟨w.heap.size, 2, none⟩ = some (.bool c.cut) := by
  have hg := fr_blk hf h.at0.blk (dkAt_m_g h.at0 h.hi)
  have hb := fr_blk hf h.box (fun e => by have := h.lt _ (h.at0.sm i h.hi _ e); omega)
  have ho := h.ho
  have hi := h.hi
  subst ho
  refine ⟨by rw [hg.cell, dkA_get _ _ (by omega), cell_len _ _ hi], by rw [hg.cell, dkA_get _ _ (by omega), cell_map _ _ hi], hg.frozen _, hg.frozen _, by rw [hb.cell]; rfl, by rw [hb.cell]; rfl, by rw [hb.cell]; rfl⟩
theorem dn_end {w : World} {S : Nat → Prop} {g : Nat} {m : Mm} {d : Dk} {N : Nat} {c : Ch} {i o : Nat} {W W' : World} (h : Dn w S g m d N c i o W) (l' : Fl) (b' : Option Nat)
    (hblk : Blk W' g 70 (dkA (d.setF i l') (m.setM i b'))) (hfl : FL W' b' l') (hok : FlOk l')
    (hf : Fr (fun b => b = g ∨ m.M i = some b) W W') (hnew : ∀ b, b' = some b → m.M i = some b ∨ W.heap.size ≤ b) : DkQ w S g m (d.setF i l') N W' :=
  ⟨_, _, dkAt_file h.at0 h.hi l' b' hblk hfl hok hf hnew, ⟨rfl, rfl, rfl⟩, fr_trans (fr_of h.bel) hf (fun b hb => .inl (by rcases hb with rfl | hb; exact h.at0.sg; exact h.at0.sm i h.hi b hb)), fun b hb => by
    rcases hb with hb | hb
    · exact .inl hb
    · rcases hnew b hb with h1 | h1
      · exact .inl (h.at0.sm i h.hi b h1)
      · exact .inr (Nat.le_trans h.bel.size h1)⟩
theorem dn_new {w W : World} {S : Nat → Prop} {g : Nat} {m : Mm} {d : Dk} {N : Nat} (h : DkAt w S g m d N) (c : Ch) {i o : Nat} (hi : i < 16) (ho : 2 * i = o) (hW : Below (w.alloc (.cells (chL c).toArray 99)).heap.size (w.alloc (.cells (chL c).toArray 99)) W) : Dn w S g m d N c i o W :=
  have hb := bja _ (Below.refl _ _) hW
  ⟨dkAt_below h hb, hb, blk_at hW, hi, ho, h.lt⟩
theorem dn_drew {w W' : World} {S : Nat → Prop} {g : Nat} {m : Mm} {d : Dk} {N : Nat} (h : DkQ w S g m d N W') : DkQ w S g m d N W'.drew := by
  obtain ⟨S', m', h1, h0, h2, h3⟩ := h
  exact ⟨S', m', dkAt_below h1 ((Below.refl _ _).drew), h0, fr_step h2 ((Below.refl _ _).drew), h3⟩
theorem done_cut_end {w : World} {S : Nat → Prop} {g : Nat} {m : Mm} {d : Dk} {N : Nat} {c : Ch} {i o : Nat} {W wr : World} (h : Dn w S g m d N c i o W) {n k : Nat} (hn : (d.fl i).length = n) (hn8 : n ≤ 8192) (hok : FlOk (d.fl i)) (hk1 : c.pl ≤ k) (hk2 : k ≤ n ∨ k = c.pl) (hlt : ¬ k < n)
    (hfm : FM wr (m.M i) (fun j => j < n ∧ (j < c.pl ∨ k ≤ j)) (fun j => (d.fl i).getD j zS)) (hf : Fr (fun b => m.M i = some b) W wr) (x : Int) (hx : x = (min c.pl n : Nat)) :
    DkQ w S g m (d.setF i ((d.fl i).take c.pl)) N ((wr.setCell ⟨g, o, none⟩ (.int .i64 x)).drew) := by
  have hg := fr_blk hf h.at0.blk (dkAt_m_g h.at0 h.hi)
  have ho := h.ho
  subst ho
  have hlen : ((d.fl i).take c.pl).length = min c.pl n := by rw [List.length_take, hn]
  refine dn_drew (dn_end h _ (m.M i) ?_ ?_ ?_ ?_ (fun b hb => .inl hb))
  · rw [setM_id, ← dkA_len d m h.hi _ (.int .i64 x) (by rw [hx, hlen])]
    exact hg.set_ _ _
  · refine fm_keep (W := wr) (fm_is hfm (fun j => ?_) (fun j hj => ?_)) (fun b hb => Below.heap_setCell _ _ _ _ (fun e => dkAt_m_g h.at0 h.hi (by rw [hb, e])))
    · rw [hlen]; show _ ↔ j < _; omega
    · have hj2 := hj
      show (List.take c.pl (d.fl i)).getD j zS = (d.fl i).getD j zS
      rw [List.getD_eq_getElem?_getD, List.getD_eq_getElem?_getD, List.getElem?_take, if_pos (by omega)]
  · exact ⟨by rw [hlen]; omega, fun s hs => hok.2 s (List.mem_of_mem_take hs)⟩
  · exact fr_set (fr_mono hf (fun b hb => .inl (.inr hb))) (.inl (.inl rfl)) _
set_option maxRecDepth 100000 in
set_option maxHeartbeats 4000000 in
theorem done_cut (S : Nat → Prop) (g : Nat) (m : Mm) (d : Dk) (N : Nat) (c : Ch) (s : Nat) (hs : s < 2) (hc : ChOk c) (hcut : c.cut = true) (w : World) (hm : DkAt w S g m d N) :
    Calls Try.prog 77 #[.agg (chL c).toArray, .pointer (some ⟨g, 16 * s, none⟩)] w fun e w' => e = .returned (.tuple #[]) ∧ DkQ w S g m (d.setF (8 * s + c.file) ((d.fl (8 * s + c.file)).take c.pl)) N w' := by
  have hi : 8 * s + c.file < 16 := by have := hc.1; omega
  obtain ⟨i, hie⟩ : ∃ i, 8 * s + c.file = i := ⟨_, rfl⟩
  obtain ⟨o, ho⟩ : ∃ o, 16 * s + c.file * 2 = o := ⟨_, rfl⟩
  have hio : 2 * i = o := by omega
  rw [hie] at hi ⊢
  obtain ⟨x0, x1, x2⟩ := chA_cells w c _ (Below.refl _ _)
  rw [hcut] at x2
  have hf8 : (c.file : Int) < 8 := by have := hc.1; omega
  have hp := hc.2.1
  have HC := Lib.hid hcut
  have HO := Lib.hid ho
  have HIO := Lib.hid hio
  have HM := Lib.hid hm
  have HOK := Lib.hid ((hm.ok i hi))
  clear hm hcut ho hio hie hc hs
  go_enter Try.func77, Try.ntmps77
  go_wp2
  go_quiet (fail)
  rename_i nq
  rw [HO.out]
  have HD := Lib.hid (dn_new HM.out c hi HIO.out (below_drewN (Below.refl _ (w.alloc (.cells (chL c).toArray 99))) nq))
  generalize (w.alloc (.cells (chL c).toArray 99)).drewN nq = W at HD ⊢
  obtain ⟨y0, y1, y2, y3, z0, z1, z2⟩ := dn_cells HD.out (fr_refl _ _)
  rw [HC.out] at z2
  clear x0 x1 x2 HM HO HIO
  obtain ⟨n, hn⟩ : ∃ n, (d.fl i).length = n := ⟨_, rfl⟩
  have hn8 : n ≤ 8192 := by rw [← hn]; exact HOK.out.1
  have HN := Lib.hid hn
  have HF0 := Lib.hid (HD.out.at0.fl i hi)
  rw [hn] at y0
  clear hn
  go_wp2
  go_loopw [5] (fun v wr => ∃ k : Nat, c.pl ≤ k ∧ (k ≤ n ∨ k = c.pl) ∧ v = .int .i64 k ∧ FM wr (m.M i) (fun j => j < n ∧ (j < c.pl ∨ k ≤ j)) (fun j => (d.fl i).getD j zS) ∧ Fr (fun b => m.M i = some b) W wr) (fun v _ => n - (intOf v).toNat)
  case atStart =>
    refine ⟨c.pl, Nat.le_refl _, .inr rfl, rfl, fm_is HF0.out (fun j => ?_) (fun _ _ => rfl), fr_refl _ _⟩
    rw [HN.out]
    show j < n ↔ _
    omega
  case round =>
    clear y0 y1 y2 y3 z0 z1 z2
    obtain ⟨k, hk1, hk2, rfl, hfm, hfr⟩ := hrel
    obtain ⟨y0, y1, y2, y3, z0, z1, z2⟩ := dn_cells HD.out hfr
    rw [HN.out] at y0
    rw [HC.out] at z2
    by_cases hlt : k < n
    · obtain ⟨W', hrun, hfm', hfr', hsz⟩ := fm_del hfm k (by omega) 0
      have HFM := Lib.hid hfm'
      have HFR := Lib.hid (fr_trans hfr hfr' (fun b hb => .inl hb))
      clear hfm hfm' hfr hfr' hsz
      go_wp2
      go_roundw
      case rel =>
        exact ⟨k + 1, by omega, by omega, by go_num, fm_is HFM.out (fun j => by show _ ↔ _; omega) (fun _ _ => rfl), HFR.out⟩
      case measure => simp [intOf]; omega
    · have HFM := Lib.hid hfm
      have HFR := Lib.hid hfr
      clear hfm hfr
      go_wp2
      go_region
      all_goals go_wp2
      all_goals
        refine bodyPost_ret (v := .tuple #[]) (by simp [results, Try.results77, go_sem]) rfl ⟨rfl, ?_⟩
        exact done_cut_end HD.out HN.out hn8 HOK.out hk1 hk2 hlt HFM.out HFR.out _ (by omega)
theorem dn_box {w : World} {S : Nat → Prop} {g : Nat} {m : Mm} {d : Dk} {N : Nat} {c : Ch} {i o : Nat} {W W' : World} (h : Dn w S g m d N c i o W) (hf : Fr (fun b => m.M i = some b) W W') : Blk W' w.heap.size 99 (chL c).toArray :=
  fr_blk hf h.box (fun e => by have := h.lt _ (h.at0.sm i h.hi _ e); omega)
theorem box_range {w W : World} {c : Ch} (h : Blk W w.heap.size 99 (chL c).toArray) : W.rangeAt w.heap.size 3 (vals8 c.bytes) := fun j v hv => by
  rw [h.cell]
  show (chL c).toArray[3 + j]? = some v
  rw [List.getElem?_toArray, Nat.add_comm]
  exact hv
theorem sec_load {w W : World} {c : Ch} (h : Blk W w.heap.size 99 (chL c).toArray) (hc : c.bytes.length = 64) :
    (Instr.loadAt 97 (.pointer (some ⟨w.heap.size, 3, none⟩))).run Try.prog W = .ok (secV c.bytes) W :=
  run_loadAt_mid W w.heap.size 3 97 (vals8 c.bytes) _ (box_range h) Try.underlying97 rfl (by rw [vals8_length, hc]; kernel_rfl)
/-- behind the store into the map -/
theorem done_put_end {w : World} {S : Nat → Prop} {g : Nat} {m : Mm} {d : Dk} {N : Nat} {c : Ch} {i o : Nat} {W wr : World} (h : Dn w S g m d N c i o W) {n b : Nat} (hn : (d.fl i).length = n) (hok : FlOk (d.fl i)) (hc : ChOk c) (hcut : c.cut = false)
    (hblk : Blk wr g 70 (dkA d (m.setM i (some b))))
    (hfm : FM wr (some b) (fun j => j < n ∨ j = c.pl) (fun j => if j = c.pl then c.bytes else (d.fl i).getD j zS)) (hf : Fr (fun z => z = g ∨ m.M i = some z) W wr) (hnew : m.M i = some b ∨ W.heap.size ≤ b) (x : Int) (hx : x = (max n (c.pl + 1) : Nat)) :
    DkQ w S g m (d.setF i (putS (d.fl i) c.pl c.bytes)) N ((wr.setCell ⟨g, o, none⟩ (.int .i64 x)).drew) := by
  have ho := h.ho
  subst ho
  have hlen : (putS (d.fl i) c.pl c.bytes).length = max n (c.pl + 1) := by rw [putS_length, hn]
  have hd : doneF (d.fl i) c = putS (d.fl i) c.pl c.bytes := by unfold doneF; rw [hcut]; rfl
  have hgb : b ≠ g := fun e => by
    obtain ⟨D, k, ⟨es, clock, h1, _⟩, _⟩ := hfm
    unfold Blk at hblk
    rw [e, hblk] at h1
    cases h1
  refine dn_drew (dn_end h _ (some b) ?_ ?_ (hd ▸ doneF_ok hok hc) ?_ (fun z hz => by injection hz with hz; subst hz; exact hnew))
  · rw [← dkA_len d (m.setM i (some b)) h.hi _ (.int .i64 x) (by rw [hx, hlen])]
    exact hblk.set_ _ _
  · refine fm_keep (W := wr) (fm_more hfm (fun j hj => ⟨?_, ?_⟩) (fun j hj hno => ?_)) (fun z hz => Below.heap_setCell _ _ _ _ (fun e => hgb (by injection hz with hz; rw [hz, e])))
    · rw [hlen]; show j < _; have : j < n ∨ j = c.pl := hj; omega
    · exact putS_get _ _ _ _
    · show (putS (d.fl i) c.pl c.bytes).getD j zS = zS
      have hno2 : ¬ (j < n ∨ j = c.pl) := hno
      rw [putS_get, if_neg (by omega), List.getD_eq_getElem?_getD, List.getElem?_eq_none (by omega)]
      rfl
  · exact fr_set hf (.inl (.inl rfl)) _
theorem dk_cells {w W : World} {g : Nat} {m : Mm} {d : Dk} {c : Ch} {i o : Nat} (hg : Blk W g 70 (dkA d m)) (hb : Blk W w.heap.size 99 (chL c).toArray) (hi : i < 16) (ho : 2 * i = o) :
    W.cell? ⟨g, o, none⟩ = some (.int .i64 ((d.fl i).length : Nat)) ∧ W.cell? ⟨g, o + 1, none⟩ = some (.map (m.M i)) ∧ W.frozen? ⟨g, o, none⟩ = false ∧ W.frozen? ⟨g, o + 1, none⟩ = false ∧
    W.cell? ⟨w.heap.size, 0, none⟩ = some (.int .i64 c.file) ∧ W.cell? ⟨w.heap.size, 1, none⟩ = some (.int .i64 c.pl) ∧ W.cell? ⟨w.heap.size, 2, none⟩ = some (.bool c.cut) := by
  subst ho
  exact ⟨by rw [hg.cell, dkA_get _ _ (by omega), cell_len _ _ hi], by rw [hg.cell, dkA_get _ _ (by omega), cell_map _ _ hi], hg.frozen _, hg.frozen _, by rw [hb.cell]; rfl, by rw [hb.cell]; rfl, by rw [hb.cell]; rfl⟩
/-- the file's map is made -/
theorem dn_made {w : World} {S : Nat → Prop} {g : Nat} {m : Mm} {d : Dk} {N : Nat} {c : Ch} {i o : Nat} {W : World} (h : Dn w S g m d N c i o W) {n : Nat} (hn : (d.fl i).length = n) (hmi : m.M i = none) (hfl : FL W none (d.fl i)) :
    Blk ((W.alloc (.map #[] 0)).setCell ⟨g, o + 1, none⟩ (.map (some W.heap.size))) g 70 (dkA d (m.setM i (some W.heap.size))) ∧
    FM ((W.alloc (.map #[] 0)).setCell ⟨g, o + 1, none⟩ (.map (some W.heap.size))) (some W.heap.size) (· < n) (fun j => (d.fl i).getD j zS) ∧
    Fr (fun z => z = g ∨ m.M i = some z) W ((W.alloc (.map #[] 0)).setCell ⟨g, o + 1, none⟩ (.map (some W.heap.size))) ∧
    Blk ((W.alloc (.map #[] 0)).setCell ⟨g, o + 1, none⟩ (.map (some W.heap.size))) w.heap.size 99 (chL c).toArray := by
  have ho := h.ho
  subst ho
  have hg := h.at0.blk
  have hgl := hg.lt
  have hgw : g < w.heap.size := h.lt _ h.at0.sg
  refine ⟨?_, ?_, fr_set (fr_of one_alloc) (.inl (.inl rfl)) _, (h.box.alloc _).far (p := ⟨g, 2 * i + 1, none⟩) (by show w.heap.size ≠ g; omega) _⟩
  · rw [← dkA_map d m h.hi]
    exact (hg.alloc _).set_ _ _
  · refine fm_keep (fm_made W (fun j hj => ?_)) (fun b hb => Below.heap_setCell _ _ _ _ (by injection hb with hb; subst hb; show W.heap.size ≠ g; omega))
    unfold FL FM at hfl
    rw [hn] at hfl
    exact hfl j hj
set_option maxRecDepth 100000 in
set_option maxHeartbeats 4000000 in
theorem done_put (S : Nat → Prop) (g : Nat) (m : Mm) (d : Dk) (N : Nat) (c : Ch) (s : Nat) (hs : s < 2) (hc : ChOk c) (hcut : c.cut = false) (w : World) (hm : DkAt w S g m d N) :
    Calls Try.prog 77 #[.agg (chL c).toArray, .pointer (some ⟨g, 16 * s, none⟩)] w fun e w' => e = .returned (.tuple #[]) ∧ DkQ w S g m (d.setF (8 * s + c.file) (putS (d.fl (8 * s + c.file)) c.pl c.bytes)) N w' := by
  have hi : 8 * s + c.file < 16 := by have := hc.1; omega
  obtain ⟨i, hie⟩ : ∃ i, 8 * s + c.file = i := ⟨_, rfl⟩
  obtain ⟨o, ho⟩ : ∃ o, 16 * s + c.file * 2 = o := ⟨_, rfl⟩
  have hio : 2 * i = o := by omega
  rw [hie] at hi ⊢
  obtain ⟨x0, x1, x2⟩ := chA_cells w c _ (Below.refl _ _)
  rw [hcut] at x2
  have hf8 : (c.file : Int) < 8 := by have := hc.1; omega
  have hp := hc.2.2.1 hcut
  have HC := Lib.hid hcut
  have HCO := Lib.hid hc
  have HO := Lib.hid ho
  have HIO := Lib.hid hio
  have HM := Lib.hid hm
  have HOK := Lib.hid ((hm.ok i hi))
  clear hm hcut ho hio hie hc hs
  go_enter Try.func77, Try.ntmps77
  go_wp2
  go_quiet (fail)
  rename_i nq
  rw [HO.out]
  have HD := Lib.hid (dn_new HM.out c hi HIO.out (below_drewN (Below.refl _ (w.alloc (.cells (chL c).toArray 99))) nq))
  generalize (w.alloc (.cells (chL c).toArray 99)).drewN nq = W at HD ⊢
  obtain ⟨y0, y1, y2, y3, z0, z1, z2⟩ := dn_cells HD.out (fr_refl _ _)
  rw [HC.out] at z2
  clear x0 x1 x2 HM HO HIO
  obtain ⟨n, hn⟩ : ∃ n, (d.fl i).length = n := ⟨_, rfl⟩
  have hn8 : n ≤ 8192 := by rw [← hn]; exact HOK.out.1
  have HN := Lib.hid hn
  have HF0 := Lib.hid (HD.out.at0.fl i hi)
  rw [hn] at y0
  clear hn
  cases hmi : m.M i with
  | some b =>
    have hq := map_nil (some b)
    rw [hmi] at y1 HF0
    have hfm : FM W (some b) (· < n) (fun j => (d.fl i).getD j zS) := by have := HF0.out; unfold FL at this; rwa [HN.out] at this
    obtain ⟨W', hrun, hfm', hfr, hsz⟩ := fm_put (W := W.drew) hfm (fun j hj => hj) (by omega) c.pl (by omega) c.bytes
    have hrun : (Instr.mapUpdate 64 (.map (some b)) (.int .i64 c.pl) (.agg (vals8 c.bytes).toArray)).run Try.prog W.drew = .ok () W' := hrun
    have hld := box_range HD.out.box
    have hu := Try.underlying97
    have hs64 : (Try.prog.info? 97).map (·.size) = some (vals8 c.bytes).length := by rw [vals8_length, HCO.out.2.2.2.1]; kernel_rfl
    have hfr2 : Fr (fun z => m.M i = some z) W W' := fr_mono (fr_trans (fr_of ((Below.refl _ W).drew)) hfr (fun b hb => .inl hb)) (fun b hb => .inl (by rw [hmi]; exact hb))
    obtain ⟨p0, p1, p2, p3, q0, q1, q2⟩ := dn_cells HD.out hfr2
    rw [HN.out] at p0
    rw [HC.out] at q2
    rw [hmi] at p1
    have hld2 := box_range (dn_box HD.out hfr2)
    have HFM := Lib.hid hfm'
    have HBL := Lib.hid (show Blk W' g 70 (dkA d (m.setM i (some b))) by rw [← hmi, setM_id]; exact fr_blk hfr2 HD.out.at0.blk (dkAt_m_g HD.out.at0 hi))
    have HFR := Lib.hid (fr_mono (T := fun z => z = g ∨ m.M i = some z) hfr2 (fun b hb => .inl (.inr hb)))
    have HMI := Lib.hid hmi
    clear hfm hfm' hfr hsz hfr2 hmi
    go_wp2
    go_region_held3 (fun V => V.cell? ⟨g, o + 1, none⟩ = some (.map (some b)) ∧ V.cell? ⟨w.heap.size, 1, none⟩ = some (.int .i64 c.pl) ∧ V.rangeAt w.heap.size 3 (vals8 c.bytes)) (first | exact ⟨y1, z1, hld⟩ | exact ⟨p1, q1, hld2⟩) (first | fail)
    go_wp2
    go_region
    all_goals go_wp2
    all_goals
      refine bodyPost_end (v := .tuple #[]) (by simp [results, Try.results77, go_sem]) rfl ⟨rfl, ?_⟩
      exact done_put_end HD.out HN.out HOK.out HCO.out HC.out HBL.out HFM.out HFR.out (.inl HMI.out) _ (by omega)
  | none =>
    have hq := map_nil none
    have hmm := @run_makeMap Try.prog
    rw [hmi] at y1 HF0
    obtain ⟨hblk, hfm, hfr0, hbox⟩ := dn_made HD.out HN.out hmi HF0.out
    have HMI := Lib.hid hmi
    have hws : w.heap.size ≤ W.heap.size := HD.out.bel.size
    have HWS := Lib.hid hws
    have a1 := (dk_cells (HD.out.at0.blk.alloc (.map #[] 0)) (HD.out.box.alloc (.map #[] 0)) hi HD.out.ho).2.1
    have a2 := (HD.out.at0.blk.alloc (.map #[] 0)).frozen (o + 1)
    rw [HMI.out] at a1
    clear hmi hws
    go_wp2
    clear a1 a2
    generalize hb : W.heap.size = b at hblk hfm hfr0 hbox ⊢
    have HB := Lib.hid hb
    generalize (W.alloc (.map #[] 0)).setCell ⟨g, o + 1, none⟩ (.map (some b)) = V at hblk hfm hfr0 hbox ⊢
    clear y0 y1 y2 y3 z0 z1 z2 hb hmm
    obtain ⟨y0, y1, y2, y3, z0, z1, z2⟩ := dk_cells hblk hbox hi HD.out.ho
    rw [HN.out] at y0
    rw [HC.out] at z2
    rw [setM_same] at y1
    obtain ⟨W', hrun, hfm', hfr, hsz⟩ := fm_put (W := V.drew) hfm (fun j hj => hj) (by omega) c.pl (by omega) c.bytes
    have hrun : (Instr.mapUpdate 64 (.map (some b)) (.int .i64 c.pl) (.agg (vals8 c.bytes).toArray)).run Try.prog V.drew = .ok () W' := hrun
    have hld := box_range hbox
    have hu := Try.underlying97
    have hs64 : (Try.prog.info? 97).map (·.size) = some (vals8 c.bytes).length := by rw [vals8_length, HCO.out.2.2.2.1]; kernel_rfl
    have hfr2 : Fr (fun z => some b = some z) V W' := fr_trans (fr_of ((Below.refl _ V).drew)) hfr (fun b hb => .inl hb)
    have hgb : ¬ some b = some g := fun e => by
      injection e with e
      have := HD.out.at0.blk.lt
      have := HB.out
      omega
    have hwb : ¬ some b = some w.heap.size := fun e => by
      injection e with e
      have := HD.out.box.lt
      have := HB.out
      omega
    have hbl2 := fr_blk hfr2 hblk hgb
    have hbx2 := fr_blk hfr2 hbox hwb
    obtain ⟨p0, p1, p2, p3, q0, q1, q2⟩ := dk_cells hbl2 hbx2 hi HD.out.ho
    rw [HN.out] at p0
    rw [HC.out] at q2
    rw [setM_same] at p1
    have hld2 := box_range hbx2
    have HFM := Lib.hid hfm'
    have HBL := Lib.hid hbl2
    have HFR := Lib.hid (fr_trans hfr0 hfr2 (fun z hz => .inr (by injection hz with hz; rw [HB.out]; omega)))
    clear hfm hfm' hfr hsz hfr2 hblk hbox hbl2 hbx2 hfr0 hgb hwb
    go_region_held3 (fun V => V.cell? ⟨g, o + 1, none⟩ = some (.map (some b)) ∧ V.cell? ⟨w.heap.size, 1, none⟩ = some (.int .i64 c.pl) ∧ V.rangeAt w.heap.size 3 (vals8 c.bytes)) (first | exact ⟨y1, z1, hld⟩ | exact ⟨p1, q1, hld2⟩) (first | fail)
    go_wp2
    go_region
    all_goals go_wp2
    all_goals
      refine bodyPost_end (v := .tuple #[]) (by simp [results, Try.results77, go_sem]) rfl ⟨rfl, ?_⟩
      exact done_put_end HD.out HN.out HOK.out HCO.out HC.out HBL.out HFM.out HFR.out (.inr (by rw [HB.out]; exact Nat.le_refl _)) _ (by omega)
def doneA (s : Nat) (d : Dk) (c : Ch) : Dk := d.setF (8 * s + c.file) (doneF (d.fl (8 * s + c.file)) c)
theorem done_at (S : Nat → Prop) (g : Nat) (m : Mm) (d : Dk) (N : Nat) (c : Ch) (s : Nat) (hs : s < 2) (hc : ChOk c) (w : World) (h : DkAt w S g m d N) :
    Calls Try.prog 77 #[.agg (chL c).toArray, .pointer (some ⟨g, 16 * s, none⟩)] w fun e w' => e = .returned (.tuple #[]) ∧ DkQ w S g m (doneA s d c) N w' := by
  cases hcut : c.cut with
  | true =>
    have h1 := done_cut S g m d N c s hs hc hcut w h
    unfold doneA doneF
    rwa [hcut]
  | false =>
    have h1 := done_put S g m d N c s hs hc hcut w h
    unfold doneA doneF
    rwa [hcut]
theorem done_any (S : Nat → Prop) (g : Nat) (d : Dk) (N : Nat) (c : Ch) (s : Nat) (hs : s < 2) (hc : ChOk c) (w : World) (h : DkS w S g d N) :
    Calls Try.prog 77 #[.agg (chL c).toArray, .pointer (some ⟨g, 16 * s, none⟩)] w fun e w' => e = .returned (.tuple #[]) ∧ DkR w S g (doneA s d c) N w' := by
  obtain ⟨m, hm⟩ := h
  exact (done_at S g m d N c s hs hc w hm).mono fun e w' h => ⟨h.1, dkQ_R h.2⟩
end Go.Proofs.Ythipaabjmlgjmaa
namespace Go.Proofs.Ythipaabjmlgjmaa
open Go.RowKit Go Go.Maps
set_option linter.unusedVariables false
set_option linter.unusedSimpArgs false
theorem dkAt_field {W W' : World} {S : Nat → Prop} {g : Nat} {m : Mm} {d : Dk} {N : Nat} (h : DkAt W S g m d N) (d' : Dk) (N' : Nat) (hfl : d'.fl = d.fl) (hlo : d'.loose = d.loose) (har : d'.armed = d.armed)
    (hblk : Blk W' g 70 (dkA d' m)) (hf : Fr (fun b => b = g) W W') (hN : d'.ops ≤ N' ∧ N ≤ N' ∧ N' ≤ 1000000) (hp : -1 ≤ d'.power ∧ d'.power ≤ 2000000000000) : DkAt W' S g m d' N' := by
  obtain ⟨dfl, dlo, dar, dpo, dop, dof⟩ := d'
  simp only at hfl hlo har hN hp
  subst hfl hlo har
  have hb : ∀ b, S b → b ≠ g → W'.heap[b]? = W.heap[b]? := fun b hs h1 => hf.block b (h.lt b hs) h1
  obtain ⟨D, n, hn, ho, hk⟩ := h.arm
  exact ⟨hblk, fun i hi => fm_keep (h.fl i hi) (fun b e => hb b (h.sm i hi b e) (fun e2 => dkAt_m_g h hi (by rw [e, e2]))), h.ok, h.ap, ⟨D, n, by omega, arm_block ho (hb m.ga h.sa (dkAt_ga h)), hk⟩, h.ga, own_block h.loo (fun z hz => hb z (h.sl z hz) (h.ng z hz)), h.chs, h.ng, h.sg, h.sm, h.sa, h.sl, fun b hs => Nat.lt_of_lt_of_le (h.lt b hs) hf.size, ⟨hN.1, by have := h.cN.2.1; show d.loose.length ≤ _; omega, hN.2.2⟩, hp⟩
/-- one operation more -/
def Dk.op1 (d : Dk) : Dk := { d with ops := d.ops + 1 }
def Dk.goes (d : Dk) : Dk := { d.op1 with off := true }
def Dk.hits (d : Dk) : Dk := { d.op1 with armed := fun k => if k = d.ops then 0 else d.armed k }
theorem dkA_ops (d : Dk) (m : Mm) (v : Value) (hv : v = .int .i64 ((d.ops + 1 : Nat) : Int)) : (dkA d m).setIfInBounds 35 v = dkA d.op1 m := by
  subst hv
  refine dkA_set _ _ fun k hk => ?_
  by_cases e : k = 35
  · subst e; rfl
  · rw [if_neg e]
    unfold dkCell
    by_cases h1 : k < 32
    · rw [if_pos h1, if_pos h1]; rfl
    · rw [if_neg h1, if_neg h1, if_neg e, if_neg e]; rfl
theorem dkA_off (d : Dk) (m : Mm) (b : Bool) : (dkA d m).setIfInBounds 36 (.bool b) = dkA { d with off := b } m := by
  refine dkA_set _ _ fun k hk => ?_
  by_cases e : k = 36
  · subst e; rfl
  · rw [if_neg e]
    unfold dkCell
    by_cases h1 : k < 32
    · rw [if_pos h1, if_pos h1]
    · rw [if_neg h1, if_neg h1]
      by_cases e2 : k = 32
      · subst e2; rfl
      · rw [if_neg e2, if_neg e2]
        by_cases e3 : k = 33
        · subst e3; rfl
        · rw [if_neg e3, if_neg e3]
          by_cases e4 : k = 34
          · subst e4; rfl
          · rw [if_neg e4, if_neg e4, if_pos (by omega), if_pos (by omega)]
/-- the cells beside the files -/
theorem dk_more {W : World} {g : Nat} {m : Mm} {d : Dk} (hg : Blk W g 70 (dkA d m)) :
    W.cell? ⟨g, 32, none⟩ = some (.slice m.A d.loose.length m.cap) ∧ W.cell? ⟨g, 33, none⟩ = some (.map (some m.ga)) ∧ W.cell? ⟨g, 34, none⟩ = some (.int .i64 d.power) ∧ W.cell? ⟨g, 35, none⟩ = some (.int .i64 d.ops) ∧ W.cell? ⟨g, 36, none⟩ = some (.bool d.off) ∧
    W.frozen? ⟨g, 32, none⟩ = false ∧ W.frozen? ⟨g, 33, none⟩ = false ∧ W.frozen? ⟨g, 34, none⟩ = false ∧ W.frozen? ⟨g, 35, none⟩ = false ∧ W.frozen? ⟨g, 36, none⟩ = false :=
  ⟨by rw [hg.cell, dkA_get _ _ (by omega)]; rfl, by rw [hg.cell, dkA_get _ _ (by omega)]; rfl, by rw [hg.cell, dkA_get _ _ (by omega)]; rfl, by rw [hg.cell, dkA_get _ _ (by omega)]; rfl, by rw [hg.cell, dkA_get _ _ (by omega)]; rfl, hg.frozen _, hg.frozen _, hg.frozen _, hg.frozen _, hg.frozen _⟩
theorem fr_one (w : World) (g o : Nat) (x : Value) : Fr (fun b => b = g) w (w.setCell ⟨g, o, none⟩ x) := fr_set (S := fun b => b = g) (fr_refl _ _) (p := ⟨g, o, none⟩) (.inl rfl) x
/-- the operation is counted -/
theorem op1_at {w : World} {S : Nat → Prop} {g : Nat} {m : Mm} {d : Dk} {N : Nat} (h : DkAt w S g m d N) (hN : N + 1 ≤ 1000000) (v : Int) (hv : v = (d.ops : Int) + 1) : DkAt (w.setCell ⟨g, 35, none⟩ (.int .i64 v)) S g m d.op1 (N + 1) :=
  dkAt_field h d.op1 (N + 1) rfl rfl rfl (by rw [← dkA_ops d m _ rfl]; rw [hv]; exact h.blk.set_ 35 _) (fr_one _ _ _ _) ⟨by have := h.cN.1; show d.ops + 1 ≤ _; omega, by omega, hN⟩ h.pw
theorem dkR_of {w w' : World} {S : Nat → Prop} {g : Nat} {m : Mm} {d : Dk} {N : Nat} (h : DkAt w' S g m d N) (hf : Fr S w w') : DkR w S g d N w' := ⟨S, ⟨m, h⟩, hf, fun b hb => .inl hb⟩
theorem off_at {w : World} {S : Nat → Prop} {g : Nat} {m : Mm} {d : Dk} {N : Nat} (h : DkAt w S g m d N) (b : Bool) : DkAt (w.setCell ⟨g, 36, none⟩ (.bool b)) S g m { d with off := b } N :=
  dkAt_field h { d with off := b } N rfl rfl rfl (by rw [← dkA_off d m b]; exact h.blk.set_ 36 _) (fr_one _ _ _ _) ⟨h.cN.1, Nat.le_refl _, h.cN.2.2⟩ h.pw
set_option maxRecDepth 100000 in
set_option maxHeartbeats 4000000 in
theorem op_goes (S : Nat → Prop) (g : Nat) (d : Dk) (N : Nat) (hN : N + 1 ≤ 1000000) (A : Option Addr) (n c : Nat) (w : World) (h : DkS w S g d N) (hp : (d.ops : Int) = d.power) :
    Calls Try.prog 51 #[.pointer (some ⟨g, 0, none⟩), .slice A n c] w fun e w' => e = .returned (.int .i64 32) ∧ DkR w S g d.goes (N + 1) w' := by
  obtain ⟨m, hm⟩ := h
  obtain ⟨y2, y3, y4, y5, y6, z2, z3, z4, z5, z6⟩ := dk_more hm.blk
  have hpb : ((d.ops : Int) == d.power) = true := by rw [beq_iff_eq]; exact hp
  have hops : (d.ops : Int) ≤ 1000000 := by have := hm.cN; omega
  have h1 := op1_at hm hN ((d.ops : Int) + 1) rfl
  have h2 := off_at h1 true
  have HE := Lib.hid (dkR_of (w := w) (d := d.goes) h2 (fr_set (fr_set (fr_refl _ _) (.inl hm.sg) _) (.inl hm.sg) _))
  clear hm h1 h2 hp
  go_enter Try.func51, Try.ntmps51
  go_wp2
  go_ret
  exact ⟨rfl, HE.out⟩
theorem dkAt_arm {W W' : World} {S : Nat → Prop} {g : Nat} {m : Mm} {d : Dk} {N : Nat} (h : DkAt W S g m d N) (ar : Int → Int) (N' : Nat) (hN : N ≤ N' ∧ N' ≤ 1000000)
    (harm : ∃ D n, n ≤ N' ∧ W'.ownsMap (H := Value) Try.prog 3 (plainElem Try.prog 25) m.ga n D ∧ ∀ k : Int, D.atKey (ki k) (.lit (.int .i64 0)) = .lit (.int .i64 (ar k)))
    (hf : Fr (fun b => some m.ga = some b) W W') : DkAt W' S g m { d with armed := ar } N' := by
  have hb : ∀ b, S b → b ≠ m.ga → W'.heap[b]? = W.heap[b]? := fun b hs h1 => hf.block b (h.lt b hs) (fun e => h1 (by injection e with e; exact e.symm))
  have hlg : ∀ z, (Value.slice m.A d.loose.length m.cap).ownBlock = some z → z ≠ m.ga := fun z hz e => by
    subst e
    obtain ⟨D, n, _, ⟨es, clock, h1, _⟩, _⟩ := h.arm
    rcases h.loo.2 with ⟨hn, _⟩ | ⟨g', cap, cur, hv, _, hg, _⟩
    · rw [hn] at hz; cases hz
    · rw [hv] at hz
      injection hz with hz
      rw [← hz] at h1
      rw [show (⟨g', 0, none⟩ : Addr).block = g' from rfl, hg] at h1
      cases h1
  exact ⟨(hb g h.sg (fun e => dkAt_ga h e.symm)).trans h.blk, fun i hi => fm_keep (h.fl i hi) (fun b e => hb b (h.sm i hi b e) (fun e2 => h.ga i hi (by rw [e, e2]))), h.ok, h.ap, harm, h.ga, own_block h.loo (fun z hz => hb z (h.sl z hz) (hlg z hz)), h.chs, h.ng, h.sg, h.sm, h.sa, h.sl, fun b hs => Nat.lt_of_lt_of_le (h.lt b hs) hf.size, ⟨by have := h.cN.1; show d.ops ≤ _; omega, by have := h.cN.2.1; show d.loose.length ≤ _; omega, hN.2⟩, h.pw⟩
theorem zeroErr (w : World) : (zeroValue 25).run Try.prog w = .ok (.int .i64 0) w := by kernel_rfl
theorem arm_look {W : World} {S : Nat → Prop} {g : Nat} {m : Mm} {d : Dk} {N : Nat} (h : DkAt W S g m d N) (k : Int) (h0 : -9223372036854775808 ≤ k) (h1 : k ≤ 9223372036854775807) :
    (Instr.lookup 63 (.map (some m.ga)) (.int .i64 k) false).run Try.prog W = .ok (.int .i64 (d.armed k)) W := by
  obtain ⟨D, n, _, ho, hk⟩ := h.arm
  obtain ⟨c, hrun, hat, _⟩ := ho.lookup_int keyed Try.underlying63 Try.underlying25 (zeroErr _) (key_int k h0 h1)
  rw [hk] at hat
  generalize d.armed k = E at hat ⊢
  simp only [DataW.lit.injEq, Lit.int.injEq, true_and] at hat
  rw [hat]
  exact hrun
theorem arm_del {W : World} {S : Nat → Prop} {g : Nat} {m : Mm} {d : Dk} {N : Nat} (h : DkAt W S g m d N) (k : Int) (h0 : -9223372036854775808 ≤ k) (h1 : k ≤ 9223372036854775807) (ty : TypeId) :
    ∃ W', (Builtin.delete_ #[63, 3] ty #[.map (some m.ga), .int .i64 k]).run Try.prog W = .ok (.tuple #[]) W' ∧ DkAt W' S g m { d with armed := fun j => if j = k then 0 else d.armed j } N ∧ Fr (fun b => some m.ga = some b) W W' := by
  obtain ⟨D, n, hn, ho, hk⟩ := h.arm
  obtain ⟨W', hrun, hown', hT⟩ := ho.drop keyed Try.underlying63 (key_int k h0 h1) ty
  have hfr : Fr (fun b => some m.ga = some b) W W' := fr_grown (fr_refl _ _) hT.grown (fun z hz => .inl hz)
  refine ⟨W', hrun, dkAt_arm h _ N ⟨Nat.le_refl _, h.cN.2.2⟩ ⟨_, n, hn, hown', fun j => ?_⟩ hfr, hfr⟩
  by_cases e : j = k
  · subst e; rw [Maps.atKey_del_same, if_pos rfl]
  · rw [Maps.atKey_del_other (fun e2 => e (ki_inj e2)), if_neg e]; exact hk j
set_option maxRecDepth 100000 in
set_option maxHeartbeats 4000000 in
theorem op_hits (S : Nat → Prop) (g : Nat) (d : Dk) (N : Nat) (hN : N + 1 ≤ 1000000) (A : Option Addr) (n c : Nat) (w : World) (h : DkS w S g d N) (hp : (d.ops : Int) ≠ d.power) (ha : d.armed d.ops ≠ 0) :
    Calls Try.prog 51 #[.pointer (some ⟨g, 0, none⟩), .slice A n c] w fun e w' => e = .returned (.int .i64 (d.armed d.ops)) ∧ DkR w S g d.hits (N + 1) w' := by
  obtain ⟨m, hm⟩ := h
  obtain ⟨y2, y3, y4, y5, y6, z2, z3, z4, z5, z6⟩ := dk_more hm.blk
  have hpb : ((d.ops : Int) == d.power) = false := by rw [beq_eq_false_iff_ne]; exact hp
  have hops : (d.ops : Int) ≤ 1000000 := by have := hm.cN; omega
  have h1 := op1_at hm hN ((d.ops : Int) + 1) rfl
  obtain ⟨W', hdel, h2, hf2⟩ := arm_del h1 d.ops (by omega) (by omega) 0
  have hlk : (Instr.lookup 63 (.map (some m.ga)) (.int .i64 d.ops) false).run Try.prog (w.setCell ⟨g, 35, none⟩ (.int .i64 ((d.ops : Int) + 1))) = .ok (.int .i64 (d.armed d.ops)) (w.setCell ⟨g, 35, none⟩ (.int .i64 ((d.ops : Int) + 1))) := arm_look h1 d.ops (by omega) (by omega)
  have hne : (d.armed d.ops != 0) = true := by rw [bne_iff_ne]; exact ha
  have HE := Lib.hid (dkR_of (w := w) (d := d.hits) h2 (fr_trans (fr_set (fr_refl _ _) (p := ⟨g, 35, none⟩) (.inl hm.sg) _) hf2 (fun b hb => .inl (by injection hb with hb; rw [← hb]; exact hm.sa))))
  generalize d.armed d.ops = E at *
  clear hm h1 h2 hp ha hf2
  go_enter Try.func51, Try.ntmps51
  go_wp2
  go_ret
  exact ⟨rfl, HE.out⟩
end Go.Proofs.Ythipaabjmlgjmaa
namespace Go.Proofs.Ythipaabjmlgjmaa
open Go.RowKit Go Go.Maps
set_option linter.unusedVariables false
set_option linter.unusedSimpArgs false
/-- a slice of changes as it is read -/
def ChsAt (W : World) (A : Option Addr) (l : List Ch) : Prop := l = [] ∨ ∃ b o, A = some ⟨b, o, none⟩ ∧ b < W.heap.size ∧ ∀ j c, l[j]? = some c → W.rangeAt b (o + j * 67) (chL c)
theorem dkR_trans {w u v x : World} {S : Nat → Prop} {g : Nat} {d d2 : Dk} {N N2 : Nat} (h : DkR w S g d N u) (hb : Below u.heap.size u v) (k : ∀ S', DkS v S' g d N → DkR v S' g d2 N2 x) : DkR w S g d2 N2 x := by
  obtain ⟨S', h1, h2, h3⟩ := h
  obtain ⟨S2, k1, k2, k3⟩ := k S' (dkS_below h1 hb)
  refine ⟨S2, k1, fr_trans (fr_step h2 hb) k2 h3, fun b hs => ?_⟩
  rcases k3 b hs with h4 | h4
  · exact h3 b h4
  · exact .inr (Nat.le_trans h2.size (Nat.le_trans hb.size h4))
theorem dkR_same {w u : World} {S : Nat → Prop} {g : Nat} {d d2 : Dk} {N N2 : Nat} (h : DkR w S g d N u) (k : ∀ S' x, DkS x S' g d N → DkS x S' g d2 N2) : DkR w S g d2 N2 u := by
  obtain ⟨S', h1, h2, h3⟩ := h
  exact ⟨S', k _ _ h1, h2, h3⟩
theorem wpList_store_new {P : Program} {w : World} {ops : Array Oper} {rest : List Oper} {op : Oper} {a : Act} {Q : Exit → Act → World → Prop} (hgd : op.guard = none) (ty : TypeId) (x y : Operand) (ho : op.op = .store ty x y)
    (W : World) (c c' : Array Value) (hw : w = W.alloc (.cells c ty)) (hx : a.eval x = .pointer (some ⟨W.heap.size, 0, none⟩)) (hy : a.eval y = .agg c') (hi : (P.info? ty).map (·.size) = some c'.size) (hs : c.size = c'.size) (h1 : c'.all (·.oneCell') = true)
    (h : wpList P ops Q rest (a.put op.dst undef) (W.alloc (.cells c' ty))) : wpList P ops Q (op :: rest) a w := by
  subst hw
  refine wpList_plain hgd fun _ hK => ?_
  unfold Oper.wp execOp
  simp only [ho, hx, hy, Instr.storeAt, Instr.sureAddr, Sem.run_bind, Sem.run_pure, Result.andThen_ok, run_storeVar_new W ty c c' hi hs h1]
  exact hK _ _ h
theorem chL_one (c : Ch) : (chL c).toArray.all (·.oneCell') = true := all_oneCell_toArray (fun v hv => by
  unfold chL at hv
  simp only [List.mem_cons] at hv
  rcases hv with rfl | rfl | rfl | hv
  · rfl
  · rfl
  · rfl
  · exact vals8_one _ v hv)
def doneAll (s : Nat) (d : Dk) (l : List Ch) : Dk := l.foldl (doneA s) d
theorem doneAll_snoc (s : Nat) (d : Dk) (l : List Ch) (c : Ch) : doneAll s d (l ++ [c]) = doneA s (doneAll s d l) c := by unfold doneAll; rw [List.foldl_append]; rfl
theorem take_snoc {α : Type} {l : List α} {j : Nat} {c : α} (h : l[j]? = some c) : l.take (j + 1) = l.take j ++ [c] := by
  rw [List.take_add_one, h]; rfl
theorem doneAll_rest (s : Nat) : ∀ (l : List Ch) (d : Dk), (doneAll s d l).loose = d.loose ∧ (doneAll s d l).armed = d.armed ∧ (doneAll s d l).power = d.power ∧ (doneAll s d l).ops = d.ops ∧ (doneAll s d l).off = d.off
  | [], d => ⟨rfl, rfl, rfl, rfl, rfl⟩
  | c :: l, d => doneAll_rest s l (doneA s d c)
theorem flat_get : ∀ (l : List Ch) (o : Nat) (j : Nat) (u : Value), (∀ c ∈ l, (chL c).length = 67) → (chsL l)[j]? = some u → ∃ q r c, l[q]? = some c ∧ (chL c)[r]? = some u ∧ o + j = o + q * 67 + r
  | [], o, j, u, _, h => by simp [chsL] at h
  | c :: l, o, j, u, hl, h => by
    have hc := hl c (List.mem_cons_self ..)
    have e : chsL (c :: l) = chL c ++ chsL l := by simp [chsL]
    rw [e] at h
    by_cases hj : j < 67
    · rw [List.getElem?_append_left (by omega)] at h
      exact ⟨0, j, c, rfl, h, by omega⟩
    · rw [List.getElem?_append_right (by omega), hc] at h
      obtain ⟨q, r, x, h1, h2, h3⟩ := flat_get l 0 (j - 67) u (fun x hx => hl x (List.mem_cons_of_mem _ hx)) h
      exact ⟨q + 1, r, x, by simpa using h1, h2, by omega⟩
theorem chsL_length : ∀ (l : List Ch), (∀ c ∈ l, (chL c).length = 67) → (chsL l).length = l.length * 67
  | [], _ => by simp [chsL]
  | c :: l, hl => by
    have e : chsL (c :: l) = chL c ++ chsL l := by simp [chsL]
    rw [e, List.length_append, chsL_length l (fun x hx => hl x (List.mem_cons_of_mem _ hx)), hl c (List.mem_cons_self ..), List.length_cons]
    omega
theorem chsL_append (a b : List Ch) : chsL (a ++ b) = chsL a ++ chsL b := by simp [chsL]
theorem chs_reads {W : World} {A : Option Addr} {l : List Ch} (h : ChsAt W A l) (hl : ∀ c ∈ l, (chL c).length = 67) : Reads W W.heap.size 67 A l.length (chsL l) := by
  refine ⟨chsL_length l hl, fun hn => ?_⟩
  obtain ⟨b, o, rfl, hb, hc⟩ := h.resolve_left (by rintro rfl; simp at hn)
  refine ⟨_, rfl, hb, fun j u hu => ?_⟩
  obtain ⟨q, r, c, h1, h2, h3⟩ := flat_get l o j u hl hu
  rw [Addr.add_mid, h3]
  exact hc q c h1 r u h2
theorem chsL_one (l : List Ch) : ∀ u ∈ chsL l, u.oneCell' = true := fun u hu => by
  obtain ⟨c, _, hc⟩ := List.mem_flatMap.1 hu
  exact (Array.all_eq_true_iff_forall_mem.1 (chL_one c)) u (by simpa using hc)
theorem chs_fr {S : Nat → Prop} {w W : World} {A : Option Addr} {l : List Ch} (h : ChsAt w A l) (hf : Fr S w W) (hA : ∀ a, A = some a → ¬ S a.block) : ChsAt W A l := by
  rcases h with h | ⟨b, o, rfl, hb, hc⟩
  · exact .inl h
  · refine .inr ⟨b, o, rfl, Nat.lt_of_lt_of_le hb hf.size, fun j c hj k v hv => ?_⟩
    exact (World.cell?_of_block (a := ⟨b, o + j * 67 + k, none⟩) (hf.block b hb (hA _ rfl))).trans (hc j c hj k v hv)
theorem dkA_loose (d : Dk) (m : Mm) (lo : List Ch) (A' : Option Addr) (cap' : Nat) (v : Value) (hv : v = .slice A' lo.length cap') : (dkA d m).setIfInBounds 32 v = dkA { d with loose := lo } { m with A := A', cap := cap' } := by
  subst hv
  refine dkA_set _ _ fun k hk => ?_
  by_cases e : k = 32
  · subst e; rfl
  · rw [if_neg e]
    unfold dkCell
    by_cases h1 : k < 32
    · rw [if_pos h1, if_pos h1]
    · rw [if_neg h1, if_neg h1, if_neg e, if_neg e]
theorem dkAt_loose {W W' : World} {S : Nat → Prop} {g : Nat} {m : Mm} {d : Dk} {N : Nat} (h : DkAt W S g m d N) (lo : List Ch) (A' : Option Addr) (cap' : Nat) (N' : Nat)
    (hown : W'.ownsRow 0 99 67 (.slice A' lo.length cap') lo.length (chsL lo)) (hch : ∀ c ∈ lo, ChOk c)
    (hblk : Blk W' g 70 (dkA { d with loose := lo } { m with A := A', cap := cap' })) (hf : Fr (fun b => b = g ∨ (Value.slice m.A d.loose.length m.cap).ownBlock = some b) W W')
    (hnew : ∀ z, (Value.slice A' lo.length cap').ownBlock = some z → (Value.slice m.A d.loose.length m.cap).ownBlock = some z ∨ ¬ S z) (hN : N ≤ N' ∧ lo.length ≤ 8192 * N' ∧ N' ≤ 1000000) :
    DkAt W' (fun b => S b ∨ (Value.slice A' lo.length cap').ownBlock = some b) g { m with A := A', cap := cap' } { d with loose := lo } N' := by
  have hb : ∀ b, S b → b ≠ g → (Value.slice m.A d.loose.length m.cap).ownBlock ≠ some b → W'.heap[b]? = W.heap[b]? := fun b hs h1 h2 => hf.block b (h.lt b hs) (fun h3 => by rcases h3 with h3 | h3; exact h1 h3; exact h2 h3)
  obtain ⟨D, n, hn, ho, hk⟩ := h.arm
  have hga : (Value.slice m.A d.loose.length m.cap).ownBlock ≠ some m.ga := fun hz => by
    obtain ⟨es, clock, h1, _⟩ := ho
    rcases h.loo.2 with ⟨hn, _⟩ | ⟨g', cap, cur, hv, _, hg, _⟩
    · rw [hn] at hz; cases hz
    · rw [hv] at hz
      injection hz with hz
      rw [← hz] at h1
      rw [show (⟨g', 0, none⟩ : Addr).block = g' from rfl, hg] at h1
      cases h1
  refine ⟨hblk, fun i hi => fm_keep (h.fl i hi) (fun b e => hb b (h.sm i hi b e) (fun e2 => dkAt_m_g h hi (by rw [e, e2])) (fun e2 => dkAt_m_l h hi e2 e)), h.ok, h.ap, ⟨D, n, by omega, arm_block ho (hb m.ga h.sa (dkAt_ga h) hga), hk⟩, h.ga, hown, hch, fun z hz e => ?_, .inl h.sg, fun i hi b e => .inl (h.sm i hi b e), .inl h.sa, fun z hz => .inr hz, fun b hs => ?_, ⟨by have := h.cN.1; show d.ops ≤ _; omega, hN.2⟩, h.pw⟩
  · rcases hnew z hz with h1 | h1
    · exact h.ng z h1 e
    · exact h1 (e ▸ h.sg)
  · rcases hs with hs | hs
    · exact Nat.lt_of_lt_of_le (h.lt b hs) hf.size
    · exact (hown.lt b hs).2
theorem ch_info : (Try.prog.info? 99).map (fun i => (i.zero, i.size, i.bytes)) = some (some (.agg Try.zeroCells99), 67, 88) := by kernel_rfl
theorem own_form {w : World} {base e size n : Nat} {v : Value} {xs : List Value} (h : w.ownsRow base e size v n xs) : ∃ A c, v = .slice A n c := by
  rcases h.2 with ⟨rfl, rfl⟩ | ⟨g, cap, cur, rfl, _⟩
  · exact ⟨_, _, rfl⟩
  · exact ⟨_, _, rfl⟩
theorem own_cell {wr w4 : World} {S : Nat → Prop} {g : Nat} {m : Mm} {dj : Dk} {N : Nat} {l : List Ch} (h : DkAt wr S g m dj N) (hlo : dj.loose = l) (hg : wr.grownBy w4 (Value.slice m.A l.length m.cap).ownBlock) : w4.cell? ⟨g, 32, none⟩ = some (.slice m.A l.length m.cap) ∧ w4.frozen? ⟨g, 32, none⟩ = false := by
  subst hlo
  have hb := h.blk.grown hg (fun e => h.ng _ e.symm rfl)
  obtain ⟨y2, y3, y4, y5, y6, z2, z3, z4, z5, z6⟩ := dk_more hb
  exact ⟨y2, z2⟩
theorem loose_end {w wr w4 : World} {S S1 : Nat → Prop} {g : Nat} {m : Mm} {dj : Dk} {N : Nat} {l made : List Ch} {n c1 : Nat} {A1 : Option Addr} (h : DkAt wr S1 g m dj (N + 1)) (hf : Fr S w wr) (hs : ∀ b, S1 b → S b ∨ w.heap.size ≤ b) (hlo : dj.loose = l) (hn : n = made.length) (hmk : ∀ c ∈ made, ChOk c) (hn8 : n ≤ 8192)
    (hc : dj.ops ≤ N + 1 ∧ l.length ≤ 8192 * (N + 1) ∧ N + 1 ≤ 1000000) (hl : l.length + n ≤ 8192 * (N + 1)) (hN : N + 1 ≤ 1000000) (ho : w4.ownsRow 0 99 67 (.slice A1 (l.length + n) c1) (l.length + n) (chsL l ++ chsL made)) (hg : wr.grownBy w4 (Value.slice m.A l.length m.cap).ownBlock)
    (ht : (Value.slice A1 (l.length + n) c1).ownBlock = (Value.slice m.A l.length m.cap).ownBlock ∨ (Value.slice A1 (l.length + n) c1).ownBlock = some wr.heap.size) :
    DkR w S g { dj with loose := l ++ made } (N + 1) (w4.setCell ⟨g, 32, none⟩ (.slice A1 (l.length + n) c1)) := by
  subst hn hlo
  have hng : ∀ z, (Value.slice A1 (dj.loose.length + made.length) c1).ownBlock = some z → z ≠ g := fun z hz e => by
    rcases ht with h1 | h1
    · rw [h1] at hz; exact h.ng z hz e
    · rw [h1] at hz; injection hz with hz; have := h.lt _ h.sg; omega
  have hb := h.blk.grown hg (fun e => h.ng _ e.symm rfl)
  have hll : (dj.loose ++ made).length = dj.loose.length + made.length := List.length_append
  refine ⟨_, ⟨_, dkAt_loose h (dj.loose ++ made) A1 c1 (N + 1) ?_ ?_ ?_ ?_ ?_ ⟨Nat.le_refl _, by rw [hll]; exact hl, hN⟩⟩, ?_, ?_⟩
  · rw [hll, chsL_append]
    exact own_block ho (fun z hz => Below.heap_setCell _ _ _ _ (hng z hz))
  · intro c hc
    rcases List.mem_append.1 hc with hc | hc
    · exact h.chs c hc
    · exact hmk c hc
  · rw [← dkA_loose dj m (dj.loose ++ made) A1 c1 _ rfl, hll]
    exact hb.set_ 32 _
  · exact fr_set (fr_grown (fr_refl _ _) hg (fun z hz => .inl (.inr hz))) (p := ⟨g, 32, none⟩) (.inl (.inl rfl)) _
  · intro z hz
    rw [hll] at hz
    rcases ht with h1 | h1
    · rw [h1] at hz; exact .inl hz
    · rw [h1] at hz; injection hz with hz; exact .inr (fun hs => by have := h.lt _ hs; omega)
  · refine fr_set (fr_trans hf (fr_grown (S := S1) (fr_refl _ _) hg (fun z hz => .inl (h.sl z hz))) hs) (p := ⟨g, 32, none⟩) (hs _ h.sg) _
  · intro b hb2
    rcases hb2 with h1 | h1
    · exact hs b h1
    · rw [hll] at h1
      rcases ht with h2 | h2
      · rw [h2] at h1; exact hs b (h.sl b h1)
      · rw [h2] at h1; injection h1 with h1; exact .inr (by have := hf.size; omega)
set_option maxRecDepth 100000 in
set_option maxHeartbeats 8000000 in
theorem op_ok (S : Nat → Prop) (g : Nat) (d : Dk) (N : Nat) (hN : N + 1 ≤ 1000000) (A : Option Addr) (made : List Ch) (n c : Nat) (hn : n = made.length) (hn8 : n ≤ 8192) (hmk : ∀ c ∈ made, ChOk c) (w : World) (hA : ChsAt w A made) (hAS : ∀ a, A = some a → ¬ S a.block) (h : DkS w S g d N) (hp : (d.ops : Int) ≠ d.power) (ha : d.armed d.ops = 0) :
    Calls Try.prog 51 #[.pointer (some ⟨g, 0, none⟩), .slice A n c] w fun e w' => e = .returned (.int .i64 0) ∧ DkR w S g { doneAll 0 d.op1 made with loose := d.loose ++ made } (N + 1) w' := by
  obtain ⟨m, hm⟩ := h
  obtain ⟨y2, y3, y4, y5, y6, z2, z3, z4, z5, z6⟩ := dk_more hm.blk
  have hpb : ((d.ops : Int) == d.power) = false := by rw [beq_eq_false_iff_ne]; exact hp
  have hops : (d.ops : Int) ≤ 1000000 := by have := hm.cN; omega
  have h1 := op1_at hm hN ((d.ops : Int) + 1) rfl
  have hlk : (Instr.lookup 63 (.map (some m.ga)) (.int .i64 d.ops) false).run Try.prog (w.setCell ⟨g, 35, none⟩ (.int .i64 ((d.ops : Int) + 1))) = .ok (.int .i64 0) (w.setCell ⟨g, 35, none⟩ (.int .i64 ((d.ops : Int) + 1))) := by
    have := arm_look h1 d.ops (by omega) (by omega)
    rwa [show d.op1.armed d.ops = 0 from ha] at this
  have HR0 := Lib.hid (dkR_of (w := w) h1 (fr_set (fr_refl _ _) (p := ⟨g, 35, none⟩) (.inl hm.sg) _))
  have HL0 := Lib.hid hm.cN.2.1
  have HAA := Lib.hid hA
  have HAS := Lib.hid hAS
  have HNN := Lib.hid hn
  have HMK := Lib.hid hmk
  clear hm h1 hp ha hA hAS hn hmk
  go_enter Try.func51, Try.ntmps51
  go_wp2
  go_loopw [45] (fun v wr => ∃ j : Nat, j ≤ n ∧ v = .int .i64 j ∧ DkR w S g (doneAll 0 d.op1 (made.take j)) (N + 1) wr) (fun v _ => n - (intOf v).toNat)
  case atStart => exact ⟨0, Nat.zero_le _, rfl, HR0.out⟩
  case round =>
    clear y2 y3 y4 y5 y6 z2 z3 z4 z5 z6 hlk HR0
    obtain ⟨j, hj, rfl, hr⟩ := hrel
    by_cases hlt : j < n
    · have hl : j < made.length := by rw [← HNN.out]; exact hlt
      obtain ⟨x, hx⟩ : ∃ x, made[j]? = some x := ⟨made[j], List.getElem?_eq_getElem hl⟩
      obtain ⟨b, o, rfl, hbl, hra⟩ := HAA.out.resolve_left (by rintro rfl; simp at hl)
      have hxo := HMK.out x (List.mem_of_getElem? hx)
      have hlen := chL_length hxo
      have hrng : wr.rangeAt b (o + j * 67) (chL x) := fun k v hv => by
        obtain ⟨S', _, hf, _⟩ := hr
        have hc := hra j x hx k v hv
        exact (World.cell?_of_block (a := ⟨b, o + j * 67 + k, none⟩) (hf.block b hbl (HAS.out _ rfl))).trans hc
      have hu := Try.underlying99
      have hs67 : (Try.prog.info? 99).map (·.size) = some (chL x).length := by rw [hlen]; kernel_rfl
      have hs67a : (Try.prog.info? 99).map (·.size) = some (chL x).toArray.size := by rw [List.size_toArray, hlen]; kernel_rfl
      have hst : (storeCells ⟨wr.heap.size, 0, none⟩ (chL x)).run Try.prog (wr.alloc (.cells Try.zeroCells99 99)) = .ok () (wr.alloc (.cells (chL x).toArray 99)) :=
        run_storeCells_new (P := Try.prog) wr 99 Try.zeroCells99 (chL x).toArray hs67a (by show _ = (chL x).length; rw [hlen]; kernel_rfl) (chL_one x)
      have hbx := Blk.new wr 99 (chL x).toArray
      have hrb : (wr.alloc (.cells (chL x).toArray 99)).drew.rangeAt wr.heap.size 0 (chL x) := fun k v hv => by
        rw [show (wr.alloc (.cells (chL x).toArray 99)).drew.cell? ⟨wr.heap.size, 0 + k, none⟩ = (wr.alloc (.cells (chL x).toArray 99)).cell? ⟨wr.heap.size, 0 + k, none⟩ from rfl, hbx.cell]
        simpa using hv
      have HDN := Lib.hid (fun W S' (hs : DkS W S' g (doneAll 0 d.op1 (made.take j)) (N + 1)) => done_any S' g _ (N + 1) x 0 (by omega) hxo W hs)
      have HX := Lib.hid hx
      have HR := Lib.hid hr
      clear hr hx hra hbx
      go_wp2_with (first | (refine wpList_load_mid rfl 99 (.tmp 47) rfl b (o + j * 67) rfl (chL x) _ hrng hu rfl hs67 ?_))
      obtain ⟨S1, hk1, hf1, hs1⟩ := HR.out
      have hk2 := dkS_below hk1 (one_alloc (o := .cells (chL x).toArray 99))
      have HD1 := Lib.hid (HDN.out _ S1 (show DkS (wr.alloc (.cells (chL x).toArray 99)).drew S1 g _ (N + 1) from dkS_below hk2 ((Below.refl _ _).drew)))
      have HF1 := Lib.hid hf1
      have HS1 := Lib.hid hs1
      have HNS := Lib.hid (show ¬ S1 wr.heap.size from fun e => by
        obtain ⟨m1, hm1⟩ := hk1
        have := hm1.lt _ e
        omega)
      clear hk1 hf1 hs1 hk2
      refine wp_region_held_drew (S := fun V => V.rangeAt wr.heap.size 0 (chL x)) (by kernel_rfl) hrb (fun hHeld => ?_)
      refine wpAnyH_take (i := 0) (v := .agg (chL x).toArray) rfl (by kernel_rfl) (by kernel_rfl) (by kernel_rfl) (fun _ _ _ h => h) (yieldsIf_load_mid (by rfl) _ _ rfl wr.heap.size 0 rfl (chL x) _ (fun w hSw => hSw) hu rfl hs67) hHeld ?_
      try simp only [Act.put, List.setIfInBounds_toArray, List.set_cons_zero, List.set_cons_succ]
      refine wpAnyH_take (i := 1) (v := ?_) rfl (by kernel_rfl) (by kernel_rfl) (by kernel_rfl) (fun _ _ _ h => h) (Or.inl ⟨by rfl, ?hy1⟩) hHeld ?_
      case hy1 => intro w1 hSw; go_simp; try with_reducible rfl
      try simp only [Act.put, List.setIfInBounds_toArray, List.set_cons_zero, List.set_cons_succ]
      refine wpAnyH_take (i := 2) (v := ?_) rfl (by kernel_rfl) (by kernel_rfl) (by kernel_rfl) (fun _ _ _ h => h) (Or.inl ⟨by rfl, ?hy2⟩) hHeld ?_
      case hy2 => intro w1 hSw; go_simp; try with_reducible rfl
      try simp only [Act.put, List.setIfInBounds_toArray, List.set_cons_zero, List.set_cons_succ]
      refine wpAnyH_take (i := 3) (v := ?_) rfl (by kernel_rfl) (by kernel_rfl) (by kernel_rfl) (fun _ _ _ h => h) (Or.inl ⟨by rfl, ?hy3⟩) hHeld ?_
      case hy3 => intro w1 hSw; go_simp; try with_reducible rfl
      try simp only [Act.put, List.setIfInBounds_toArray, List.set_cons_zero, List.set_cons_succ]
      refine wpAnyH_ready (rs := [4]) (by kernel_rfl) (by simp) ?_
      refine AllReadyH.cons rfl (fun K hK => ?_) AllReadyH.nil
      go_simp
      refine (HD1.out).mono ?_
      rintro e w2 ⟨rfl, hr2⟩
      dsimp only
      have hbx2 : Blk w2 wr.heap.size 99 (chL x).toArray := by
        obtain ⟨S2, _, hf2, _⟩ := hr2
        exact fr_blk hf2 ((Blk.new wr 99 (chL x).toArray).drew) HNS.out
      have HR2 := Lib.hid hr2
      refine hK.out _ _ ?_ (fun hHeld => ?_)
      · exact fun k v hv => by rw [hbx2.cell]; simpa using hv
      refine wpAnyH_done (by kernel_rfl) ?_ _
      clear hHeld hK K hbx2 hr2 hrb hrng hst
      have HEND := Lib.hid (show DkR w S g (doneAll 0 d.op1 (made.take (j + 1))) (N + 1) w2 by
        rw [take_snoc HX.out, doneAll_snoc]
        obtain ⟨S2, k1, k2, k3⟩ := HR2.out
        refine ⟨S2, k1, fr_trans (fr_step HF1.out (bj one_alloc (Below.refl _ _).drew)) k2 HS1.out, fun b hs => ?_⟩
        rcases k3 b hs with h4 | h4
        · exact HS1.out b h4
        · exact .inr (Nat.le_trans HF1.out.size (Nat.le_trans (by simp) h4)))
      go_wp2
      go_roundw
      case rel => exact ⟨j + 1, by omega, by go_num, HEND.out⟩
      case measure => simp [intOf]; omega
    · obtain rfl : j = n := by omega
      have hr2 : DkR w S g (doneAll 0 d.op1 made) (N + 1) wr := by rwa [List.take_of_length_le (by rw [HNN.out]; exact Nat.le_refl _)] at hr
      clear hr
      obtain ⟨S1, ⟨m1, hm1⟩, hf1, hs1⟩ := hr2
      have hd := doneAll_rest 0 made d.op1
      obtain ⟨dj, hdj⟩ : ∃ dj, doneAll 0 d.op1 made = dj := ⟨_, rfl⟩
      rw [hdj] at hm1 hd
      have hlo : dj.loose = d.loose := hd.1
      obtain ⟨y2, y3, y4, y5, y6, z2, z3, z4, z5, z6⟩ := dk_more hm1.blk
      have hown := hm1.loo
      have hcn := hm1.cN
      rw [hlo] at y2 hown hcn
      have hchs := chs_reads (chs_fr HAA.out hf1 HAS.out) (fun c hc => chL_length (HMK.out c hc))
      rw [← HNN.out] at hchs
      obtain ⟨iv, hv1, hv2, hv3, hv4⟩ := info_parts ch_info
      have HM1 := Lib.hid hm1
      have HF1 := Lib.hid hf1
      have HS1 := Lib.hid hs1
      have HLO := Lib.hid hlo
      have HCN := Lib.hid hcn
      have HDJ := Lib.hid hdj
      have hll : d.loose.length ≤ 8192 * 1000000 := by have := hcn; omega
      clear hm1 hf1 hs1 hlo hcn hdj hd y3 y4 y5 y6 z3 z4 z5 z6
      go_wp2_with (at_builtin; refine wpList_append_any _ rfl (.tmp 59) (.tmp 60) 68 rfl 0 99 iv _ 67 88 Try.underlying68 hv1 hv2 hv3 hv4 (by kernel_rfl) (by omega) _ d.loose.length (chsL d.loose) rfl hown wr.heap.size A j c (chsL made) rfl hchs (chsL_one made) (by simp only [maxLen]; omega) (by omega) (by omega) ?_; intro v1 w4 hown1 hg1 hat1; obtain ⟨A1, c1, rfl⟩ := own_form hown1; (have b4 := (own_cell HM1.out HLO.out hg1)); (obtain ⟨x2, k2⟩ := b4); (have HO1 := Lib.hid hown1); (have HG1 := Lib.hid hg1); (have HT1 := Lib.hid hat1); clear hown1 hg1 hat1)
      go_ret
      refine ⟨rfl, ?_⟩
      rw [HDJ.out]
      exact loose_end HM1.out HF1.out HS1.out HLO.out HNN.out HMK.out hn8 HCN.out (by have := HL0.out; omega) hN HO1.out HG1.out HT1.out
end Go.Proofs.Ythipaabjmlgjmaa
