/- Layer 3: files.done. Conditions: those of each lemma. -/
import Derived.Test.YtffojihhjiogpaaFi3
import Derived.Deep.MidRow
import Derived.Deep.QuietTactic
import Derived.BigQuiet
import Derived.BigRegion
import Derived.Deep.RegionHeld3
import Derived.Shelf.SlMaps.Clone
namespace Go.Proofs.Ytffojihhjiogpaa
open Go.RowKit Go Go.Maps
set_option linter.unusedVariables false
set_option linter.unusedSimpArgs false
theorem one_alloc {w : World} {o : Obj} : Below w.heap.size w (w.alloc o) := (Below.refl _ _).alloc (Nat.le_refl _) _
theorem chA_cells (w : World) (c : Ch) : ∀ W, Below (w.alloc (.cells (chL c).toArray 74)).heap.size (w.alloc (.cells (chL c).toArray 74)) W → W.cell? ⟨w.heap.size, 0, none⟩ = some (.int .i64 c.file) ∧ W.cell? ⟨w.heap.size, 1, none⟩ = some (.int .i64 c.pl) ∧ W.cell? ⟨w.heap.size, 2, none⟩ = some (.bool c.cut) := fun W hW => by
  have h := blk_at hW
  exact ⟨by rw [h.cell 0]; rfl, by rw [h.cell 1]; rfl, by rw [h.cell 2]; rfl⟩
theorem map_nil (p : Option Nat) (w : World) : (binOp .eql 64 (.map p) (.map none)).run Try.prog w = .ok (.bool p.isNone) w := Go.Proofs.run_eql_map_nil_sl w 64 _ _ p Try.underlying64
theorem below_drew {B : Nat} {a w : World} (h : Below B a w) (n : Nat) : Below B a (w.drewN n) := below_drewN h n
/-- what a change leaves: the disk, its loose changes and what is armed where they lay -/
def DkQ (w : World) (S : Nat → Prop) (g : Nat) (m : Mm) (d : Dk) (N : Nat) (w' : World) : Prop := ∃ S' m', DkAt w' S' g m' d N ∧ (m'.A = m.A ∧ m'.cap = m.cap ∧ m'.ga = m.ga) ∧ Fr S w w' ∧ ∀ b, S' b → S b ∨ w.heap.size ≤ b
theorem dkQ_R {w w' : World} {S : Nat → Prop} {g : Nat} {m : Mm} {d : Dk} {N : Nat} (h : DkQ w S g m d N w') : DkR w S g d N w' := by
  obtain ⟨S', m', h1, _, h2, h3⟩ := h
  exact ⟨S', ⟨m', h1⟩, h2, h3⟩
/-- in the midst of a call on the disk: the disk, and a change that the call has boxed -/
structure Dn (w : World) (S : Nat → Prop) (g : Nat) (m : Mm) (d : Dk) (N : Nat) (c : Ch) (i o : Nat) (W : World) : Prop where
  at0 : DkAt W S g m d N
  bel : Below w.heap.size w W
  box : Blk W w.heap.size 74 (chL c).toArray
  hi : i < 16
  ho : 2 * i = o
  lt : ∀ b, S b → b < w.heap.size
theorem dn_cells {w : World} {S : Nat → Prop} {g : Nat} {m : Mm} {d : Dk} {N : Nat} {c : Ch} {i o : Nat} {W W' : World} (h : Dn w S g m d N c i o W) (hf : Fr (fun b => m.M i = some b) W W') :
    W'.cell? ⟨g, o, none⟩ = some (.int .i64 ((d.fl i).length : Nat)) ∧ W'.cell? ⟨g, o + 1, none⟩ = some (.map (m.M i)) ∧ W'.frozen? ⟨g, o, none⟩ = false ∧ W'.frozen? ⟨g, o + 1, none⟩ = false ∧
    W'.cell? ⟨w.heap.size, 0, none⟩ = some (.int .i64 c.file) ∧ W'.cell? ⟨w.heap.size, 1, none⟩ = some (.int .i64 c.pl) ∧ W'.cell? ⟨w.heap.size, 2, none⟩ = some (.bool c.cut) := by
  have hg := fr_blk hf h.at0.blk (dkAt_m_g h.at0 h.hi)
  have hb := fr_blk hf h.box (fun e => by have := h.lt _ (h.at0.sm i h.hi _ e); omega)
  have ho := h.ho
  have hi := h.hi
  subst ho
  refine ⟨by rw [hg.cell, dkA_get _ _ (by omega), cell_len _ _ hi], by rw [hg.cell, dkA_get _ _ (by omega), cell_map _ _ hi], hg.frozen _, hg.frozen _, by rw [hb.cell]; rfl, by rw [hb.cell]; rfl, by rw [hb.cell]; rfl⟩
theorem dn_end {w : World} {S : Nat → Prop} {g : Nat} {m : Mm} {d : Dk} {N : Nat} {c : Ch} {i o : Nat} {W W' : World} (h : Dn w S g m d N c i o W) (l' : Fl) (b' : Option Nat)
    (hblk : Blk W' g 70 (dkA (d.setF i l') (m.setM i b'))) (hfl : FL W' b' l') (hok : FlOk l')
    (hf : Fr (fun b => b = g ∨ m.M i = some b) W W') (hnew : ∀ b, b' = some b → m.M i = some b ∨ W.heap.size ≤ b) : DkQ w S g m (d.setF i l') N W' :=
  ⟨_, _, dkAt_file h.at0 h.hi l' b' hblk hfl hok hf hnew, ⟨rfl, rfl, rfl⟩, fr_trans (fr_of h.bel) hf (fun b hb => .inl (by rcases hb with rfl | hb; exact h.at0.sg; exact h.at0.sm i h.hi b hb)), fun b hb => by
    rcases hb with hb | hb
    · exact .inl hb
    · rcases hnew b hb with h1 | h1
      · exact .inl (h.at0.sm i h.hi b h1)
      · exact .inr (Nat.le_trans h.bel.size h1)⟩
theorem dn_new {w W : World} {S : Nat → Prop} {g : Nat} {m : Mm} {d : Dk} {N : Nat} (h : DkAt w S g m d N) (c : Ch) {i o : Nat} (hi : i < 16) (ho : 2 * i = o) (hW : Below (w.alloc (.cells (chL c).toArray 74)).heap.size (w.alloc (.cells (chL c).toArray 74)) W) : Dn w S g m d N c i o W :=
  have hb := bja _ (Below.refl _ _) hW
  ⟨dkAt_below h hb, hb, blk_at hW, hi, ho, h.lt⟩
theorem dn_drew {w W' : World} {S : Nat → Prop} {g : Nat} {m : Mm} {d : Dk} {N : Nat} (h : DkQ w S g m d N W') : DkQ w S g m d N W'.drew := by
  obtain ⟨S', m', h1, h0, h2, h3⟩ := h
  exact ⟨S', m', dkAt_below h1 ((Below.refl _ _).drew), h0, fr_step h2 ((Below.refl _ _).drew), h3⟩
theorem done_cut_end {w : World} {S : Nat → Prop} {g : Nat} {m : Mm} {d : Dk} {N : Nat} {c : Ch} {i o : Nat} {W wr : World} (h : Dn w S g m d N c i o W) {n k : Nat} (hn : (d.fl i).length = n) (hn8 : n ≤ 8192) (hok : FlOk (d.fl i)) (hk1 : c.pl ≤ k) (hk2 : k ≤ n ∨ k = c.pl) (hlt : ¬ k < n)
    (hfm : FM wr (m.M i) (fun j => j < n ∧ (j < c.pl ∨ k ≤ j)) (fun j => (d.fl i).getD j zS)) (hf : Fr (fun b => m.M i = some b) W wr) (x : Int) (hx : x = (min c.pl n : Nat)) :
    DkQ w S g m (d.setF i ((d.fl i).take c.pl)) N ((wr.setCell ⟨g, o, none⟩ (.int .i64 x)).drew) := by
  have hg := fr_blk hf h.at0.blk (dkAt_m_g h.at0 h.hi)
  have ho := h.ho
  subst ho
  have hlen : ((d.fl i).take c.pl).length = min c.pl n := by rw [List.length_take, hn]
  refine dn_drew (dn_end h _ (m.M i) ?_ ?_ ?_ ?_ (fun b hb => .inl hb))
  · rw [setM_id, ← dkA_len d m h.hi _ (.int .i64 x) (by rw [hx, hlen])]
    exact hg.set_ _ _
  · refine fm_keep (W := wr) (fm_is hfm (fun j => ?_) (fun j hj => ?_)) (fun b hb => Below.heap_setCell _ _ _ _ (fun e => dkAt_m_g h.at0 h.hi (by rw [hb, e])))
    · rw [hlen]; show _ ↔ j < _; omega
    · have hj2 := hj
      show (List.take c.pl (d.fl i)).getD j zS = (d.fl i).getD j zS
      rw [List.getD_eq_getElem?_getD, List.getD_eq_getElem?_getD, List.getElem?_take, if_pos (by omega)]
  · exact ⟨by rw [hlen]; omega, fun s hs => hok.2 s (List.mem_of_mem_take hs)⟩
  · exact fr_set (fr_mono hf (fun b hb => .inl (.inr hb))) (.inl (.inl rfl)) _
set_option maxRecDepth 100000 in
set_option maxHeartbeats 4000000 in
theorem done_cut (S : Nat → Prop) (g : Nat) (m : Mm) (d : Dk) (N : Nat) (c : Ch) (s : Nat) (hs : s < 2) (hc : ChOk c) (hcut : c.cut = true) (w : World) (hm : DkAt w S g m d N) :
    Calls Try.prog 46 #[.agg (chL c).toArray, .pointer (some ⟨g, 16 * s, none⟩)] w fun e w' => e = .returned (.tuple #[]) ∧ DkQ w S g m (d.setF (8 * s + c.file) ((d.fl (8 * s + c.file)).take c.pl)) N w' := by
  have hi : 8 * s + c.file < 16 := by have := hc.1; omega
  obtain ⟨i, hie⟩ : ∃ i, 8 * s + c.file = i := ⟨_, rfl⟩
  obtain ⟨o, ho⟩ : ∃ o, 16 * s + c.file * 2 = o := ⟨_, rfl⟩
  have hio : 2 * i = o := by omega
  rw [hie] at hi ⊢
  obtain ⟨x0, x1, x2⟩ := chA_cells w c _ (Below.refl _ _)
  rw [hcut] at x2
  have hf8 : (c.file : Int) < 8 := by have := hc.1; omega
  have hp := hc.2.1
  have HC := Lib.hid hcut
  have HO := Lib.hid ho
  have HIO := Lib.hid hio
  have HM := Lib.hid hm
  have HOK := Lib.hid ((hm.ok i hi))
  clear hm hcut ho hio hie hc hs
  go_enter Try.func46, Try.ntmps46
  go_wp2
  go_quiet (fail)
  rename_i nq
  rw [HO.out]
  have HD := Lib.hid (dn_new HM.out c hi HIO.out (below_drewN (Below.refl _ (w.alloc (.cells (chL c).toArray 74))) nq))
  generalize (w.alloc (.cells (chL c).toArray 74)).drewN nq = W at HD ⊢
  obtain ⟨y0, y1, y2, y3, z0, z1, z2⟩ := dn_cells HD.out (fr_refl _ _)
  rw [HC.out] at z2
  clear x0 x1 x2 HM HO HIO
  obtain ⟨n, hn⟩ : ∃ n, (d.fl i).length = n := ⟨_, rfl⟩
  have hn8 : n ≤ 8192 := by rw [← hn]; exact HOK.out.1
  have HN := Lib.hid hn
  have HF0 := Lib.hid (HD.out.at0.fl i hi)
  rw [hn] at y0
  clear hn
  go_wp2
  go_loopw [5] (fun v wr => ∃ k : Nat, c.pl ≤ k ∧ (k ≤ n ∨ k = c.pl) ∧ v = .int .i64 k ∧ FM wr (m.M i) (fun j => j < n ∧ (j < c.pl ∨ k ≤ j)) (fun j => (d.fl i).getD j zS) ∧ Fr (fun b => m.M i = some b) W wr) (fun v _ => n - (intOf v).toNat)
  case atStart =>
    refine ⟨c.pl, Nat.le_refl _, .inr rfl, rfl, fm_is HF0.out (fun j => ?_) (fun _ _ => rfl), fr_refl _ _⟩
    rw [HN.out]
    show j < n ↔ _
    omega
  case round =>
    clear y0 y1 y2 y3 z0 z1 z2
    obtain ⟨k, hk1, hk2, rfl, hfm, hfr⟩ := hrel
    obtain ⟨y0, y1, y2, y3, z0, z1, z2⟩ := dn_cells HD.out hfr
    rw [HN.out] at y0
    rw [HC.out] at z2
    by_cases hlt : k < n
    · obtain ⟨W', hrun, hfm', hfr', hsz⟩ := fm_del hfm k (by omega) 0
      have HFM := Lib.hid hfm'
      have HFR := Lib.hid (fr_trans hfr hfr' (fun b hb => .inl hb))
      clear hfm hfm' hfr hfr' hsz
      go_wp2
      go_roundw
      case rel =>
        exact ⟨k + 1, by omega, by omega, by go_num, fm_is HFM.out (fun j => by show _ ↔ _; omega) (fun _ _ => rfl), HFR.out⟩
      case measure => simp [intOf]; omega
    · have HFM := Lib.hid hfm
      have HFR := Lib.hid hfr
      clear hfm hfr
      go_wp2
      go_region
      all_goals go_wp2
      all_goals
        refine bodyPost_ret (v := .tuple #[]) (by simp [results, Try.results46, go_sem]) rfl ⟨rfl, ?_⟩
        exact done_cut_end HD.out HN.out hn8 HOK.out hk1 hk2 hlt HFM.out HFR.out _ (by omega)
theorem dn_box {w : World} {S : Nat → Prop} {g : Nat} {m : Mm} {d : Dk} {N : Nat} {c : Ch} {i o : Nat} {W W' : World} (h : Dn w S g m d N c i o W) (hf : Fr (fun b => m.M i = some b) W W') : Blk W' w.heap.size 74 (chL c).toArray :=
  fr_blk hf h.box (fun e => by have := h.lt _ (h.at0.sm i h.hi _ e); omega)
theorem box_range {w W : World} {c : Ch} (h : Blk W w.heap.size 74 (chL c).toArray) : W.rangeAt w.heap.size 3 (vals8 c.bytes) := fun j v hv => by
  rw [h.cell]
  show (chL c).toArray[3 + j]? = some v
  rw [List.getElem?_toArray, Nat.add_comm]
  exact hv
theorem sec_load {w W : World} {c : Ch} (h : Blk W w.heap.size 74 (chL c).toArray) (hc : c.bytes.length = 64) :
    (Instr.loadAt 72 (.pointer (some ⟨w.heap.size, 3, none⟩))).run Try.prog W = .ok (secV c.bytes) W :=
  run_loadAt_mid W w.heap.size 3 72 (vals8 c.bytes) _ (box_range h) Try.underlying72 rfl (by rw [vals8_length, hc]; kernel_rfl)
/-- behind the store into the map -/
theorem done_put_end {w : World} {S : Nat → Prop} {g : Nat} {m : Mm} {d : Dk} {N : Nat} {c : Ch} {i o : Nat} {W wr : World} (h : Dn w S g m d N c i o W) {n b : Nat} (hn : (d.fl i).length = n) (hok : FlOk (d.fl i)) (hc : ChOk c) (hcut : c.cut = false)
    (hblk : Blk wr g 70 (dkA d (m.setM i (some b))))
    (hfm : FM wr (some b) (fun j => j < n ∨ j = c.pl) (fun j => if j = c.pl then c.bytes else (d.fl i).getD j zS)) (hf : Fr (fun z => z = g ∨ m.M i = some z) W wr) (hnew : m.M i = some b ∨ W.heap.size ≤ b) (x : Int) (hx : x = (max n (c.pl + 1) : Nat)) :
    DkQ w S g m (d.setF i (putS (d.fl i) c.pl c.bytes)) N ((wr.setCell ⟨g, o, none⟩ (.int .i64 x)).drew) := by
  have ho := h.ho
  subst ho
  have hlen : (putS (d.fl i) c.pl c.bytes).length = max n (c.pl + 1) := by rw [putS_length, hn]
  have hd : doneF (d.fl i) c = putS (d.fl i) c.pl c.bytes := by unfold doneF; rw [hcut]; rfl
  have hgb : b ≠ g := fun e => by
    obtain ⟨D, k, ⟨es, clock, h1, _⟩, _⟩ := hfm
    unfold Blk at hblk
    rw [e, hblk] at h1
    cases h1
  refine dn_drew (dn_end h _ (some b) ?_ ?_ (hd ▸ doneF_ok hok hc) ?_ (fun z hz => by injection hz with hz; subst hz; exact hnew))
  · rw [← dkA_len d (m.setM i (some b)) h.hi _ (.int .i64 x) (by rw [hx, hlen])]
    exact hblk.set_ _ _
  · refine fm_keep (W := wr) (fm_more hfm (fun j hj => ⟨?_, ?_⟩) (fun j hj hno => ?_)) (fun z hz => Below.heap_setCell _ _ _ _ (fun e => hgb (by injection hz with hz; rw [hz, e])))
    · rw [hlen]; show j < _; have : j < n ∨ j = c.pl := hj; omega
    · exact putS_get _ _ _ _
    · show (putS (d.fl i) c.pl c.bytes).getD j zS = zS
      have hno2 : ¬ (j < n ∨ j = c.pl) := hno
      rw [putS_get, if_neg (by omega), List.getD_eq_getElem?_getD, List.getElem?_eq_none (by omega)]
      rfl
  · exact fr_set hf (.inl (.inl rfl)) _
theorem dk_cells {w W : World} {g : Nat} {m : Mm} {d : Dk} {c : Ch} {i o : Nat} (hg : Blk W g 70 (dkA d m)) (hb : Blk W w.heap.size 74 (chL c).toArray) (hi : i < 16) (ho : 2 * i = o) :
    W.cell? ⟨g, o, none⟩ = some (.int .i64 ((d.fl i).length : Nat)) ∧ W.cell? ⟨g, o + 1, none⟩ = some (.map (m.M i)) ∧ W.frozen? ⟨g, o, none⟩ = false ∧ W.frozen? ⟨g, o + 1, none⟩ = false ∧
    W.cell? ⟨w.heap.size, 0, none⟩ = some (.int .i64 c.file) ∧ W.cell? ⟨w.heap.size, 1, none⟩ = some (.int .i64 c.pl) ∧ W.cell? ⟨w.heap.size, 2, none⟩ = some (.bool c.cut) := by
  subst ho
  exact ⟨by rw [hg.cell, dkA_get _ _ (by omega), cell_len _ _ hi], by rw [hg.cell, dkA_get _ _ (by omega), cell_map _ _ hi], hg.frozen _, hg.frozen _, by rw [hb.cell]; rfl, by rw [hb.cell]; rfl, by rw [hb.cell]; rfl⟩
/-- the file's map is made -/
theorem dn_made {w : World} {S : Nat → Prop} {g : Nat} {m : Mm} {d : Dk} {N : Nat} {c : Ch} {i o : Nat} {W : World} (h : Dn w S g m d N c i o W) {n : Nat} (hn : (d.fl i).length = n) (hmi : m.M i = none) (hfl : FL W none (d.fl i)) :
    Blk ((W.alloc (.map #[] 0)).setCell ⟨g, o + 1, none⟩ (.map (some W.heap.size))) g 70 (dkA d (m.setM i (some W.heap.size))) ∧
    FM ((W.alloc (.map #[] 0)).setCell ⟨g, o + 1, none⟩ (.map (some W.heap.size))) (some W.heap.size) (· < n) (fun j => (d.fl i).getD j zS) ∧
    Fr (fun z => z = g ∨ m.M i = some z) W ((W.alloc (.map #[] 0)).setCell ⟨g, o + 1, none⟩ (.map (some W.heap.size))) ∧
    Blk ((W.alloc (.map #[] 0)).setCell ⟨g, o + 1, none⟩ (.map (some W.heap.size))) w.heap.size 74 (chL c).toArray := by
  have ho := h.ho
  subst ho
  have hg := h.at0.blk
  have hgl := hg.lt
  have hgw : g < w.heap.size := h.lt _ h.at0.sg
  refine ⟨?_, ?_, fr_set (fr_of one_alloc) (.inl (.inl rfl)) _, (h.box.alloc _).far (p := ⟨g, 2 * i + 1, none⟩) (by show w.heap.size ≠ g; omega) _⟩
  · rw [← dkA_map d m h.hi]
    exact (hg.alloc _).set_ _ _
  · refine fm_keep (fm_made W (fun j hj => ?_)) (fun b hb => Below.heap_setCell _ _ _ _ (by injection hb with hb; subst hb; show W.heap.size ≠ g; omega))
    unfold FL FM at hfl
    rw [hn] at hfl
    exact hfl j hj
set_option maxRecDepth 100000 in
set_option maxHeartbeats 4000000 in
theorem done_put (S : Nat → Prop) (g : Nat) (m : Mm) (d : Dk) (N : Nat) (c : Ch) (s : Nat) (hs : s < 2) (hc : ChOk c) (hcut : c.cut = false) (w : World) (hm : DkAt w S g m d N) :
    Calls Try.prog 46 #[.agg (chL c).toArray, .pointer (some ⟨g, 16 * s, none⟩)] w fun e w' => e = .returned (.tuple #[]) ∧ DkQ w S g m (d.setF (8 * s + c.file) (putS (d.fl (8 * s + c.file)) c.pl c.bytes)) N w' := by
  have hi : 8 * s + c.file < 16 := by have := hc.1; omega
  obtain ⟨i, hie⟩ : ∃ i, 8 * s + c.file = i := ⟨_, rfl⟩
  obtain ⟨o, ho⟩ : ∃ o, 16 * s + c.file * 2 = o := ⟨_, rfl⟩
  have hio : 2 * i = o := by omega
  rw [hie] at hi ⊢
  obtain ⟨x0, x1, x2⟩ := chA_cells w c _ (Below.refl _ _)
  rw [hcut] at x2
  have hf8 : (c.file : Int) < 8 := by have := hc.1; omega
  have hp := hc.2.2.1 hcut
  have HC := Lib.hid hcut
  have HCO := Lib.hid hc
  have HO := Lib.hid ho
  have HIO := Lib.hid hio
  have HM := Lib.hid hm
  have HOK := Lib.hid ((hm.ok i hi))
  clear hm hcut ho hio hie hc hs
  go_enter Try.func46, Try.ntmps46
  go_wp2
  go_quiet (fail)
  rename_i nq
  rw [HO.out]
  have HD := Lib.hid (dn_new HM.out c hi HIO.out (below_drewN (Below.refl _ (w.alloc (.cells (chL c).toArray 74))) nq))
  generalize (w.alloc (.cells (chL c).toArray 74)).drewN nq = W at HD ⊢
  obtain ⟨y0, y1, y2, y3, z0, z1, z2⟩ := dn_cells HD.out (fr_refl _ _)
  rw [HC.out] at z2
  clear x0 x1 x2 HM HO HIO
  obtain ⟨n, hn⟩ : ∃ n, (d.fl i).length = n := ⟨_, rfl⟩
  have hn8 : n ≤ 8192 := by rw [← hn]; exact HOK.out.1
  have HN := Lib.hid hn
  have HF0 := Lib.hid (HD.out.at0.fl i hi)
  rw [hn] at y0
  clear hn
  cases hmi : m.M i with
  | some b =>
    have hq := map_nil (some b)
    rw [hmi] at y1 HF0
    have hfm : FM W (some b) (· < n) (fun j => (d.fl i).getD j zS) := by have := HF0.out; unfold FL at this; rwa [HN.out] at this
    obtain ⟨W', hrun, hfm', hfr, hsz⟩ := fm_put (W := W.drew) hfm (fun j hj => hj) (by omega) c.pl (by omega) c.bytes
    have hrun : (Instr.mapUpdate 64 (.map (some b)) (.int .i64 c.pl) (.agg (vals8 c.bytes).toArray)).run Try.prog W.drew = .ok () W' := hrun
    have hld := box_range HD.out.box
    have hu := Try.underlying72
    have hs64 : (Try.prog.info? 72).map (·.size) = some (vals8 c.bytes).length := by rw [vals8_length, HCO.out.2.2.2.1]; kernel_rfl
    have hfr2 : Fr (fun z => m.M i = some z) W W' := fr_mono (fr_trans (fr_of ((Below.refl _ W).drew)) hfr (fun b hb => .inl hb)) (fun b hb => .inl (by rw [hmi]; exact hb))
    obtain ⟨p0, p1, p2, p3, q0, q1, q2⟩ := dn_cells HD.out hfr2
    rw [HN.out] at p0
    rw [HC.out] at q2
    rw [hmi] at p1
    have hld2 := box_range (dn_box HD.out hfr2)
    have HFM := Lib.hid hfm'
    have HBL := Lib.hid (show Blk W' g 70 (dkA d (m.setM i (some b))) by rw [← hmi, setM_id]; exact fr_blk hfr2 HD.out.at0.blk (dkAt_m_g HD.out.at0 hi))
    have HFR := Lib.hid (fr_mono (T := fun z => z = g ∨ m.M i = some z) hfr2 (fun b hb => .inl (.inr hb)))
    have HMI := Lib.hid hmi
    clear hfm hfm' hfr hsz hfr2 hmi
    go_wp2
    go_region_held3 (fun V => V.cell? ⟨g, o + 1, none⟩ = some (.map (some b)) ∧ V.cell? ⟨w.heap.size, 1, none⟩ = some (.int .i64 c.pl) ∧ V.rangeAt w.heap.size 3 (vals8 c.bytes)) (first | exact ⟨y1, z1, hld⟩ | exact ⟨p1, q1, hld2⟩) (first | fail)
    go_wp2
    go_region
    all_goals go_wp2
    all_goals
      refine bodyPost_end (v := .tuple #[]) (by simp [results, Try.results46, go_sem]) rfl ⟨rfl, ?_⟩
      exact done_put_end HD.out HN.out HOK.out HCO.out HC.out HBL.out HFM.out HFR.out (.inl HMI.out) _ (by omega)
  | none =>
    have hq := map_nil none
    have hmm := @run_makeMap Try.prog
    rw [hmi] at y1 HF0
    obtain ⟨hblk, hfm, hfr0, hbox⟩ := dn_made HD.out HN.out hmi HF0.out
    have HMI := Lib.hid hmi
    have hws : w.heap.size ≤ W.heap.size := HD.out.bel.size
    have HWS := Lib.hid hws
    have a1 := (dk_cells (HD.out.at0.blk.alloc (.map #[] 0)) (HD.out.box.alloc (.map #[] 0)) hi HD.out.ho).2.1
    have a2 := (HD.out.at0.blk.alloc (.map #[] 0)).frozen (o + 1)
    rw [HMI.out] at a1
    clear hmi hws
    go_wp2
    clear a1 a2
    generalize hb : W.heap.size = b at hblk hfm hfr0 hbox ⊢
    have HB := Lib.hid hb
    generalize (W.alloc (.map #[] 0)).setCell ⟨g, o + 1, none⟩ (.map (some b)) = V at hblk hfm hfr0 hbox ⊢
    clear y0 y1 y2 y3 z0 z1 z2 hb hmm
    obtain ⟨y0, y1, y2, y3, z0, z1, z2⟩ := dk_cells hblk hbox hi HD.out.ho
    rw [HN.out] at y0
    rw [HC.out] at z2
    rw [setM_same] at y1
    obtain ⟨W', hrun, hfm', hfr, hsz⟩ := fm_put (W := V.drew) hfm (fun j hj => hj) (by omega) c.pl (by omega) c.bytes
    have hrun : (Instr.mapUpdate 64 (.map (some b)) (.int .i64 c.pl) (.agg (vals8 c.bytes).toArray)).run Try.prog V.drew = .ok () W' := hrun
    have hld := box_range hbox
    have hu := Try.underlying72
    have hs64 : (Try.prog.info? 72).map (·.size) = some (vals8 c.bytes).length := by rw [vals8_length, HCO.out.2.2.2.1]; kernel_rfl
    have hfr2 : Fr (fun z => some b = some z) V W' := fr_trans (fr_of ((Below.refl _ V).drew)) hfr (fun b hb => .inl hb)
    have hgb : ¬ some b = some g := fun e => by
      injection e with e
      have := HD.out.at0.blk.lt
      have := HB.out
      omega
    have hwb : ¬ some b = some w.heap.size := fun e => by
      injection e with e
      have := HD.out.box.lt
      have := HB.out
      omega
    have hbl2 := fr_blk hfr2 hblk hgb
    have hbx2 := fr_blk hfr2 hbox hwb
    obtain ⟨p0, p1, p2, p3, q0, q1, q2⟩ := dk_cells hbl2 hbx2 hi HD.out.ho
    rw [HN.out] at p0
    rw [HC.out] at q2
    rw [setM_same] at p1
    have hld2 := box_range hbx2
    have HFM := Lib.hid hfm'
    have HBL := Lib.hid hbl2
    have HFR := Lib.hid (fr_trans hfr0 hfr2 (fun z hz => .inr (by injection hz with hz; rw [HB.out]; omega)))
    clear hfm hfm' hfr hsz hfr2 hblk hbox hbl2 hbx2 hfr0 hgb hwb
    go_region_held3 (fun V => V.cell? ⟨g, o + 1, none⟩ = some (.map (some b)) ∧ V.cell? ⟨w.heap.size, 1, none⟩ = some (.int .i64 c.pl) ∧ V.rangeAt w.heap.size 3 (vals8 c.bytes)) (first | exact ⟨y1, z1, hld⟩ | exact ⟨p1, q1, hld2⟩) (first | fail)
    go_wp2
    go_region
    all_goals go_wp2
    all_goals
      refine bodyPost_end (v := .tuple #[]) (by simp [results, Try.results46, go_sem]) rfl ⟨rfl, ?_⟩
      exact done_put_end HD.out HN.out HOK.out HCO.out HC.out HBL.out HFM.out HFR.out (.inr (by rw [HB.out]; exact Nat.le_refl _)) _ (by omega)
def doneA (s : Nat) (d : Dk) (c : Ch) : Dk := d.setF (8 * s + c.file) (doneF (d.fl (8 * s + c.file)) c)
theorem done_at (S : Nat → Prop) (g : Nat) (m : Mm) (d : Dk) (N : Nat) (c : Ch) (s : Nat) (hs : s < 2) (hc : ChOk c) (w : World) (h : DkAt w S g m d N) :
    Calls Try.prog 46 #[.agg (chL c).toArray, .pointer (some ⟨g, 16 * s, none⟩)] w fun e w' => e = .returned (.tuple #[]) ∧ DkQ w S g m (doneA s d c) N w' := by
  cases hcut : c.cut with
  | true =>
    have h1 := done_cut S g m d N c s hs hc hcut w h
    unfold doneA doneF
    rwa [hcut]
  | false =>
    have h1 := done_put S g m d N c s hs hc hcut w h
    unfold doneA doneF
    rwa [hcut]
theorem done_any (S : Nat → Prop) (g : Nat) (d : Dk) (N : Nat) (c : Ch) (s : Nat) (hs : s < 2) (hc : ChOk c) (w : World) (h : DkS w S g d N) :
    Calls Try.prog 46 #[.agg (chL c).toArray, .pointer (some ⟨g, 16 * s, none⟩)] w fun e w' => e = .returned (.tuple #[]) ∧ DkR w S g (doneA s d c) N w' := by
  obtain ⟨m, hm⟩ := h
  exact (done_at S g m d N c s hs hc w hm).mono fun e w' h => ⟨h.1, dkQ_R h.2⟩
end Go.Proofs.Ytffojihhjiogpaa
