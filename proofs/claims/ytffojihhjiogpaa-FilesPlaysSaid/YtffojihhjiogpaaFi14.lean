/- Layer 3: files.Sync. Conditions: those of each lemma. -/
import Derived.Test.YtffojihhjiogpaaFi13
namespace Go.Proofs.Ytffojihhjiogpaa
open Go.RowKit Go Go.Maps
set_option linter.unusedVariables false
set_option linter.unusedSimpArgs false
theorem gen_alloc {P : World → Prop} {w : World} {X cs : Array Value} {t : TypeId} (h : P (w.alloc (.cells cs t))) (e : X = cs) : P (w.alloc (.cells X t)) := by subst e; exact h
theorem fold_get : ∀ (l : List Value) (k : Nat) (Z : Array Value), k + l.length ≤ Z.size →
    ((l.zipIdx k).foldl (fun cs x => cs.setIfInBounds x.snd x.fst) Z).size = Z.size ∧ ∀ i, ((l.zipIdx k).foldl (fun cs x => cs.setIfInBounds x.snd x.fst) Z)[i]? = if k ≤ i ∧ i < k + l.length then l[i - k]? else Z[i]?
  | [], k, Z, _ => ⟨rfl, fun i => by rw [if_neg (by simp)]; rfl⟩
  | v :: l, k, Z, h => by
    rw [List.length_cons] at h
    obtain ⟨h1, h2⟩ := fold_get l (k + 1) (Z.setIfInBounds k v) (by simp; omega)
    rw [List.zipIdx_cons, List.foldl_cons]
    refine ⟨by rw [h1]; simp, fun i => ?_⟩
    rw [h2 i, List.length_cons]
    by_cases hik : i = k
    · subst hik
      rw [if_neg (by omega), if_pos (by omega), Array.getElem?_setIfInBounds, if_pos rfl, if_pos (by omega), Nat.sub_self]
      rfl
    · by_cases hr : k + 1 ≤ i ∧ i < k + 1 + l.length
      · rw [if_pos hr, if_pos (by omega), show i - k = (i - (k + 1)) + 1 by omega]
        rfl
      · rw [if_neg hr, if_neg (by omega), Array.getElem?_setIfInBounds, if_neg (fun e => hik e.symm)]
theorem fold_lst (l : List Value) (Z : Array Value) (n : Nat) (hl : l.length = n) (hZ : Z.size = n) : List.foldl (fun cs x => cs.setIfInBounds x.snd x.fst) Z l.zipIdx = l.toArray := by
  obtain ⟨h1, h2⟩ := fold_get l 0 Z (by omega)
  apply Array.ext_getElem?
  intro i
  rw [h2 i, Nat.zero_add, Nat.sub_zero]
  by_cases hi : i < l.length
  · rw [if_pos ⟨Nat.zero_le _, hi⟩, List.getElem?_toArray]
  · rw [if_neg (fun h => hi h.2), Array.getElem?_eq_none (by rw [hZ]; omega), Array.getElem?_eq_none (by rw [List.size_toArray]; omega)]
def mine (f : Nat) (l : List Ch) : List Ch := l.filter (fun c => decide (c.file = f))
def rest (f : Nat) (l : List Ch) : List Ch := l.filter (fun c => !decide (c.file = f))
def sync1 (d : Dk) (f : Nat) : Dk := { doneAll 1 d (mine f d.loose) with loose := rest f d.loose }
def syncD (d : Dk) (f : Int) : Dk × Int := if readyD d f ≠ 0 then (d, readyD d f) else if (opD d []).2 ≠ 0 then opD d [] else (sync1 (opD d []).1 f.toNat, 0)
theorem mine_snoc {f : Nat} {l : List Ch} {x : Ch} : mine f (l ++ [x]) = if x.file = f then mine f l ++ [x] else mine f l := by
  unfold mine; rw [List.filter_append]; by_cases h : x.file = f <;> simp [h]
theorem rest_snoc {f : Nat} {l : List Ch} {x : Ch} : rest f (l ++ [x]) = if x.file = f then rest f l else rest f l ++ [x] := by
  unfold rest; rw [List.filter_append]; by_cases h : x.file = f <;> simp [h]
/-- in the midst of a Sync or a Crash -/
structure Sy (w : World) (S : Nat → Prop) (g : Nat) (A0 : Option Addr) (c0 : Nat) (d : Dk) (N : Nat) (A : Option Addr) (n c : Nat) (ot : List Ch) (W : World) : Prop where
  dk : ∃ S' m', DkAt W S' g m' d N ∧ (m'.A = A0 ∧ m'.cap = c0) ∧ (∀ b, S' b → S b ∨ w.heap.size ≤ b) ∧ ∀ z, (Value.slice A n c).ownBlock = some z → ¬ S' z ∧ w.heap.size ≤ z
  fr : Fr S w W
  own : W.ownsRow 0 74 67 (.slice A n c) n (chsL ot)
  len : n = ot.length
theorem loose_range {W : World} {S : Nat → Prop} {g : Nat} {m : Mm} {d : Dk} {N : Nat} (h : DkAt W S g m d N) {j : Nat} {x : Ch} (hx : d.loose[j]? = some x) : ∃ b, m.A = some ⟨b, 0, none⟩ ∧ W.rangeAt b (j * 67) (chL x) ∧ b < W.heap.size ∧ S b := by
  have hj : j < d.loose.length := (List.getElem?_eq_some_iff.1 hx).1
  have hlen : ∀ c ∈ d.loose, (chL c).length = 67 := fun c hc => chL_length (h.chs c hc)
  obtain ⟨b, cap, hv, hc, hlt⟩ := h.loo.form (by omega)
  have hA : m.A = some ⟨b, 0, none⟩ := by injection hv
  refine ⟨b, hA, fun k v hv => ?_, hlt, h.sl b (by rw [hA]; rfl)⟩
  have hcell := h.loo.cells (g := b) (by rw [hA]; rfl)
  have : (chsL d.loose)[j * 67 + k]? = some v := by
    have e : chsL d.loose = chsL (d.loose.take j) ++ (chL x ++ chsL (d.loose.drop (j + 1))) := by
      have e1 : d.loose = d.loose.take j ++ (x :: d.loose.drop (j + 1)) := by
        rw [List.getElem?_eq_getElem hj] at hx
        rw [← Option.some.inj hx, ← List.drop_eq_getElem_cons hj, List.take_append_drop]
      rw [e1, chsL_append]
      congr 1
      · rw [← e1]
      · rw [← e1]; rfl
    have hl1 : (chsL (d.loose.take j)).length = j * 67 := by rw [chsL_length _ (fun c hc => hlen c (List.mem_of_mem_take hc)), List.length_take]; congr 1; omega
    rw [e, List.getElem?_append_right (by omega), hl1, show j * 67 + k - j * 67 = k by omega, List.getElem?_append_left (List.getElem?_eq_some_iff.1 hv).1]
    exact hv
  have := hcell (j * 67 + k) v this
  rwa [Addr.add_mid, show 0 + (j * 67 + k) = j * 67 + k by omega] at this
theorem sync_err (S : Nat → Prop) (g : Nat) (d : Dk) (N : Nat) (hN : N + 1 ≤ 1000000) (f : Int) (w : World) (h : DkS w S g d N) (hr : readyD d f ≠ 0) :
    Calls Try.prog 18 #[.pointer (some ⟨g, 0, none⟩), .int .i64 f] w fun e w' => e = .returned (.int .i64 (readyD d f)) ∧ DkR w S g d (N + 1) w' := by
  have HRD := Lib.hid (ready_any S g d N f w h)
  have HB0 := Lib.hid (dkR_refl (dkS_more h hN))
  have hne : (readyD d f != 0) = true := by rw [bne_iff_ne]; exact hr
  generalize readyD d f = E at *
  clear h hr
  go_enter Try.func18, Try.ntmps18
  go_wp2_with fail
  refine (HRD.out).mono ?_
  rintro e w' ⟨rfl, rfl⟩
  go_wp2
  go_ret
  exact ⟨rfl, HB0.out⟩
theorem sync_op (S : Nat → Prop) (g : Nat) (d : Dk) (N : Nat) (hN : N + 1 ≤ 1000000) (f : Int) (w : World) (h : DkS w S g d N) (hr : readyD d f = 0) (ho : (opD d []).2 ≠ 0) :
    Calls Try.prog 18 #[.pointer (some ⟨g, 0, none⟩), .int .i64 f] w fun e w' => e = .returned (.int .i64 (opD d []).2) ∧ DkR w S g (opD d []).1 (N + 1) w' := by
  have HRD := Lib.hid (ready_any S g d N f w h)
  rw [hr] at HRD
  have HOP := Lib.hid (op_any S g d N hN none [] 0 0 rfl (by omega) (fun c hc => by cases hc) w (.inl rfl) (fun a ha => by cases ha) h)
  have hne : ((opD d []).2 != 0) = true := by rw [bne_iff_ne]; exact ho
  generalize opD d [] = E at *
  clear h hr ho
  go_enter Try.func18, Try.ntmps18
  go_wp2_with fail
  refine (HRD.out).mono ?_
  rintro e w' ⟨rfl, rfl⟩
  go_wp2_with fail
  refine (HOP.out).mono ?_
  rintro e w1 ⟨rfl, hR⟩
  have HR := Lib.hid hR
  clear hR
  go_wp2
  go_ret
  exact ⟨rfl, HR.out⟩
theorem sync_end {w wr : World} {S S2 : Nat → Prop} {g : Nat} {m2 : Mm} {d1 : Dk} {N n c f : Nat} {A : Option Addr} (hat : DkAt wr S2 g m2 (doneAll 1 d1 (mine f d1.loose)) (N + 1)) (hs2 : ∀ b, S2 b → S b ∨ w.heap.size ≤ b)
    (hd2 : ∀ z, (Value.slice A n c).ownBlock = some z → ¬ S2 z) (hf2 : Fr S w wr) (hown : wr.ownsRow 0 74 67 (.slice A n c) n (chsL (rest f d1.loose))) (hlen : n = (rest f d1.loose).length) (hnew : ∀ z, (Value.slice A n c).ownBlock = some z → w.heap.size ≤ z) :
    DkR w S g (sync1 d1 f) (N + 1) (wr.setCell ⟨g, 32, none⟩ (.slice A n c)) := by
  subst hlen
  have hlo : (doneAll 1 d1 (mine f d1.loose)).loose = d1.loose := (doneAll_rest 1 _ _).1
  have hng : ∀ z, (Value.slice A (rest f d1.loose).length c).ownBlock = some z → z ≠ g := fun z hz e => hd2 z hz (e ▸ hat.sg)
  have hcN := hat.cN
  rw [hlo] at hcN
  have hle : (rest f d1.loose).length ≤ d1.loose.length := List.length_filter_le _ _
  refine ⟨_, ⟨_, dkAt_loose hat (rest f d1.loose) A c (N + 1) ?_ ?_ ?_ ?_ ?_ ⟨Nat.le_refl _, by omega, hcN.2.2⟩⟩, ?_, ?_⟩
  · exact own_block hown (fun z hz => Below.heap_setCell _ _ _ _ (hng z hz))
  · intro x hx
    exact hat.chs x (by rw [hlo]; exact (List.mem_filter.1 hx).1)
  · rw [← dkA_loose (doneAll 1 d1 (mine f d1.loose)) m2 (rest f d1.loose) A c _ rfl]
    exact hat.blk.set_ 32 _
  · exact fr_set (fr_refl _ _) (p := ⟨g, 32, none⟩) (.inl (.inl rfl)) _
  · intro z hz
    exact .inr (hd2 z hz)
  · exact fr_set hf2 (p := ⟨g, 32, none⟩) (hs2 _ hat.sg) _
  · intro b hb
    rcases hb with h1 | h1
    · exact hs2 b h1
    · exact .inr (hnew b h1)
set_option maxRecDepth 100000 in
set_option maxHeartbeats 8000000 in
theorem sync_ok (S : Nat → Prop) (g : Nat) (d : Dk) (N : Nat) (hN : N + 1 ≤ 1000000) (f : Nat) (w : World) (h : DkS w S g d N) (hr : readyD d f = 0) (ho : (opD d []).2 = 0) :
    Calls Try.prog 18 #[.pointer (some ⟨g, 0, none⟩), .int .i64 f] w fun e w' => e = .returned (.int .i64 0) ∧ DkR w S g (sync1 (opD d []).1 f) (N + 1) w' := by
  have HRD := Lib.hid (ready_any S g d N f w h)
  rw [hr] at HRD
  have HOP := Lib.hid (op_any S g d N hN none [] 0 0 rfl (by omega) (fun c hc => by cases hc) w (.inl rfl) (fun a ha => by cases ha) h)
  rw [ho] at HOP
  generalize (opD d []).1 = d1 at *
  obtain ⟨iv, hv1, hv2, hv3, hv4⟩ := info_parts ch_info
  clear h hr ho
  go_enter Try.func18, Try.ntmps18
  go_wp2_with fail
  refine (HRD.out).mono ?_
  rintro e w' ⟨rfl, rfl⟩
  go_wp2_with fail
  refine (HOP.out).mono ?_
  rintro e w1 ⟨rfl, S1, ⟨⟨M1, ga1, A0, c0⟩, hm1⟩, hf1, hs1⟩
  obtain ⟨y2, y3, y4, y5, y6, z2, z3, z4, z5, z6⟩ := dk_more hm1.blk
  dsimp only at y2
  obtain ⟨L, hL⟩ : ∃ L, d1.loose.length = L := ⟨_, rfl⟩
  rw [hL] at y2
  have hcN := hm1.cN
  have hL8 : L ≤ 8192 * 1000000 := by rw [← hL]; omega
  have HSY := Lib.hid (show Sy w S g A0 c0 (doneAll 1 d1 (mine f (d1.loose.take 0))) (N + 1) none 0 0 (rest f (d1.loose.take 0)) w1 from ⟨⟨S1, _, hm1, ⟨rfl, rfl⟩, hs1, fun z hz => by cases hz⟩, hf1, World.ownsRow_nil _ _ _ _, rfl⟩)
  have HL := Lib.hid hL
  clear y3 y4 y5 y6 z2 z3 z4 z5 z6 hm1 hf1 hs1 hcN hL
  go_wp2
  go_loopw [7, 26] (fun o v wr => ∃ (j : Nat) (A : Option Addr) (n c : Nat), j ≤ L ∧ v = .int .i64 j ∧ o = .slice A n c ∧ Sy w S g A0 c0 (doneAll 1 d1 (mine f (d1.loose.take j))) (N + 1) A n c (rest f (d1.loose.take j)) wr) (fun _ v _ => L - (intOf v).toNat)
  case atStart => exact ⟨0, none, 0, 0, Nat.zero_le _, rfl, rfl, HSY.out⟩
  case round =>
    clear y2 HSY
    obtain ⟨j, A, n, c, hj, rfl, rfl, hsy⟩ := hrel
    by_cases hlt : j < L
    · obtain ⟨x, hx⟩ : ∃ x, d1.loose[j]? = some x := ⟨d1.loose[j]'(by rw [HL.out]; exact hlt), List.getElem?_eq_getElem _⟩
      obtain ⟨⟨S2, m2, hat, ⟨hA2, hc2⟩, hs2, hd2⟩, hf2, hown, hlen⟩ := hsy
      have hlo : (doneAll 1 d1 (mine f (d1.loose.take j))).loose = d1.loose := (doneAll_rest 1 _ _).1
      obtain ⟨b, hAb, hrng, hbl, hSb⟩ := loose_range hat (x := x) (j := j) (by rw [hlo]; exact hx)
      obtain rfl : A0 = some ⟨b, 0, none⟩ := by rw [← hA2, hAb]
      have hxo := hat.chs x (by rw [hlo]; exact List.mem_of_getElem? hx)
      have hln := chL_length hxo
      have hn8 : n ≤ 8192 * 1000000 := by
        rw [hlen]
        have h1 : (rest f (d1.loose.take j)).length ≤ (d1.loose.take j).length := List.length_filter_le _ _
        rw [List.length_take] at h1
        omega
      have hu := Try.underlying74
      have hs67 : (Try.prog.info? 74).map (·.size) = some (chL x).length := by rw [hln]; kernel_rfl
      have hs67a : (Try.prog.info? 74).map (·.size) = some (chL x).toArray.size := by rw [List.size_toArray, hln]; kernel_rfl
      have hst : (storeCells ⟨wr.heap.size, 0, none⟩ (chL x)).run Try.prog (wr.alloc (.cells Try.zeroCells74 74)) = .ok () (wr.alloc (.cells (chL x).toArray 74)) :=
        run_storeCells_new (P := Try.prog) wr 74 Try.zeroCells74 (chL x).toArray hs67a (by show _ = (chL x).length; rw [hln]; kernel_rfl) (chL_one x)
      have hbx := Blk.new wr 74 (chL x).toArray
      have hx0 : (wr.alloc (.cells (chL x).toArray 74)).cell? ⟨wr.heap.size, 0, none⟩ = some (.int .i64 x.file) := by rw [hbx.cell]; rfl
      have hNS : ¬ S2 wr.heap.size := fun e => by have := hat.lt _ e; omega
      have HNS := Lib.hid hNS
      have HX := Lib.hid hx
      by_cases hxf : x.file = f
      · have hrb : (wr.alloc (.cells (chL x).toArray 74)).drew.rangeAt wr.heap.size 0 (chL x) := fun k v hv => by
          rw [show (wr.alloc (.cells (chL x).toArray 74)).drew.cell? ⟨wr.heap.size, 0 + k, none⟩ = (wr.alloc (.cells (chL x).toArray 74)).cell? ⟨wr.heap.size, 0 + k, none⟩ from rfl, hbx.cell]
          simpa using hv
        have HDN := Lib.hid (done_at S2 g m2 _ (N + 1) x 1 (by omega) hxo (wr.alloc (.cells (chL x).toArray 74)).drew (dkAt_below hat (bj one_alloc (Below.refl _ _).drew)))
        have HS2 := Lib.hid hs2
        have HD2 := Lib.hid hd2
        have HF2 := Lib.hid hf2
        have HOW := Lib.hid hown
        have HLE := Lib.hid hlen
        have HMA := Lib.hid (And.intro hA2 hc2)
        have HXF := Lib.hid hxf
        have hxb : ((x.file : Int) == f) = true := by rw [beq_iff_eq]; omega
        have hxn : x.file = f := hxf
        clear hat hA2 hc2 hs2 hd2 hf2 hown hlen hx hlo hAb hSb hbx hNS hxf hxo hxn
        rw [HXF.out] at hx0
        clear hxb
        go_wp2_with (first | (refine wpList_load_mid rfl 74 (.tmp 28) rfl b (j * 67) rfl (chL x) _ hrng hu rfl hs67 ?_))
        clear hx0
        refine wp_region_held_drew (S := fun V => V.rangeAt wr.heap.size 0 (chL x)) (by kernel_rfl) hrb (fun hHeld => ?_)
        refine wpAnyH_take (i := 0) (v := .agg (chL x).toArray) rfl (by kernel_rfl) (by kernel_rfl) (by kernel_rfl) (fun _ _ _ h => h) (yieldsIf_load_mid (by rfl) _ _ rfl wr.heap.size 0 rfl (chL x) _ (fun w hSw => hSw) hu rfl hs67) hHeld ?_
        try simp only [Act.put, List.setIfInBounds_toArray, List.set_cons_zero, List.set_cons_succ]
        refine wpAnyH_take (i := 1) (v := ?_) rfl (by kernel_rfl) (by kernel_rfl) (by kernel_rfl) (fun _ _ _ h => h) (Or.inl ⟨by rfl, ?hy1⟩) hHeld ?_
        case hy1 => intro w1 hSw; go_simp; try with_reducible rfl
        try simp only [Act.put, List.setIfInBounds_toArray, List.set_cons_zero, List.set_cons_succ]
        refine wpAnyH_take (i := 2) (v := ?_) rfl (by kernel_rfl) (by kernel_rfl) (by kernel_rfl) (fun _ _ _ h => h) (Or.inl ⟨by rfl, ?hy2⟩) hHeld ?_
        case hy2 => intro w1 hSw; go_simp; try with_reducible rfl
        try simp only [Act.put, List.setIfInBounds_toArray, List.set_cons_zero, List.set_cons_succ]
        refine wpAnyH_take (i := 3) (v := ?_) rfl (by kernel_rfl) (by kernel_rfl) (by kernel_rfl) (fun _ _ _ h => h) (Or.inl ⟨by rfl, ?hy3⟩) hHeld ?_
        case hy3 => intro w1 hSw; go_simp; try with_reducible rfl
        try simp only [Act.put, List.setIfInBounds_toArray, List.set_cons_zero, List.set_cons_succ]
        refine wpAnyH_ready (rs := [4]) (by kernel_rfl) (by simp) ?_
        refine AllReadyH.cons rfl (fun K hK => ?_) AllReadyH.nil
        go_simp
        refine (HDN.out).mono ?_
        rintro e w2 ⟨rfl, hr2⟩
        dsimp only
        have hbx2 : Blk w2 wr.heap.size 74 (chL x).toArray := by
          obtain ⟨S3, m3, _, _, hf3, _⟩ := hr2
          exact fr_blk hf3 ((Blk.new wr 74 (chL x).toArray).drew) HNS.out
        have HR2 := Lib.hid hr2
        refine hK.out _ _ ?_ (fun hHeld => ?_)
        · exact fun k v hv => by rw [hbx2.cell]; simpa using hv
        refine wpAnyH_done (by kernel_rfl) ?_ _
        clear hHeld hK K hbx2 hr2 hrb hrng hst
        have HEND := Lib.hid (show Sy w S g (some ⟨b, 0, none⟩) c0 (doneAll 1 d1 (mine f (d1.loose.take (j + 1)))) (N + 1) A n c (rest f (d1.loose.take (j + 1))) w2 by
          rw [take_snoc HX.out, mine_snoc, rest_snoc, if_pos HXF.out, if_pos HXF.out, doneAll_snoc]
          obtain ⟨S3, m3, k1, ⟨k2, k3, _⟩, k4, k5⟩ := HR2.out
          have hlow : ∀ z, (Value.slice A n c).ownBlock = some z → z < wr.heap.size := fun z hz => (HOW.out.lt z hz).2
          have hnS3 : ∀ z, (Value.slice A n c).ownBlock = some z → ¬ S3 z ∧ w.heap.size ≤ z := fun z hz => ⟨fun h3 => by
            rcases k5 z h3 with h4 | h4
            · exact (HD2.out z hz).1 h4
            · have := hlow z hz; simp at h4; omega, (HD2.out z hz).2⟩
          refine ⟨⟨S3, m3, k1, ⟨by rw [k2]; exact HMA.out.1, by rw [k3]; exact HMA.out.2⟩, fun b hb => ?_, hnS3⟩, fr_trans (fr_step HF2.out (bj one_alloc (Below.refl _ _).drew)) k4 HS2.out, ?_, HLE.out⟩
          · rcases k5 b hb with h4 | h4
            · exact HS2.out b h4
            · exact .inr (Nat.le_trans HF2.out.size (Nat.le_trans (by simp) h4))
          · refine own_block HOW.out (fun z hz => ?_)
            rw [k4.block z (by have := hlow z hz; simp; omega) (HD2.out z hz).1]
            exact Below.heap_alloc wr _ z (hlow z hz))
        go_wp2
        go_roundw
        case rel => exact ⟨j + 1, A, n, c, by omega, by go_num, rfl, HEND.out⟩
        case measure => simp [intOf]; omega
      · have hrb : (wr.alloc (.cells (chL x).toArray 74)).rangeAt wr.heap.size 0 (chL x) := fun k v hv => by
          rw [hbx.cell]
          simpa using hv
        have hb2 := blk_new (wr.alloc (.cells (chL x).toArray 74)) (wr.heap.size + 1) 74 (chL x).toArray (by simp)
        have hrd : Reads ((wr.alloc (.cells (chL x).toArray 74)).alloc (.cells (chL x).toArray 74)) (wr.heap.size + 2) 67 (some ⟨wr.heap.size + 1, 0, none⟩) 1 (chL x) := ⟨by rw [hln], fun _ => ⟨_, rfl, Nat.lt_succ_self _, fun k u hu => by
          rw [Addr.add_mid, hb2.cell]
          simpa using hu⟩⟩
        have hown2 : ((wr.alloc (.cells (chL x).toArray 74)).alloc (.cells (chL x).toArray 74)).ownsRow 0 74 67 (.slice A n c) n (chsL (rest f (d1.loose.take j))) := (hown.alloc _).alloc _
        have hone : ∀ u ∈ chL x, u.oneCell' = true := fun u hu => (Array.all_eq_true_iff_forall_mem.1 (chL_one x)) u (by simpa using hu)
        have HS2 := Lib.hid hs2
        have HD2 := Lib.hid hd2
        have HF2 := Lib.hid hf2
        have HOW := Lib.hid hown
        have HLE := Lib.hid hlen
        have HMA := Lib.hid (And.intro hA2 hc2)
        have HXF := Lib.hid hxf
        have HAT := Lib.hid hat
        have HLN := Lib.hid hln
        have hxb : ((x.file : Int) == f) = false := by rw [beq_eq_false_iff_ne]; omega
        have hxb2 : (x.file == f) = false := by rw [beq_eq_false_iff_ne]; exact hxf
        clear hat hA2 hc2 hs2 hd2 hf2 hown hlen hx hlo hAb hSb hbx hNS hxo hb2
        go_wp2_with (first | (refine wpList_load_mid rfl 74 (.tmp 28) rfl b (j * 67) rfl (chL x) _ hrng hu rfl hs67 ?_) | (refine wpList_load_mid rfl 74 (.tmp 9) rfl wr.heap.size 0 rfl (chL x) _ hrb hu rfl hs67 ?_) | (at_builtin; refine gen_alloc (P := fun W => wpList _ _ _ _ _ W) (cs := (chL x).toArray) ?_ (fold_lst (chL x) _ 67 HLN.out (by kernel_rfl)); refine wpList_append_any _ rfl (.tmp 39) (.tmp 41) 68 rfl 0 74 iv _ 67 88 Try.underlying68 hv1 hv2 hv3 hv4 (by kernel_rfl) (by omega) (.slice A n c) n _ rfl hown2 (wr.heap.size + 2) (some ⟨wr.heap.size + 1, 0, none⟩) 1 1 (chL x) rfl hrd hone (by simp only [maxLen]; omega) (by omega) (by omega) ?_; intro v1 w4 hown1 hg1 hat1; obtain ⟨A1, c1, rfl⟩ := own_form hown1; (have HO1 := Lib.hid hown1); (have HG1 := Lib.hid hg1); (have HT1 := Lib.hid hat1); clear hown1 hg1 hat1))
        have HEND := Lib.hid (show Sy w S g (some ⟨b, 0, none⟩) c0 (doneAll 1 d1 (mine f (d1.loose.take (j + 1)))) (N + 1) A1 (n + 1) c1 (rest f (d1.loose.take (j + 1))) w4 by
          rw [take_snoc HX.out, mine_snoc, rest_snoc, if_neg HXF.out, if_neg HXF.out]
          have hfw : Fr (fun z => (Value.slice A n c).ownBlock = some z) wr w4 := fr_grown (fr_of ((one_alloc (w := wr) (o := .cells (chL x).toArray 74)).trans ((one_alloc (w := wr.alloc (.cells (chL x).toArray 74)) (o := .cells (chL x).toArray 74)).mono (by simp)))) HG1.out (fun z hz => .inl hz)
          have hat4 : DkAt w4 S2 g m2 (doneAll 1 d1 (mine f (d1.loose.take j))) (N + 1) := dkAt_keep HAT.out hfw (fun z hz h4 => (HD2.out z h4).1 hz)
          refine ⟨⟨S2, m2, hat4, HMA.out, HS2.out, fun z hz => ?_⟩, fr_trans HF2.out hfw (fun z hz => .inr (HD2.out z hz).2), ?_, ?_⟩
          · rcases HT1.out with h5 | h5
            · rw [h5] at hz; exact HD2.out z hz
            · rw [h5] at hz
              injection hz with hz
              simp at hz
              have h7 := HF2.out.size
              exact ⟨fun h3 => by have h6 := HAT.out.lt z h3; omega, by omega⟩
          · rw [chsL_append]
            have e : chsL [x] = chL x := by simp [chsL]
            rw [e]
            exact HO1.out
          · rw [List.length_append, ← HLE.out]; rfl)
        go_roundw
        case rel => exact ⟨j + 1, A1, n + 1, c1, by omega, by go_num, rfl, HEND.out⟩
        case measure => simp [intOf]; omega
    · obtain rfl : j = L := by omega
      obtain ⟨⟨S2, m2, hat, ⟨hA2, hc2⟩, hs2, hd2⟩, hf2, hown, hlen⟩ := hsy
      rw [List.take_of_length_le (by rw [HL.out]; exact Nat.le_refl _)] at hat hown hlen
      obtain ⟨y2, y3, y4, y5, y6, z2, z3, z4, z5, z6⟩ := dk_more hat.blk
      have HEND := Lib.hid (sync_end hat hs2 (fun z hz => (hd2 z hz).1) hf2 hown hlen (fun z hz => (hd2 z hz).2))
      clear hat hA2 hc2 hs2 hd2 hf2 hown hlen y3 y4 y5 y6 z3 z4 z5 z6
      go_wp2
      go_ret
      exact ⟨rfl, HEND.out⟩
theorem sync_any (S : Nat → Prop) (g : Nat) (d : Dk) (N : Nat) (hN : N + 1 ≤ 1000000) (f : Int) (w : World) (h : DkS w S g d N) :
    Calls Try.prog 18 #[.pointer (some ⟨g, 0, none⟩), .int .i64 f] w fun e w' => e = .returned (.int .i64 (syncD d f).2) ∧ DkR w S g (syncD d f).1 (N + 1) w' := by
  unfold syncD
  by_cases hr : readyD d f = 0
  · rw [if_neg (by simpa using hr)]
    by_cases ho : (opD d []).2 = 0
    · rw [if_neg (by simpa using ho)]
      have hf0 := (ready_ok hr).2.2.1
      obtain ⟨i, rfl⟩ := Int.eq_ofNat_of_zero_le hf0
      exact sync_ok S g d N hN i w h hr ho
    · rw [if_pos ho]
      exact sync_op S g d N hN f w h hr ho
  · rw [if_pos hr]
    exact sync_err S g d N hN f w h hr
end Go.Proofs.Ytffojihhjiogpaa
