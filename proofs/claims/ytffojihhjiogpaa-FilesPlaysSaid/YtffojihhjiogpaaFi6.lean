/- Layer 3: files.operation. Conditions: those of each lemma. -/
import Derived.Test.YtffojihhjiogpaaFi5
import Derived.Deep.WholeRow
import Derived.Deep.RegionWith
import Derived.Deep.RegionLaw
namespace Go.Proofs.Ytffojihhjiogpaa
open Go.RowKit Go Go.Maps
set_option linter.unusedVariables false
set_option linter.unusedSimpArgs false
/-- a slice of changes as it is read -/
def ChsAt (W : World) (A : Option Addr) (l : List Ch) : Prop := l = [] ∨ ∃ b o, A = some ⟨b, o, none⟩ ∧ b < W.heap.size ∧ ∀ j c, l[j]? = some c → W.rangeAt b (o + j * 67) (chL c)
theorem dkR_trans {w u v x : World} {S : Nat → Prop} {g : Nat} {d d2 : Dk} {N N2 : Nat} (h : DkR w S g d N u) (hb : Below u.heap.size u v) (k : ∀ S', DkS v S' g d N → DkR v S' g d2 N2 x) : DkR w S g d2 N2 x := by
  obtain ⟨S', h1, h2, h3⟩ := h
  obtain ⟨S2, k1, k2, k3⟩ := k S' (dkS_below h1 hb)
  refine ⟨S2, k1, fr_trans (fr_step h2 hb) k2 h3, fun b hs => ?_⟩
  rcases k3 b hs with h4 | h4
  · exact h3 b h4
  · exact .inr (Nat.le_trans h2.size (Nat.le_trans hb.size h4))
theorem dkR_same {w u : World} {S : Nat → Prop} {g : Nat} {d d2 : Dk} {N N2 : Nat} (h : DkR w S g d N u) (k : ∀ S' x, DkS x S' g d N → DkS x S' g d2 N2) : DkR w S g d2 N2 u := by
  obtain ⟨S', h1, h2, h3⟩ := h
  exact ⟨S', k _ _ h1, h2, h3⟩
theorem wpList_store_new {P : Program} {w : World} {ops : Array Oper} {rest : List Oper} {op : Oper} {a : Act} {Q : Exit → Act → World → Prop} (hgd : op.guard = none) (ty : TypeId) (x y : Operand) (ho : op.op = .store ty x y)
    (W : World) (c c' : Array Value) (hw : w = W.alloc (.cells c ty)) (hx : a.eval x = .pointer (some ⟨W.heap.size, 0, none⟩)) (hy : a.eval y = .agg c') (hi : (P.info? ty).map (·.size) = some c'.size) (hs : c.size = c'.size) (h1 : c'.all (·.oneCell') = true)
    (h : wpList P ops Q rest (a.put op.dst undef) (W.alloc (.cells c' ty))) : wpList P ops Q (op :: rest) a w := by
  subst hw
  refine wpList_plain hgd fun _ hK => ?_
  unfold Oper.wp execOp
  simp only [ho, hx, hy, Instr.storeAt, Instr.sureAddr, Sem.run_bind, Sem.run_pure, Result.andThen_ok, run_storeVar_new W ty c c' hi hs h1]
  exact hK _ _ h
theorem chL_one (c : Ch) : (chL c).toArray.all (·.oneCell') = true := all_oneCell_toArray (fun v hv => by
  unfold chL at hv
  simp only [List.mem_cons] at hv
  rcases hv with rfl | rfl | rfl | hv
  · rfl
  · rfl
  · rfl
  · exact vals8_one _ v hv)
def doneAll (s : Nat) (d : Dk) (l : List Ch) : Dk := l.foldl (doneA s) d
theorem doneAll_snoc (s : Nat) (d : Dk) (l : List Ch) (c : Ch) : doneAll s d (l ++ [c]) = doneA s (doneAll s d l) c := by unfold doneAll; rw [List.foldl_append]; rfl
theorem take_snoc {α : Type} {l : List α} {j : Nat} {c : α} (h : l[j]? = some c) : l.take (j + 1) = l.take j ++ [c] := by
  rw [List.take_add_one, h]; rfl
theorem doneAll_rest (s : Nat) : ∀ (l : List Ch) (d : Dk), (doneAll s d l).loose = d.loose ∧ (doneAll s d l).armed = d.armed ∧ (doneAll s d l).power = d.power ∧ (doneAll s d l).ops = d.ops ∧ (doneAll s d l).off = d.off
  | [], d => ⟨rfl, rfl, rfl, rfl, rfl⟩
  | c :: l, d => doneAll_rest s l (doneA s d c)
theorem flat_get : ∀ (l : List Ch) (o : Nat) (j : Nat) (u : Value), (∀ c ∈ l, (chL c).length = 67) → (chsL l)[j]? = some u → ∃ q r c, l[q]? = some c ∧ (chL c)[r]? = some u ∧ o + j = o + q * 67 + r
  | [], o, j, u, _, h => by simp [chsL] at h
  | c :: l, o, j, u, hl, h => by
    have hc := hl c (List.mem_cons_self ..)
    have e : chsL (c :: l) = chL c ++ chsL l := by simp [chsL]
    rw [e] at h
    by_cases hj : j < 67
    · rw [List.getElem?_append_left (by omega)] at h
      exact ⟨0, j, c, rfl, h, by omega⟩
    · rw [List.getElem?_append_right (by omega), hc] at h
      obtain ⟨q, r, x, h1, h2, h3⟩ := flat_get l 0 (j - 67) u (fun x hx => hl x (List.mem_cons_of_mem _ hx)) h
      exact ⟨q + 1, r, x, by simpa using h1, h2, by omega⟩
theorem chsL_length : ∀ (l : List Ch), (∀ c ∈ l, (chL c).length = 67) → (chsL l).length = l.length * 67
  | [], _ => by simp [chsL]
  | c :: l, hl => by
    have e : chsL (c :: l) = chL c ++ chsL l := by simp [chsL]
    rw [e, List.length_append, chsL_length l (fun x hx => hl x (List.mem_cons_of_mem _ hx)), hl c (List.mem_cons_self ..), List.length_cons]
    omega
theorem chsL_append (a b : List Ch) : chsL (a ++ b) = chsL a ++ chsL b := by simp [chsL]
theorem chs_reads {W : World} {A : Option Addr} {l : List Ch} (h : ChsAt W A l) (hl : ∀ c ∈ l, (chL c).length = 67) : Reads W W.heap.size 67 A l.length (chsL l) := by
  refine ⟨chsL_length l hl, fun hn => ?_⟩
  obtain ⟨b, o, rfl, hb, hc⟩ := h.resolve_left (by rintro rfl; simp at hn)
  refine ⟨_, rfl, hb, fun j u hu => ?_⟩
  obtain ⟨q, r, c, h1, h2, h3⟩ := flat_get l o j u hl hu
  rw [Addr.add_mid, h3]
  exact hc q c h1 r u h2
theorem chsL_one (l : List Ch) : ∀ u ∈ chsL l, u.oneCell' = true := fun u hu => by
  obtain ⟨c, _, hc⟩ := List.mem_flatMap.1 hu
  exact (Array.all_eq_true_iff_forall_mem.1 (chL_one c)) u (by simpa using hc)
theorem chs_fr {S : Nat → Prop} {w W : World} {A : Option Addr} {l : List Ch} (h : ChsAt w A l) (hf : Fr S w W) (hA : ∀ a, A = some a → ¬ S a.block) : ChsAt W A l := by
  rcases h with h | ⟨b, o, rfl, hb, hc⟩
  · exact .inl h
  · refine .inr ⟨b, o, rfl, Nat.lt_of_lt_of_le hb hf.size, fun j c hj k v hv => ?_⟩
    exact (World.cell?_of_block (a := ⟨b, o + j * 67 + k, none⟩) (hf.block b hb (hA _ rfl))).trans (hc j c hj k v hv)
theorem dkA_loose (d : Dk) (m : Mm) (lo : List Ch) (A' : Option Addr) (cap' : Nat) (v : Value) (hv : v = .slice A' lo.length cap') : (dkA d m).setIfInBounds 32 v = dkA { d with loose := lo } { m with A := A', cap := cap' } := by
  subst hv
  refine dkA_set _ _ fun k hk => ?_
  by_cases e : k = 32
  · subst e; rfl
  · rw [if_neg e]
    unfold dkCell
    by_cases h1 : k < 32
    · rw [if_pos h1, if_pos h1]
    · rw [if_neg h1, if_neg h1, if_neg e, if_neg e]
theorem dkAt_loose {W W' : World} {S : Nat → Prop} {g : Nat} {m : Mm} {d : Dk} {N : Nat} (h : DkAt W S g m d N) (lo : List Ch) (A' : Option Addr) (cap' : Nat) (N' : Nat)
    (hown : W'.ownsRow 0 74 67 (.slice A' lo.length cap') lo.length (chsL lo)) (hch : ∀ c ∈ lo, ChOk c)
    (hblk : Blk W' g 70 (dkA { d with loose := lo } { m with A := A', cap := cap' })) (hf : Fr (fun b => b = g ∨ (Value.slice m.A d.loose.length m.cap).ownBlock = some b) W W')
    (hnew : ∀ z, (Value.slice A' lo.length cap').ownBlock = some z → (Value.slice m.A d.loose.length m.cap).ownBlock = some z ∨ ¬ S z) (hN : N ≤ N' ∧ lo.length ≤ 8192 * N' ∧ N' ≤ 1000000) :
    DkAt W' (fun b => S b ∨ (Value.slice A' lo.length cap').ownBlock = some b) g { m with A := A', cap := cap' } { d with loose := lo } N' := by
  have hb : ∀ b, S b → b ≠ g → (Value.slice m.A d.loose.length m.cap).ownBlock ≠ some b → W'.heap[b]? = W.heap[b]? := fun b hs h1 h2 => hf.block b (h.lt b hs) (fun h3 => by rcases h3 with h3 | h3; exact h1 h3; exact h2 h3)
  obtain ⟨D, n, hn, ho, hk⟩ := h.arm
  have hga : (Value.slice m.A d.loose.length m.cap).ownBlock ≠ some m.ga := fun hz => by
    obtain ⟨es, clock, h1, _⟩ := ho
    rcases h.loo.2 with ⟨hn, _⟩ | ⟨g', cap, cur, hv, _, hg, _⟩
    · rw [hn] at hz; cases hz
    · rw [hv] at hz
      injection hz with hz
      rw [← hz] at h1
      rw [show (⟨g', 0, none⟩ : Addr).block = g' from rfl, hg] at h1
      cases h1
  refine ⟨hblk, fun i hi => fm_keep (h.fl i hi) (fun b e => hb b (h.sm i hi b e) (fun e2 => dkAt_m_g h hi (by rw [e, e2])) (fun e2 => dkAt_m_l h hi e2 e)), h.ok, h.ap, ⟨D, n, by omega, arm_block ho (hb m.ga h.sa (dkAt_ga h) hga), hk⟩, h.ga, hown, hch, fun z hz e => ?_, .inl h.sg, fun i hi b e => .inl (h.sm i hi b e), .inl h.sa, fun z hz => .inr hz, fun b hs => ?_, ⟨by have := h.cN.1; show d.ops ≤ _; omega, hN.2⟩, h.pw⟩
  · rcases hnew z hz with h1 | h1
    · exact h.ng z h1 e
    · exact h1 (e ▸ h.sg)
  · rcases hs with hs | hs
    · exact Nat.lt_of_lt_of_le (h.lt b hs) hf.size
    · exact (hown.lt b hs).2
theorem ch_info : (Try.prog.info? 74).map (fun i => (i.zero, i.size, i.bytes)) = some (some (.agg Try.zeroCells74), 67, 88) := by kernel_rfl
theorem own_form {w : World} {base e size n : Nat} {v : Value} {xs : List Value} (h : w.ownsRow base e size v n xs) : ∃ A c, v = .slice A n c := by
  rcases h.2 with ⟨rfl, rfl⟩ | ⟨g, cap, cur, rfl, _⟩
  · exact ⟨_, _, rfl⟩
  · exact ⟨_, _, rfl⟩
theorem own_cell {wr w4 : World} {S : Nat → Prop} {g : Nat} {m : Mm} {dj : Dk} {N : Nat} {l : List Ch} (h : DkAt wr S g m dj N) (hlo : dj.loose = l) (hg : wr.grownBy w4 (Value.slice m.A l.length m.cap).ownBlock) : w4.cell? ⟨g, 32, none⟩ = some (.slice m.A l.length m.cap) ∧ w4.frozen? ⟨g, 32, none⟩ = false := by
  subst hlo
  have hb := h.blk.grown hg (fun e => h.ng _ e.symm rfl)
  obtain ⟨y2, y3, y4, y5, y6, z2, z3, z4, z5, z6⟩ := dk_more hb
  exact ⟨y2, z2⟩
theorem loose_end {w wr w4 : World} {S S1 : Nat → Prop} {g : Nat} {m : Mm} {dj : Dk} {N : Nat} {l made : List Ch} {n c1 : Nat} {A1 : Option Addr} (h : DkAt wr S1 g m dj (N + 1)) (hf : Fr S w wr) (hs : ∀ b, S1 b → S b ∨ w.heap.size ≤ b) (hlo : dj.loose = l) (hn : n = made.length) (hmk : ∀ c ∈ made, ChOk c) (hn8 : n ≤ 8192)
    (hc : dj.ops ≤ N + 1 ∧ l.length ≤ 8192 * (N + 1) ∧ N + 1 ≤ 1000000) (hl : l.length + n ≤ 8192 * (N + 1)) (hN : N + 1 ≤ 1000000) (ho : w4.ownsRow 0 74 67 (.slice A1 (l.length + n) c1) (l.length + n) (chsL l ++ chsL made)) (hg : wr.grownBy w4 (Value.slice m.A l.length m.cap).ownBlock)
    (ht : (Value.slice A1 (l.length + n) c1).ownBlock = (Value.slice m.A l.length m.cap).ownBlock ∨ (Value.slice A1 (l.length + n) c1).ownBlock = some wr.heap.size) :
    DkR w S g { dj with loose := l ++ made } (N + 1) (w4.setCell ⟨g, 32, none⟩ (.slice A1 (l.length + n) c1)) := by
  subst hn hlo
  have hng : ∀ z, (Value.slice A1 (dj.loose.length + made.length) c1).ownBlock = some z → z ≠ g := fun z hz e => by
    rcases ht with h1 | h1
    · rw [h1] at hz; exact h.ng z hz e
    · rw [h1] at hz; injection hz with hz; have := h.lt _ h.sg; omega
  have hb := h.blk.grown hg (fun e => h.ng _ e.symm rfl)
  have hll : (dj.loose ++ made).length = dj.loose.length + made.length := List.length_append
  refine ⟨_, ⟨_, dkAt_loose h (dj.loose ++ made) A1 c1 (N + 1) ?_ ?_ ?_ ?_ ?_ ⟨Nat.le_refl _, by rw [hll]; exact hl, hN⟩⟩, ?_, ?_⟩
  · rw [hll, chsL_append]
    exact own_block ho (fun z hz => Below.heap_setCell _ _ _ _ (hng z hz))
  · intro c hc
    rcases List.mem_append.1 hc with hc | hc
    · exact h.chs c hc
    · exact hmk c hc
  · rw [← dkA_loose dj m (dj.loose ++ made) A1 c1 _ rfl, hll]
    exact hb.set_ 32 _
  · exact fr_set (fr_grown (fr_refl _ _) hg (fun z hz => .inl (.inr hz))) (p := ⟨g, 32, none⟩) (.inl (.inl rfl)) _
  · intro z hz
    rw [hll] at hz
    rcases ht with h1 | h1
    · rw [h1] at hz; exact .inl hz
    · rw [h1] at hz; injection hz with hz; exact .inr (fun hs => by have := h.lt _ hs; omega)
  · refine fr_set (fr_trans hf (fr_grown (S := S1) (fr_refl _ _) hg (fun z hz => .inl (h.sl z hz))) hs) (p := ⟨g, 32, none⟩) (hs _ h.sg) _
  · intro b hb2
    rcases hb2 with h1 | h1
    · exact hs b h1
    · rw [hll] at h1
      rcases ht with h2 | h2
      · rw [h2] at h1; exact hs b (h.sl b h1)
      · rw [h2] at h1; injection h1 with h1; exact .inr (by have := hf.size; omega)
set_option maxRecDepth 100000 in
set_option maxHeartbeats 8000000 in
theorem op_ok (S : Nat → Prop) (g : Nat) (d : Dk) (N : Nat) (hN : N + 1 ≤ 1000000) (A : Option Addr) (made : List Ch) (n c : Nat) (hn : n = made.length) (hn8 : n ≤ 8192) (hmk : ∀ c ∈ made, ChOk c) (w : World) (hA : ChsAt w A made) (hAS : ∀ a, A = some a → ¬ S a.block) (h : DkS w S g d N) (hp : (d.ops : Int) ≠ d.power) (ha : d.armed d.ops = 0) :
    Calls Try.prog 40 #[.pointer (some ⟨g, 0, none⟩), .slice A n c] w fun e w' => e = .returned (.int .i64 0) ∧ DkR w S g { doneAll 0 d.op1 made with loose := d.loose ++ made } (N + 1) w' := by
  obtain ⟨m, hm⟩ := h
  obtain ⟨y2, y3, y4, y5, y6, z2, z3, z4, z5, z6⟩ := dk_more hm.blk
  have hpb : ((d.ops : Int) == d.power) = false := by rw [beq_eq_false_iff_ne]; exact hp
  have hops : (d.ops : Int) ≤ 1000000 := by have := hm.cN; omega
  have h1 := op1_at hm hN ((d.ops : Int) + 1) rfl
  have hlk : (Instr.lookup 63 (.map (some m.ga)) (.int .i64 d.ops) false).run Try.prog (w.setCell ⟨g, 35, none⟩ (.int .i64 ((d.ops : Int) + 1))) = .ok (.int .i64 0) (w.setCell ⟨g, 35, none⟩ (.int .i64 ((d.ops : Int) + 1))) := by
    have := arm_look h1 d.ops (by omega) (by omega)
    rwa [show d.op1.armed d.ops = 0 from ha] at this
  have HR0 := Lib.hid (dkR_of (w := w) h1 (fr_set (fr_refl _ _) (p := ⟨g, 35, none⟩) (.inl hm.sg) _))
  have HL0 := Lib.hid hm.cN.2.1
  have HAA := Lib.hid hA
  have HAS := Lib.hid hAS
  have HNN := Lib.hid hn
  have HMK := Lib.hid hmk
  clear hm h1 hp ha hA hAS hn hmk
  go_enter Try.func40, Try.ntmps40
  go_wp2
  go_loopw [45] (fun v wr => ∃ j : Nat, j ≤ n ∧ v = .int .i64 j ∧ DkR w S g (doneAll 0 d.op1 (made.take j)) (N + 1) wr) (fun v _ => n - (intOf v).toNat)
  case atStart => exact ⟨0, Nat.zero_le _, rfl, HR0.out⟩
  case round =>
    clear y2 y3 y4 y5 y6 z2 z3 z4 z5 z6 hlk HR0
    obtain ⟨j, hj, rfl, hr⟩ := hrel
    by_cases hlt : j < n
    · have hl : j < made.length := by rw [← HNN.out]; exact hlt
      obtain ⟨x, hx⟩ : ∃ x, made[j]? = some x := ⟨made[j], List.getElem?_eq_getElem hl⟩
      obtain ⟨b, o, rfl, hbl, hra⟩ := HAA.out.resolve_left (by rintro rfl; simp at hl)
      have hxo := HMK.out x (List.mem_of_getElem? hx)
      have hlen := chL_length hxo
      have hrng : wr.rangeAt b (o + j * 67) (chL x) := fun k v hv => by
        obtain ⟨S', _, hf, _⟩ := hr
        have hc := hra j x hx k v hv
        exact (World.cell?_of_block (a := ⟨b, o + j * 67 + k, none⟩) (hf.block b hbl (HAS.out _ rfl))).trans hc
      have hu := Try.underlying74
      have hs67 : (Try.prog.info? 74).map (·.size) = some (chL x).length := by rw [hlen]; kernel_rfl
      have hs67a : (Try.prog.info? 74).map (·.size) = some (chL x).toArray.size := by rw [List.size_toArray, hlen]; kernel_rfl
      have hst : (storeCells ⟨wr.heap.size, 0, none⟩ (chL x)).run Try.prog (wr.alloc (.cells Try.zeroCells74 74)) = .ok () (wr.alloc (.cells (chL x).toArray 74)) :=
        run_storeCells_new (P := Try.prog) wr 74 Try.zeroCells74 (chL x).toArray hs67a (by show _ = (chL x).length; rw [hlen]; kernel_rfl) (chL_one x)
      have hbx := Blk.new wr 74 (chL x).toArray
      have hrb : (wr.alloc (.cells (chL x).toArray 74)).drew.rangeAt wr.heap.size 0 (chL x) := fun k v hv => by
        rw [show (wr.alloc (.cells (chL x).toArray 74)).drew.cell? ⟨wr.heap.size, 0 + k, none⟩ = (wr.alloc (.cells (chL x).toArray 74)).cell? ⟨wr.heap.size, 0 + k, none⟩ from rfl, hbx.cell]
        simpa using hv
      have HDN := Lib.hid (fun W S' (hs : DkS W S' g (doneAll 0 d.op1 (made.take j)) (N + 1)) => done_any S' g _ (N + 1) x 0 (by omega) hxo W hs)
      have HX := Lib.hid hx
      have HR := Lib.hid hr
      clear hr hx hra hbx
      go_wp2_with (first | (refine wpList_load_mid rfl 74 (.tmp 47) rfl b (o + j * 67) rfl (chL x) _ hrng hu rfl hs67 ?_))
      obtain ⟨S1, hk1, hf1, hs1⟩ := HR.out
      have hk2 := dkS_below hk1 (one_alloc (o := .cells (chL x).toArray 74))
      have HD1 := Lib.hid (HDN.out _ S1 (show DkS (wr.alloc (.cells (chL x).toArray 74)).drew S1 g _ (N + 1) from dkS_below hk2 ((Below.refl _ _).drew)))
      have HF1 := Lib.hid hf1
      have HS1 := Lib.hid hs1
      have HNS := Lib.hid (show ¬ S1 wr.heap.size from fun e => by
        obtain ⟨m1, hm1⟩ := hk1
        have := hm1.lt _ e
        omega)
      clear hk1 hf1 hs1 hk2
      refine wp_region_held_drew (S := fun V => V.rangeAt wr.heap.size 0 (chL x)) (by kernel_rfl) hrb (fun hHeld => ?_)
      refine wpAnyH_take (i := 0) (v := .agg (chL x).toArray) rfl (by kernel_rfl) (by kernel_rfl) (by kernel_rfl) (fun _ _ _ h => h) (yieldsIf_load_mid (by rfl) _ _ rfl wr.heap.size 0 rfl (chL x) _ (fun w hSw => hSw) hu rfl hs67) hHeld ?_
      try simp only [Act.put, List.setIfInBounds_toArray, List.set_cons_zero, List.set_cons_succ]
      refine wpAnyH_take (i := 1) (v := ?_) rfl (by kernel_rfl) (by kernel_rfl) (by kernel_rfl) (fun _ _ _ h => h) (Or.inl ⟨by rfl, ?hy1⟩) hHeld ?_
      case hy1 => intro w1 hSw; go_simp; try with_reducible rfl
      try simp only [Act.put, List.setIfInBounds_toArray, List.set_cons_zero, List.set_cons_succ]
      refine wpAnyH_take (i := 2) (v := ?_) rfl (by kernel_rfl) (by kernel_rfl) (by kernel_rfl) (fun _ _ _ h => h) (Or.inl ⟨by rfl, ?hy2⟩) hHeld ?_
      case hy2 => intro w1 hSw; go_simp; try with_reducible rfl
      try simp only [Act.put, List.setIfInBounds_toArray, List.set_cons_zero, List.set_cons_succ]
      refine wpAnyH_take (i := 3) (v := ?_) rfl (by kernel_rfl) (by kernel_rfl) (by kernel_rfl) (fun _ _ _ h => h) (Or.inl ⟨by rfl, ?hy3⟩) hHeld ?_
      case hy3 => intro w1 hSw; go_simp; try with_reducible rfl
      try simp only [Act.put, List.setIfInBounds_toArray, List.set_cons_zero, List.set_cons_succ]
      refine wpAnyH_ready (rs := [4]) (by kernel_rfl) (by simp) ?_
      refine AllReadyH.cons rfl (fun K hK => ?_) AllReadyH.nil
      go_simp
      refine (HD1.out).mono ?_
      rintro e w2 ⟨rfl, hr2⟩
      dsimp only
      have hbx2 : Blk w2 wr.heap.size 74 (chL x).toArray := by
        obtain ⟨S2, _, hf2, _⟩ := hr2
        exact fr_blk hf2 ((Blk.new wr 74 (chL x).toArray).drew) HNS.out
      have HR2 := Lib.hid hr2
      refine hK.out _ _ ?_ (fun hHeld => ?_)
      · exact fun k v hv => by rw [hbx2.cell]; simpa using hv
      refine wpAnyH_done (by kernel_rfl) ?_ _
      clear hHeld hK K hbx2 hr2 hrb hrng hst
      have HEND := Lib.hid (show DkR w S g (doneAll 0 d.op1 (made.take (j + 1))) (N + 1) w2 by
        rw [take_snoc HX.out, doneAll_snoc]
        obtain ⟨S2, k1, k2, k3⟩ := HR2.out
        refine ⟨S2, k1, fr_trans (fr_step HF1.out (bj one_alloc (Below.refl _ _).drew)) k2 HS1.out, fun b hs => ?_⟩
        rcases k3 b hs with h4 | h4
        · exact HS1.out b h4
        · exact .inr (Nat.le_trans HF1.out.size (Nat.le_trans (by simp) h4)))
      go_wp2
      go_roundw
      case rel => exact ⟨j + 1, by omega, by go_num, HEND.out⟩
      case measure => simp [intOf]; omega
    · obtain rfl : j = n := by omega
      have hr2 : DkR w S g (doneAll 0 d.op1 made) (N + 1) wr := by rwa [List.take_of_length_le (by rw [HNN.out]; exact Nat.le_refl _)] at hr
      clear hr
      obtain ⟨S1, ⟨m1, hm1⟩, hf1, hs1⟩ := hr2
      have hd := doneAll_rest 0 made d.op1
      obtain ⟨dj, hdj⟩ : ∃ dj, doneAll 0 d.op1 made = dj := ⟨_, rfl⟩
      rw [hdj] at hm1 hd
      have hlo : dj.loose = d.loose := hd.1
      obtain ⟨y2, y3, y4, y5, y6, z2, z3, z4, z5, z6⟩ := dk_more hm1.blk
      have hown := hm1.loo
      have hcn := hm1.cN
      rw [hlo] at y2 hown hcn
      have hchs := chs_reads (chs_fr HAA.out hf1 HAS.out) (fun c hc => chL_length (HMK.out c hc))
      rw [← HNN.out] at hchs
      obtain ⟨iv, hv1, hv2, hv3, hv4⟩ := info_parts ch_info
      have HM1 := Lib.hid hm1
      have HF1 := Lib.hid hf1
      have HS1 := Lib.hid hs1
      have HLO := Lib.hid hlo
      have HCN := Lib.hid hcn
      have HDJ := Lib.hid hdj
      have hll : d.loose.length ≤ 8192 * 1000000 := by have := hcn; omega
      clear hm1 hf1 hs1 hlo hcn hdj hd y3 y4 y5 y6 z3 z4 z5 z6
      go_wp2_with (at_builtin; refine wpList_append_any _ rfl (.tmp 59) (.tmp 60) 68 rfl 0 74 iv _ 67 88 Try.underlying68 hv1 hv2 hv3 hv4 (by kernel_rfl) (by omega) _ d.loose.length (chsL d.loose) rfl hown wr.heap.size A j c (chsL made) rfl hchs (chsL_one made) (by simp only [maxLen]; omega) (by omega) (by omega) ?_; intro v1 w4 hown1 hg1 hat1; obtain ⟨A1, c1, rfl⟩ := own_form hown1; (have b4 := (own_cell HM1.out HLO.out hg1)); (obtain ⟨x2, k2⟩ := b4); (have HO1 := Lib.hid hown1); (have HG1 := Lib.hid hg1); (have HT1 := Lib.hid hat1); clear hown1 hg1 hat1)
      go_ret
      refine ⟨rfl, ?_⟩
      rw [HDJ.out]
      exact loose_end HM1.out HF1.out HS1.out HLO.out HNN.out HMK.out hn8 HCN.out (by have := HL0.out; omega) hN HO1.out HG1.out HT1.out
end Go.Proofs.Ytffojihhjiogpaa
