/- Layer 5: the law's small functions; scripts; what a Checkpoint leaves. Conditions: those of each lemma. -/
import Derived.Test.YthipaabjmlgjmaaMwF
import Derived.Test.YthipaabjmlgjmaaMwY
import Derived.Deep.QuietTactic
import Derived.BigQuiet
import Derived.Deep.Slices
import Derived.Deep.Fields
import Derived.ChangeSame
import Derived.Lib.SmallJoins
import Derived.ProofKit
import Derived.OpenShut
import Derived.ShutString
import Derived.ChangeOld
namespace Go.Proofs.Ythipaabjmlgjmaa
open Go Go.RowKit
set_option linter.unusedVariables false
set_option linter.unusedSimpArgs false
def rfCheck12 (ops : Array Oper) (R : List Nat) (D : Nat → List Nat) (l0 l1 : Array Bool) : Bool :=
  decide R.Nodup && R.all (fun i => decide (i < ops.size) && l0[i]? == some false) && R.all (fun i => R.all fun j => i == j || dstNe ops i j) &&
  R.all (fun i => (D i).all fun d => R.contains d && depOn ops i d) &&
  (List.range ops.size).all (fun t => R.contains t || l0.getD t true || R.all (fun i => reach ops R 12 t i) || (List.range ops.size).any (fun t' => !R.contains t' && l0[t']? == some false && depOn ops t t')) &&
  R.all (fun i => ((ops[i]?).map (fun o => o.after.all fun e => !Region.binds .any e || l0.getD e.on false || (R.contains e.on && decide (e.on < i)))).getD false) &&
  decide (l1.size = l0.size) && (List.range l0.size).all (fun k => l1[k]? == spec l0 R [] k)
theorem facts_gov {P : Program} {ops : Array Oper} {Q : Exit → Act → World → Prop} (R : List Nat) (D : Nat → List Nat) (p q : Nat) (F : Nat → Value → World → Prop) (St : World → World → Prop) (I : Bool → Bool → World → Prop) (a0 : Act) (f0 : Nat) (l0 l1 : Array Bool)
    (hF : ∀ i v w w', F i v w → St w w' → F i v w') (hck : rfCheck12 ops R D l0 l1 = true)
    (hstep : ∀ i ∈ R, ∀ b c, (i = p → b = true) → (i = q → c = true) → (p ∈ D i → b = false) → (q ∈ D i → c = false) → ∀ x w, (∀ d ∈ D i, F d (x d) w) → I b c w → ∀ K : Act → World → Prop, (∀ v w', F i v w' → St w w' → I (if i = p then false else b) (if i = q then false else c) w' → K ((putsA ops a0 x R).put (dstOf ops i) v) w') → wpOp P ops Q i K (putsA ops a0 x R) w)
    (hend : ∀ x w b c, (∀ i ∈ R, F i (x i) w) → (p ∈ R → b = false) → (q ∈ R → c = false) → I b c w → wpAny P .any ops Q f0 l1 (putsA ops a0 x R) w) :
    ∀ (n : Nat) (T : List Nat), T.length = n → T.Nodup → (∀ i ∈ T, i ∈ R) → ∀ (l : Array Bool) (x : Nat → Value) (w : World) (b c : Bool), l.size = l0.size → (∀ k, l[k]? = spec l0 R T k) → (∀ j ∈ R, l[j]? = some true → ∀ d, depOn ops j d = true → l[d]? = some true) → (∀ i ∈ R, i ∉ T → F i (x i) w) → (p ∈ T → b = true) → (p ∈ R → p ∉ T → b = false) → (q ∈ T → c = true) → (q ∈ R → q ∉ T → c = false) → I b c w → wpAny P .any ops Q (n + f0) l (putsA ops a0 x R) w := by
  unfold rfCheck12 at hck
  simp only [Bool.and_eq_true] at hck
  obtain ⟨⟨⟨⟨⟨⟨⟨c1, c2⟩, c3⟩, c4⟩, c5⟩, c6⟩, c7⟩, c8⟩ := hck
  have c1 : R.Nodup := of_decide_eq_true c1
  have c2 : ∀ i ∈ R, i < ops.size ∧ l0[i]? = some false := fun i hi => by
    have h := List.all_eq_true.1 c2 i hi
    simp only [Bool.and_eq_true, decide_eq_true_eq, beq_iff_eq] at h
    exact h
  have c3 : ∀ i ∈ R, ∀ j ∈ R, i ≠ j → dstNe ops i j = true := fun i hi j hj hne => by
    have h := List.all_eq_true.1 (List.all_eq_true.1 c3 i hi) j hj
    simp only [Bool.or_eq_true, beq_iff_eq] at h
    exact h.resolve_left hne
  have c4 : ∀ i ∈ R, ∀ d ∈ D i, d ∈ R ∧ depOn ops i d = true := fun i hi d hd => by
    have h := List.all_eq_true.1 (List.all_eq_true.1 c4 i hi) d hd
    simp only [Bool.and_eq_true, List.contains_iff_mem] at h
    exact h
  have c7 : l1.size = l0.size := of_decide_eq_true c7
  intro n
  induction n with
  | zero =>
    intro T hT _ _ l x w b c hs hl hdc hf hp1 hp2 hq1 hq2 hI
    obtain rfl : T = [] := List.eq_nil_of_length_eq_zero hT
    have hll : l = l1 := by
      apply Array.ext_getElem?
      intro k
      rw [hl k]
      by_cases hk : k < l0.size
      · have h := List.all_eq_true.1 c8 k (List.mem_range.2 hk)
        simp only [beq_iff_eq] at h
        exact h.symm
      · rw [Array.getElem?_eq_none (xs := l1) (by omega)]
        unfold spec
        have hn : k ∉ R := fun hk' => by
          have := (c2 k hk').2
          rw [Array.getElem?_eq_none (by omega)] at this
          cases this
        simp [hn, Array.getElem?_eq_none (xs := l0) (i := k) (by omega)]
    rw [Nat.zero_add, hll]
    exact hend x w b c (fun i hi => hf i hi (by simp)) (fun h => hp2 h (by simp)) (fun h => hq2 h (by simp)) hI
  | succ n ih =>
    intro T hT hTn hTR l x w b c hs hl hdc hf hp1 hp2 hq1 hq2 hI
    have hne : T ≠ [] := fun e => by rw [e] at hT; simp at hT
    have inT : ∀ k ∈ T, l[k]? = some false := fun k hk => by rw [hl k]; unfold spec; rw [if_pos (by simpa using hk)]
    have inR : ∀ k ∈ R, k ∉ T → l[k]? = some true := fun k hk hn => by rw [hl k]; unfold spec; rw [if_neg (by simpa using hn), if_pos (by simpa using hk)]
    have out : ∀ k, k ∉ R → l[k]? = l0[k]? := fun k hk => by rw [hl k]; unfold spec; rw [if_neg (by simpa using fun h => hk (hTR k h)), if_neg (by simpa using hk)]
    have rdy : ∀ i ∈ Region.ready .any ops l, i ∈ T := fun i hi => by
      obtain ⟨h0, o, ho, hall⟩ := mem_ready.1 hi
      have hdep : ∀ d, depOn ops i d = true → l[d]? = some true := fun d hd => by
        obtain ⟨e, he, h1, rfl⟩ := dep_on ho hd
        have h2 := hall e he h1
        cases h3 : l[e.on]? with
        | none => simp [h3] at h2
        | some b => simp [h3] at h2; rw [h2]
      apply Classical.byContradiction
      intro hiT
      by_cases hiR : i ∈ R
      · rw [Array.getD_eq_getD_getElem?, inR i hiR hiT] at h0
        cases h0
      · have hio : i < ops.size := (Array.getElem?_eq_some_iff.1 ho).1
        have h := List.all_eq_true.1 c5 i (List.mem_range.2 hio)
        simp only [Bool.or_eq_true] at h
        rcases h with ((h | h) | h) | h
        · exact hiR (by simpa using h)
        · rw [Array.getD_eq_getD_getElem?, out i hiR] at h0
          rw [Array.getD_eq_getD_getElem?, h0] at h
          cases h
        · obtain ⟨j, hj, _⟩ := least_of T hne
          have h1 := reach_done hdc 12 i j hdep (List.all_eq_true.1 h j (hTR j hj))
          rw [inT j hj] at h1
          cases h1
        · obtain ⟨t', _, h⟩ := List.any_eq_true.1 h
          simp only [Bool.and_eq_true, beq_iff_eq, Bool.not_eq_true'] at h
          have h1 := hdep t' h.2
          rw [out t' (by simpa using h.1.1), h.1.2] at h1
          cases h1
    have some_ : Region.ready .any ops l ≠ [] := fun e => by
      obtain ⟨i, hi, hmin⟩ := least_of T hne
      have hio := (c2 i (hTR i hi)).1
      have : i ∈ Region.ready .any ops l := by
        rw [mem_ready]
        refine ⟨by rw [Array.getD_eq_getD_getElem?, inT i hi]; rfl, ops[i], Array.getElem?_eq_getElem hio, fun e he hbd => ?_⟩
        have h := List.all_eq_true.1 c6 i (hTR i hi)
        rw [Array.getElem?_eq_getElem hio] at h
        simp only [Option.map_some, Option.getD_some, Array.all_eq_true_iff_forall_mem, Bool.or_eq_true, Bool.and_eq_true, decide_eq_true_eq, Bool.not_eq_true'] at h
        rcases h e he with (h | h) | h
        · rw [hbd] at h; cases h
        · have hnR : e.on ∉ R := fun hR => by
            rw [Array.getD_eq_getD_getElem?, (c2 _ hR).2] at h
            cases h
          rw [Array.getD_eq_getD_getElem?, out _ hnR, ← Array.getD_eq_getD_getElem?]
          exact h
        · have hR : e.on ∈ R := by simpa using h.1
          have hnT : e.on ∉ T := fun hT' => by have := hmin _ hT'; omega
          rw [Array.getD_eq_getD_getElem?, inR _ hR hnT]
          rfl
      rw [e] at this
      cases this
    rw [show n + 1 + f0 = n + f0 + 1 by omega]
    refine ⟨fun e => absurd e some_, fun i hi => ?_⟩
    have hiT := rdy i hi
    have hiR := hTR i hiT
    obtain ⟨_, o, ho, hall⟩ := mem_ready.1 hi
    have dn : ∀ d, d ∈ D i → ∀ {z : Prop}, (d ∈ R → d ∉ T → z) → z := fun d hd z hz => by
      obtain ⟨hdR, hdd⟩ := c4 i hiR d hd
      obtain ⟨e, he, h1, rfl⟩ := dep_on ho hdd
      have h2 := hall e he h1
      refine hz hdR (fun hT' => ?_)
      rw [Array.getD_eq_getD_getElem?, inT _ hT'] at h2
      cases h2
    refine hstep i hiR b c (fun e => hp1 (e ▸ hiT)) (fun e => hq1 (e ▸ hiT)) (fun hd => dn p hd hp2) (fun hd => dn q hd hq2) x w (fun d hd => ?_) hI _ (fun v w' hv hSt hI' => ?_)
    · obtain ⟨hdR, hdd⟩ := c4 i hiR d hd
      obtain ⟨e, he, h1, rfl⟩ := dep_on ho hdd
      have h2 := hall e he h1
      refine hf _ hdR (fun hT' => ?_)
      rw [Array.getD_eq_getD_getElem?, inT _ hT'] at h2
      cases h2
    · rw [putsA_put R c1 c3 hiR]
      have hil : i < l.size := by
        rcases Nat.lt_or_ge i l.size with h | h
        · exact h
        · have := inT i hiT
          rw [Array.getElem?_eq_none h] at this
          cases this
      refine ih (T.erase i) (by rw [List.length_erase_of_mem hiT]; omega) (hTn.erase i) (fun j hj => hTR j (List.mem_of_mem_erase hj)) _ _ w' _ _ (by simp [hs]) (fun k => ?_) (fun j hj hjl d hd => ?_) (fun j hj hjT => ?_) (fun h => ?_) (fun h h2 => ?_) (fun h => ?_) (fun h h2 => ?_) hI'
      · rw [Array.getElem?_setIfInBounds]
        by_cases e : i = k
        · subst e
          rw [if_pos rfl, if_pos hil]
          unfold spec
          rw [if_neg (by simpa using fun h => (hTn.mem_erase_iff.1 h).1 rfl), if_pos (by simpa using hiR)]
        · rw [if_neg e, hl k]
          unfold spec
          have hh : (T.erase i).contains k = T.contains k := by
            rw [Bool.eq_iff_iff]
            simp only [List.contains_iff_mem]
            exact ⟨fun h => List.mem_of_mem_erase h, fun h => hTn.mem_erase_iff.2 ⟨fun e' => e e'.symm, h⟩⟩
          rw [hh]
      · have hup : ∀ k, l[k]? = some true → (l.setIfInBounds i true)[k]? = some true := fun k hk => by
          rw [Array.getElem?_setIfInBounds]
          by_cases e : i = k
          · rw [if_pos e, if_pos (by omega)]
          · rw [if_neg e]; exact hk
        by_cases e : j = i
        · subst e
          obtain ⟨e', he, h1, rfl⟩ := dep_on ho hd
          have h2 := hall e' he h1
          refine hup _ ?_
          cases h3 : l[e'.on]? with
          | none => simp [h3] at h2
          | some b => simp [h3] at h2; rw [h2]
        · rw [Array.getElem?_setIfInBounds_ne (fun e' => e e'.symm)] at hjl
          exact hup _ (hdc j hj hjl d hd)
      · by_cases e : j = i
        · subst e
          simp only [upd, if_true]
          exact hv
        · simp only [upd, if_neg e]
          exact hF j _ w w' (hf j hj (fun h => hjT (hTn.mem_erase_iff.2 ⟨e, h⟩))) hSt
      · have h3 := hTn.mem_erase_iff.1 h
        rw [if_neg (fun e => h3.1 e.symm)]
        exact hp1 h3.2
      · by_cases e : i = p
        · rw [if_pos e]
        · rw [if_neg e]
          exact hp2 h (fun h3 => h2 (hTn.mem_erase_iff.2 ⟨fun e2 => e e2.symm, h3⟩))
      · have h3 := hTn.mem_erase_iff.1 h
        rw [if_neg (fun e => h3.1 e.symm)]
        exact hq1 h3.2
      · by_cases e : i = q
        · rw [if_pos e]
        · rw [if_neg e]
          exact hq2 h (fun h3 => h2 (hTn.mem_erase_iff.2 ⟨fun e2 => e e2.symm, h3⟩))
/-- the beginning, with a state: p and q are the two operations that change it -/
theorem facts_sv {P : Program} {ops : Array Oper} {Q : Exit → Act → World → Prop} (R : List Nat) (D : Nat → List Nat) (p q : Nat) (F : Nat → Value → World → Prop) (St : World → World → Prop) (I : Bool → Bool → World → Prop) (a0 : Act) (w0 : World) (n f0 : Nat) (l0 l1 : Array Bool)
    (hF : ∀ i v w w', F i v w → St w w' → F i v w') (hck : rfCheck12 ops R D l0 l1 = true) (hn : n = R.length + f0) (h0 : I true true w0)
    (hstep : ∀ i ∈ R, ∀ b c, (i = p → b = true) → (i = q → c = true) → (p ∈ D i → b = false) → (q ∈ D i → c = false) → ∀ x w, (∀ d ∈ D i, F d (x d) w) → I b c w → ∀ K : Act → World → Prop, (∀ v w', F i v w' → St w w' → I (if i = p then false else b) (if i = q then false else c) w' → K ((putsA ops a0 x R).put (dstOf ops i) v) w') → wpOp P ops Q i K (putsA ops a0 x R) w)
    (hend : ∀ x w b c, (∀ i ∈ R, F i (x i) w) → (p ∈ R → b = false) → (q ∈ R → c = false) → I b c w → wpAny P .any ops Q f0 l1 (putsA ops a0 x R) w) :
    wpAny P .any ops Q n l0 a0 w0 := by
  have h := facts_gov R D p q F St I a0 f0 l0 l1 hF hck hstep hend R.length R rfl (by
    unfold rfCheck12 at hck
    simp only [Bool.and_eq_true] at hck
    exact of_decide_eq_true hck.1.1.1.1.1.1.1) (fun i h => h) l0 (fun i => ((dstOf ops i).bind (a0.tmps[·]?)).getD undef) w0 true true rfl (fun k => by
    unfold spec
    by_cases hk : k ∈ R
    · rw [if_pos (by simpa using hk)]
      unfold rfCheck12 at hck
      simp only [Bool.and_eq_true] at hck
      have h := List.all_eq_true.1 hck.1.1.1.1.1.1.2 k hk
      simp only [Bool.and_eq_true, beq_iff_eq] at h
      exact h.2
    · rw [if_neg (by simpa using hk), if_neg (by simpa using hk)]) (fun j hj hjl => by
      unfold rfCheck12 at hck
      simp only [Bool.and_eq_true] at hck
      have h := List.all_eq_true.1 hck.1.1.1.1.1.1.2 j hj
      simp only [Bool.and_eq_true, beq_iff_eq] at h
      rw [h.2] at hjl
      cases hjl) (fun i hi hn => absurd hi hn) (fun _ => rfl) (fun h h2 => absurd h h2) (fun _ => rfl) (fun h h2 => absurd h h2) h0
  rw [putsA_self] at h
  rw [hn]
  exact h
end Go.Proofs.Ythipaabjmlgjmaa
namespace Go.Proofs.Ythipaabjmlgjmaa
open Go.RowKit Go Go.Maps
set_option linter.unusedVariables false
set_option linter.unusedSimpArgs false
/-- the text behind so many pages, if each of them is told -/
def stA (d : Dk) (l : Lg) : Nat → Option ByteArray
  | 0 => some (bstr [l.P / 256 % 256, l.P % 256])
  | n + 1 => match stA d l n with | none => none | some s => if (pageD d l ((n : Int) + 1) l.fs.length).2 = 0 then some (s ++ (pageD d l ((n : Int) + 1) l.fs.length).1) else none
def stateD (d : Dk) (l : Lg) : ByteArray × Bool := match stA d l (min l.P 40) with | none => (⟨#[]⟩, false) | some s => (s, true)
theorem stA_none {d : Dk} {l : Lg} {n : Nat} (h : stA d l n = none) : ∀ k, stA d l (n + k) = none
  | 0 => h
  | k + 1 => by
    have ih := stA_none h k
    rw [← Nat.add_assoc, stA, ih]
theorem pageD_sz {S : Nat → Prop} {g q : Nat} {d : Dk} {N : Nat} {l : Lg} {w : World} (h : LgS w S g q d N l) (n mark : Int) : (pageD d l n mark).1.size ≤ 140737488351232 := by
  obtain ⟨Sd, A, c, hm⟩ := h
  unfold pageD
  split
  · show (0 : Nat) ≤ _; omega
  · cases hf : frL (l.fs.take mark.toNat) n with
    | some s =>
      obtain ⟨x, hx, _, rfl⟩ := frL_mem hf
      show x.dt.size ≤ _
      rw [(hm.fok x (List.mem_of_mem_take hx)).2.2.2]; omega
    | none =>
      simp only
      split
      · show (bstr _).size ≤ _
        rw [bstr_size, List.length_replicate]; omega
      · exact readD_sz hm.dk _ _ _
theorem stA_sz {S : Nat → Prop} {g q : Nat} {d : Dk} {N : Nat} {l : Lg} {w : World} (h : LgS w S g q d N l) : ∀ (n : Nat) (s : ByteArray), stA d l n = some s → s.size ≤ 2 + n * 140737488351232
  | 0, s, hs => by
    injection hs with hs
    subst hs
    rw [bstr_size]
    show 2 ≤ _
    omega
  | n + 1, s, hs => by
    rw [stA] at hs
    cases hc : stA d l n with
    | none => rw [hc] at hs; cases hs
    | some x =>
      rw [hc] at hs
      simp only at hs
      split at hs
      · injection hs with hs
        subst hs
        have h1 := stA_sz h n x hc
        have h2 := pageD_sz h ((n : Int) + 1) (l.fs.length : Nat)
        rw [ByteArray.size_append]
        omega
      · cases hs
set_option maxRecDepth 100000 in
set_option maxHeartbeats 16000000 in
theorem state_any {S : Nat → Prop} {g q : Nat} {d : Dk} {N : Nat} {l : Lg} {w : World} (h : LgS w S g q d N l) (hP : l.P ≤ 256) :
    Calls Try.prog 24 #[lp q] w fun e w' => e = .returned (.tuple #[.string (stateD d l).1, .bool (stateD d l).2]) ∧ Below w.heap.size w w' := by
  have HL := Lib.hid (fun W (hb : Below w.heap.size w W) => lgS_below h hb)
  obtain ⟨RR, hRR⟩ : ∃ RR, stateD d l = RR := ⟨_, rfl⟩
  rw [hRR]
  have HRR := Lib.hid hRR
  obtain ⟨PP, hPP⟩ : ∃ PP, PP = l.P := ⟨_, rfl⟩
  have HPP := Lib.hid hPP
  rw [← hPP] at hP
  clear h hRR hPP
  have hcv := fun (a b : Nat) => run_convert_bytes_arg (P := Try.prog) (w.alloc (.cells #[Value.int IntKind.u8 a, Value.int IntKind.u8 b] 5)) 43 5 Try.underlying43 Try.underlying5 w.heap.size 0 2 2 ([a, b].map Int.ofNat) rfl (fun i hi => by
    rw [World.cell?_alloc_mark]
    match i, hi with
    | 0, _ => rfl
    | 1, _ => rfl) 9 Try.underlying9
  have e1 : ((PP / 256 % 256 : Nat) : Int) = (PP : Int) / 256 % 256 := by omega
  have e2 : ((PP % 256 : Nat) : Int) = (PP : Int) % 256 := by omega
  have hcv2 := hcv (PP / 256 % 256) (PP % 256)
  rw [e1, e2, bstr_nums] at hcv2
  have hs0 : stA d l 0 = some (bstr [PP / 256 % 256, PP % 256]) := by rw [HPP.out]; rfl
  have HS0 := Lib.hid hs0
  generalize bstr [PP / 256 % 256, PP % 256] = X0 at *
  clear hcv e1 e2 hs0
  go_enter Try.func24, Try.ntmps24
  go_wp2_with fail
  refine (pages_any (HL.out _ (Below.refl _ _))).mono ?_
  rintro e w1 ⟨rfl, rfl⟩
  go_wp2_with fail
  refine (pages_any (HL.out _ (Below.refl _ _))).mono ?_
  rintro e w1 ⟨rfl, rfl⟩
  rw [← HPP.out]
  go_wp2_with fail
  clear hcv2
  have hb0 : Below w.heap.size w (w.alloc (.cells #[.int .u8 ((PP : Int) / 256 % 256), .int .u8 ((PP : Int) % 256)] 5)) := allocB
  have HB0 := Lib.hid hb0
  clear hb0
  generalize w.alloc (.cells #[.int .u8 ((PP : Int) / 256 % 256), .int .u8 ((PP : Int) % 256)] 5) = W0 at *
  go_loopw [4, 5, 6, 7] (fun s i a b W => Below w.heap.size w W ∧ ∃ (j : Nat) (x : ByteArray), j ≤ min PP 40 ∧ i = .int .i64 ((j : Int) + 1) ∧ s = .string x ∧ stA d l j = some x) (fun s i _ _ _ => (42 - intOf i).toNat)
  case atStart => exact ⟨HB0.out, 0, X0, by omega, rfl, rfl, HS0.out⟩
  case round =>
    obtain ⟨hb, j, x, hj, rfl, rfl, hst⟩ := hrel
    have HST := Lib.hid hst
    have HB := Lib.hid hb
    clear hst hb
    go_wp2_with fail
    refine (pages_any (HL.out _ HB.out)).mono ?_
    rintro e w1 ⟨rfl, rfl⟩
    rw [← HPP.out]
    by_cases hlt : j < min PP 40
    · have h1 : (j : Int) + 1 ≤ min (PP : Int) 40 := by omega
      have hstS : stA d l (j + 1) = if (pageD d l ((j : Int) + 1) l.fs.length).2 = 0 then some (x ++ (pageD d l ((j : Int) + 1) l.fs.length).1) else none := by rw [stA, HST.out]
      have HSS := Lib.hid hstS
      have HPG := Lib.hid (page_any (HL.out _ HB.out) ((j : Int) + 1) (l.fs.length : Nat))
      clear hstS
      have hz1 := stA_sz (HL.out _ HB.out) j x HST.out
      have hz2 := pageD_sz (HL.out _ HB.out) ((j : Int) + 1) (l.fs.length : Nat)
      generalize pageD d l ((j : Int) + 1) (l.fs.length : Nat) = PG at *
      obtain ⟨ps, pe⟩ := PG
      simp only at hz2
      have hz3 : x.size + ps.size ≤ 9223372036854775807 := by omega
      have HZ3 := Lib.hid hz3
      clear hz1 hz2 hz3
      go_wp2_with fail
      refine (mark_any (HL.out _ HB.out)).mono ?_
      rintro e w1 ⟨rfl, rfl⟩
      go_wp2_with fail
      refine (HPG.out).mono ?_
      rintro e w1 ⟨rfl, hb1⟩
      have HB1 := Lib.hid (bj HB.out hb1)
      clear hb1 HPG HB
      by_cases he : pe = 0
      · subst he
        have hs1 : stA d l (j + 1) = some (x ++ ps) := by rw [HSS.out]; rfl
        have HS1 := Lib.hid hs1
        have hz4 := HZ3.out
        clear hs1 HSS
        go_wp2_with fail
        go_roundw
        case rel => exact ⟨HB1.out, j + 1, x ++ ps, by omega, by first | rfl | (congr 1; omega), by first | rfl | simp, HS1.out⟩
        case measure => first | (simp [intOf]; done) | (simp [intOf]; omega)
      · have hs1 : stA d l (min PP 40) = none := by
          have h2 : stA d l (j + 1) = none := by rw [HSS.out]; exact if_neg he
          have h3 := stA_none h2 (min PP 40 - (j + 1))
          rwa [show j + 1 + (min PP 40 - (j + 1)) = min PP 40 by omega] at h3
        have hR : RR = (⟨#[]⟩, false) := by
          rw [← HRR.out]
          unfold stateD
          rw [← HPP.out, hs1]
        have HR := Lib.hid hR
        have hpb : (pe == 0) = false := by simp [he]
        clear hs1 hR HSS
        go_wp2_with fail
        go_ret2
        exact ⟨by rw [HR.out]; rfl, HB1.out⟩
    · have h1 : ¬ ((j : Int) + 1 ≤ min (PP : Int) 40) := by omega
      have hR : RR = (x, true) := by
        rw [← HRR.out]
        unfold stateD
        rw [← HPP.out, show min PP 40 = j by omega, HST.out]
      have HR := Lib.hid hR
      clear hR
      go_wp2_with fail
      go_ret2
      exact ⟨by rw [HR.out]; rfl, HB.out⟩
end Go.Proofs.Ythipaabjmlgjmaa
namespace Go.Proofs.Ythipaabjmlgjmaa
open Go.RowKit Go Go.Maps
set_option linter.unusedVariables false
set_option linter.unusedSimpArgs false
/-- a page that gets bytes of one byte -/
structure Pu where
  pg : Int
  x : Nat
  sh : Int
def PuAt (W : World) (A : Option Addr) (l : List Pu) : Prop :=
  l = [] ∨ ∃ b o, A = some ⟨b, o, none⟩ ∧ b < W.heap.size ∧ ∀ (j : Nat) y, l[j]? = some y → W.cell? ⟨b, o + j * 3, none⟩ = some (.int .i64 y.pg) ∧ W.cell? ⟨b, o + j * 3 + 1, none⟩ = some (.int .u8 y.x) ∧ W.cell? ⟨b, o + j * 3 + 2, none⟩ = some (.int .i64 y.sh)
theorem puAt_below {W W' : World} {A : Option Addr} {l : List Pu} (h : PuAt W A l) (hb : Below W.heap.size W W') : PuAt W' A l := by
  rcases h with h | ⟨b, o, hA, hl, hc⟩
  · exact .inl h
  · refine .inr ⟨b, o, hA, Nat.lt_of_lt_of_le hl hb.size, fun j x hx => ?_⟩
    obtain ⟨h1, h2, h3⟩ := hc j x hx
    exact ⟨(hb.cell hl).trans h1, (hb.cell hl).trans h2, (hb.cell hl).trans h3⟩
def imOf (p : Pu) : Im := ⟨p.pg, (pagS p.x).extract 0 (512 - min (max p.sh 0) 512).toNat⟩
def imL (x : Im) : List Value := [.int .i64 x.pg, .string x.dt]
def imsV (l : List Im) : List Value := l.flatMap imL
theorem imsV_app (a : List Im) (x : Im) : imsV (a ++ [x]) = imsV a ++ [.int .i64 x.pg, .string x.dt] := by
  unfold imsV
  rw [List.flatMap_append]
  rfl
theorem im_info : (Try.prog.info? 36).map (fun i => (i.zero, i.size, i.bytes)) = some (some (.agg #[.int .i64 0, .string ByteArray.empty]), 2, 24) := by kernel_rfl
set_option maxRecDepth 100000 in
set_option maxHeartbeats 16000000 in
theorem images_any {w : World} (v0 v1 v2 v3 v5 v6 v7 : Value) (A : Option Addr) (n c : Nat) (l : List Pu) (hO : PuAt w A l) (hn : n = l.length) (hsm : n ≤ 1024) (hx : ∀ p ∈ l, p.x < 256) :
    Calls Try.prog 21 #[.agg #[v0, v1, v2, v3, .slice A n c, v5, v6, v7]] w fun e w' => ∃ A' c', e = .returned (.slice A' n c') ∧ w'.ownsRow w.heap.size 36 2 (.slice A' n c') n (imsV (l.map imOf)) ∧ Below w.heap.size w w' := by
  have HO := Lib.hid hO
  have HN := Lib.hid hn
  have HX := Lib.hid hx
  have hnI : (n : Int) ≤ 1024 := by omega
  clear hO hn hx
  go_enter Try.func21, Try.ntmps21
  have hb0 : Below w.heap.size w (w.alloc (.cells #[v0, v1, v2, v3, .slice A n c, v5, v6, v7] 50)) := allocB
  have hk0 := Blk.new w 50 #[v0, v1, v2, v3, .slice A n c, v5, v6, v7]
  have HB0 := Lib.hid hb0
  have HK0 := Lib.hid hk0
  clear hb0 hk0
  go_wp2_with fail
  generalize w.alloc (.cells #[v0, v1, v2, v3, .slice A n c, v5, v6, v7] 50) = W0 at *
  go_loopw [3, 10] (fun t i W => ∃ (j : Nat) (A1 : Option Addr) (c1 : Nat), j ≤ n ∧ i = .int .i64 j ∧ t = .slice A1 j c1 ∧ Below w.heap.size w W ∧ W.ownsRow w.heap.size 36 2 (.slice A1 j c1) j (imsV ((l.take j).map imOf))) (fun _ i _ => n - (intOf i).toNat)
  case atStart => exact ⟨0, none, 0, Nat.zero_le _, rfl, rfl, HB0.out, World.ownsRow_nil _ _ _ _⟩
  case round =>
    clear HB0 HK0
    obtain ⟨j, A1, c1, hj, rfl, rfl, hb, hrow⟩ := hrel
    have HB := Lib.hid hb
    have HROW := Lib.hid hrow
    clear hb hrow
    by_cases hjn : j < n
    rotate_left
    · obtain rfl : j = n := by omega
      go_wp2_with fail
      go_ret
      have ht : l.take j = l := List.take_of_length_le (by rw [HN.out]; exact Nat.le_refl _)
      exact ⟨A1, c1, rfl, by rw [← ht]; exact HROW.out, HB.out⟩
    · have hjI : (j : Int) < n := by omega
      have hlt : j < l.length := by have := HN.out; omega
      obtain ⟨y, hy⟩ : ∃ y, l[j]? = some y := ⟨_, List.getElem?_eq_getElem hlt⟩
      have hyx : y.x < 256 := HX.out _ (List.mem_of_getElem? hy)
      obtain ⟨b, o, rfl, i0, i1, i2⟩ : ∃ b o, A = some ⟨b, o, none⟩ ∧ wr.cell? ⟨b, o + j * 3, none⟩ = some (.int .i64 y.pg) ∧ wr.cell? ⟨b, o + j * 3 + 1, none⟩ = some (.int .u8 y.x) ∧ wr.cell? ⟨b, o + j * 3 + 2, none⟩ = some (.int .i64 y.sh) := by
        rcases puAt_below HO.out HB.out with h | ⟨b, o, hA, _, hc⟩
        · rw [h] at hy; simp at hy
        · exact ⟨b, o, hA, hc j y hy⟩
      have HTK := Lib.hid (show (l.take (j + 1)).map imOf = (l.take j).map imOf ++ [imOf y] from by rw [List.take_add_one, hy]; simp)
      clear hy hlt
      have HPG := Lib.hid (fun W => page_lg y.x W hyx)
      obtain ⟨yp, yx, ys⟩ := y
      simp only at i0 i1 i2 HPG
      go_wp2_with fail
      refine (HPG.out _).mono ?_
      rintro e w1 ⟨rfl, hb1⟩
      have HY := Lib.hid (blk_step (Blk.new wr 95 #[.int .i64 yp, .int .u8 yx, .int .i64 ys]) hb1)
      have HROW1 := Lib.hid (own_lies HROW.out (bj allocB hb1))
      have HB1 := Lib.hid (bj HB.out (bj allocB hb1))
      obtain ⟨D, hD⟩ : ∃ D, D = (pagS yx).extract 0 (512 - min (max ys 0) 512).toNat := ⟨_, rfl⟩
      have hIO : imOf ⟨yp, yx, ys⟩ = ⟨yp, D⟩ := by rw [hD]; rfl
      rw [hIO] at HTK
      have HPS := Lib.hid (pagS_size yx)
      have HD := Lib.hid hD
      clear hD hIO hb1 i0 i1 i2 HROW HB HX HPG
      go_upto_region 6 with fail
      generalize wr.heap.size = m at *
      generalize pagS yx = PS at *
      refine wp_region_noPanic ?_
      refine wp_region_any (by kernel_rfl) ?_
      refine facts_sv [0, 1, 2, 3, 4, 5, 6, 7, 8, 9, 10, 11, 12, 13, 14, 15] (fun i => match i with | 2 => [1] | 5 => [4] | 7 => [6] | 8 => [7] | 10 => [9] | 11 => [8, 10] | 12 => [5, 11] | 13 => [3, 12] | 14 => [2, 13] | 15 => [14] | _ => []) 99 99 (fun i_ v W => match i_ with | 0 => v = .slice A1 j c1 | 1 => v = .pointer (some ⟨m, 0, none⟩) | 2 => v = .int .i64 yp | 3 => v = .string PS | 4 => v = .string PS | 5 => v = .int .i64 512 | 6 => v = .pointer (some ⟨m, 2, none⟩) | 7 => v = .int .i64 ys | 8 => v = .int .i64 (max ys 0) | 9 => v = .string PS | 10 => v = .int .i64 512 | 11 => v = .int .i64 (min (max ys 0) 512) | 12 => v = .int .i64 (512 - min (max ys 0) 512) | 13 => v = .string D | 14 => v = .agg #[.int .i64 yp, .string D] | 15 => ∃ k, v = .slice (some ⟨k, 0, none⟩) 1 1 ∧ Blk W k 36 #[.int .i64 yp, .string D] | _ => True) (fun W W' => Below W.heap.size W W') (fun _ _ W => Below w1.drew.heap.size w1.drew W) _ _ _ 2 _ #[true, true, true, true, true, true, true, true, true, true, true, true, true, true, true, true, false, false] (fun i_ v W W' h hs => match i_, h with | 0, h => h | 1, h => h | 2, h => h | 3, h => h | 4, h => h | 5, h => h | 6, h => h | 7, h => h | 8, h => h | 9, h => h | 10, h => h | 11, h => h | 12, h => h | 13, h => h | 14, h => h | 15, ⟨k, h1, h3⟩ => ⟨k, h1, blk_step h3 hs⟩ | 16, h => h | 17, h => h | _ + 18, h => h) (by kernel_rfl) (by rfl) (Below.refl _ _) ?hstep ?hend
      case hstep =>
        intro i_ hi_ b_ c_ hbp hcq hbd hcd x W hd hI K hK
        simp only [List.mem_cons, List.not_mem_nil, or_false] at hi_
        rcases hi_ with rfl | rfl | rfl | rfl | rfl | rfl | rfl | rfl | rfl | rfl | rfl | rfl | rfl | rfl | rfl | rfl
        · generalize hA : putsA _ _ x [0, 1, 2, 3, 4, 5, 6, 7, 8, 9, 10, 11, 12, 13, 14, 15] = A_ at *
          have e3 : A_.tmps[3]? = some (.slice A1 j c1) := by rw [← hA]; exact putsA_at 3 _ (by decide +kernel)
          clear hA hd
          refine wpOp_step rfl (fun K' hK' => ?_)
          go_simp
          exact hK' _ _ (hK _ _ rfl (Below.refl _ _) hI)
        · generalize hA : putsA _ _ x [0, 1, 2, 3, 4, 5, 6, 7, 8, 9, 10, 11, 12, 13, 14, 15] = A_ at *
          have e5 : A_.tmps[5]? = some (.pointer (some ⟨m, 0, none⟩)) := by rw [← hA]; exact putsA_at 5 _ (by decide +kernel)
          clear hA hd
          refine wpOp_step rfl (fun K' hK' => ?_)
          go_simp
          exact hK' _ _ (hK _ _ rfl (Below.refl _ _) hI)
        · generalize hA : putsA _ _ x [0, 1, 2, 3, 4, 5, 6, 7, 8, 9, 10, 11, 12, 13, 14, 15] = A_ at *
          have e18 : A_.tmps[18]? = some (x 1) := by rw [← hA]; exact putsA_in (i := 1) 18 (by rfl) (by show (18 : Nat) < 36; decide) _ (by decide +kernel) (by decide)
          have f1 : x 1 = .pointer (some ⟨m, 0, none⟩) := hd 1 (by decide)
          rw [f1] at e18
          clear hA hd
          obtain ⟨z0, z1, z2⟩ := trip_at (blk_step HY.out (undrew hI))
          refine wpOp_step rfl (fun K' hK' => ?_)
          go_simp
          exact hK' _ _ (hK _ _ rfl (Below.refl _ _) hI)
        · generalize hA : putsA _ _ x [0, 1, 2, 3, 4, 5, 6, 7, 8, 9, 10, 11, 12, 13, 14, 15] = A_ at *
          have e6 : A_.tmps[6]? = some (.string PS) := by rw [← hA]; exact putsA_at 6 _ (by decide +kernel)
          clear hA hd
          refine wpOp_step rfl (fun K' hK' => ?_)
          go_simp
          exact hK' _ _ (hK _ _ rfl (Below.refl _ _) hI)
        · generalize hA : putsA _ _ x [0, 1, 2, 3, 4, 5, 6, 7, 8, 9, 10, 11, 12, 13, 14, 15] = A_ at *
          have e6 : A_.tmps[6]? = some (.string PS) := by rw [← hA]; exact putsA_at 6 _ (by decide +kernel)
          clear hA hd
          refine wpOp_step rfl (fun K' hK' => ?_)
          go_simp
          exact hK' _ _ (hK _ _ rfl (Below.refl _ _) hI)
        · generalize hA : putsA _ _ x [0, 1, 2, 3, 4, 5, 6, 7, 8, 9, 10, 11, 12, 13, 14, 15] = A_ at *
          have e21 : A_.tmps[21]? = some (x 4) := by rw [← hA]; exact putsA_in (i := 4) 21 (by rfl) (by show (21 : Nat) < 36; decide) _ (by decide +kernel) (by decide)
          have f4 : x 4 = .string PS := hd 4 (by decide)
          rw [f4] at e21
          clear hA hd
          have z0 := HPS.out
          refine wpOp_step rfl (fun K' hK' => ?_)
          go_simp
          exact hK' _ _ (hK _ _ rfl (Below.refl _ _) hI)
        · generalize hA : putsA _ _ x [0, 1, 2, 3, 4, 5, 6, 7, 8, 9, 10, 11, 12, 13, 14, 15] = A_ at *
          have e5 : A_.tmps[5]? = some (.pointer (some ⟨m, 0, none⟩)) := by rw [← hA]; exact putsA_at 5 _ (by decide +kernel)
          clear hA hd
          refine wpOp_step rfl (fun K' hK' => ?_)
          go_simp
          exact hK' _ _ (hK _ _ rfl (Below.refl _ _) hI)
        · generalize hA : putsA _ _ x [0, 1, 2, 3, 4, 5, 6, 7, 8, 9, 10, 11, 12, 13, 14, 15] = A_ at *
          have e23 : A_.tmps[23]? = some (x 6) := by rw [← hA]; exact putsA_in (i := 6) 23 (by rfl) (by show (23 : Nat) < 36; decide) _ (by decide +kernel) (by decide)
          have f6 : x 6 = .pointer (some ⟨m, 2, none⟩) := hd 6 (by decide)
          rw [f6] at e23
          clear hA hd
          obtain ⟨z0, z1, z2⟩ := trip_at (blk_step HY.out (undrew hI))
          refine wpOp_step rfl (fun K' hK' => ?_)
          go_simp
          exact hK' _ _ (hK _ _ rfl (Below.refl _ _) hI)
        · generalize hA : putsA _ _ x [0, 1, 2, 3, 4, 5, 6, 7, 8, 9, 10, 11, 12, 13, 14, 15] = A_ at *
          have e24 : A_.tmps[24]? = some (x 7) := by rw [← hA]; exact putsA_in (i := 7) 24 (by rfl) (by show (24 : Nat) < 36; decide) _ (by decide +kernel) (by decide)
          have f7 : x 7 = .int .i64 ys := hd 7 (by decide)
          rw [f7] at e24
          clear hA hd
          refine wpOp_step rfl (fun K' hK' => ?_)
          go_simp
          exact hK' _ _ (hK _ _ rfl (Below.refl _ _) hI)
        · generalize hA : putsA _ _ x [0, 1, 2, 3, 4, 5, 6, 7, 8, 9, 10, 11, 12, 13, 14, 15] = A_ at *
          have e6 : A_.tmps[6]? = some (.string PS) := by rw [← hA]; exact putsA_at 6 _ (by decide +kernel)
          clear hA hd
          refine wpOp_step rfl (fun K' hK' => ?_)
          go_simp
          exact hK' _ _ (hK _ _ rfl (Below.refl _ _) hI)
        · generalize hA : putsA _ _ x [0, 1, 2, 3, 4, 5, 6, 7, 8, 9, 10, 11, 12, 13, 14, 15] = A_ at *
          have e26 : A_.tmps[26]? = some (x 9) := by rw [← hA]; exact putsA_in (i := 9) 26 (by rfl) (by show (26 : Nat) < 36; decide) _ (by decide +kernel) (by decide)
          have f9 : x 9 = .string PS := hd 9 (by decide)
          rw [f9] at e26
          clear hA hd
          have z0 := HPS.out
          refine wpOp_step rfl (fun K' hK' => ?_)
          go_simp
          exact hK' _ _ (hK _ _ rfl (Below.refl _ _) hI)
        · generalize hA : putsA _ _ x [0, 1, 2, 3, 4, 5, 6, 7, 8, 9, 10, 11, 12, 13, 14, 15] = A_ at *
          have e25 : A_.tmps[25]? = some (x 8) := by rw [← hA]; exact putsA_in (i := 8) 25 (by rfl) (by show (25 : Nat) < 36; decide) _ (by decide +kernel) (by decide)
          have f8 : x 8 = .int .i64 (max ys 0) := hd 8 (by decide)
          rw [f8] at e25
          have e27 : A_.tmps[27]? = some (x 10) := by rw [← hA]; exact putsA_in (i := 10) 27 (by rfl) (by show (27 : Nat) < 36; decide) _ (by decide +kernel) (by decide)
          have f10 : x 10 = .int .i64 512 := hd 10 (by decide)
          rw [f10] at e27
          clear hA hd
          refine wpOp_step rfl (fun K' hK' => ?_)
          go_simp
          exact hK' _ _ (hK _ _ rfl (Below.refl _ _) hI)
        · generalize hA : putsA _ _ x [0, 1, 2, 3, 4, 5, 6, 7, 8, 9, 10, 11, 12, 13, 14, 15] = A_ at *
          have e22 : A_.tmps[22]? = some (x 5) := by rw [← hA]; exact putsA_in (i := 5) 22 (by rfl) (by show (22 : Nat) < 36; decide) _ (by decide +kernel) (by decide)
          have f5 : x 5 = .int .i64 512 := hd 5 (by decide)
          rw [f5] at e22
          have e28 : A_.tmps[28]? = some (x 11) := by rw [← hA]; exact putsA_in (i := 11) 28 (by rfl) (by show (28 : Nat) < 36; decide) _ (by decide +kernel) (by decide)
          have f11 : x 11 = .int .i64 (min (max ys 0) 512) := hd 11 (by decide)
          rw [f11] at e28
          clear hA hd
          have z0 : IntKind.i64.wrap (512 - min (max ys 0) 512) = 512 - min (max ys 0) 512 := by rw [IntKind.wrap_i64] <;> omega
          refine wpOp_step rfl (fun K' hK' => ?_)
          go_simp
          exact hK' _ _ (hK _ _ rfl (Below.refl _ _) hI)
        · generalize hA : putsA _ _ x [0, 1, 2, 3, 4, 5, 6, 7, 8, 9, 10, 11, 12, 13, 14, 15] = A_ at *
          have e20 : A_.tmps[20]? = some (x 3) := by rw [← hA]; exact putsA_in (i := 3) 20 (by rfl) (by show (20 : Nat) < 36; decide) _ (by decide +kernel) (by decide)
          have f3 : x 3 = .string PS := hd 3 (by decide)
          rw [f3] at e20
          have e29 : A_.tmps[29]? = some (x 12) := by rw [← hA]; exact putsA_in (i := 12) 29 (by rfl) (by show (29 : Nat) < 36; decide) _ (by decide +kernel) (by decide)
          have f12 : x 12 = .int .i64 (512 - min (max ys 0) 512) := hd 12 (by decide)
          rw [f12] at e29
          clear hA hd
          have z0 := HPS.out
          have z1 : 0 ≤ 512 - min (max ys 0) 512 := by omega
          refine wpOp_step rfl (fun K' hK' => ?_)
          go_simp
          rw [if_pos (by omega)]
          refine hK' _ _ (hK _ _ ?_ (Below.refl _ _) hI)
          exact congrArg Value.string HD.out.symm
        · generalize hA : putsA _ _ x [0, 1, 2, 3, 4, 5, 6, 7, 8, 9, 10, 11, 12, 13, 14, 15] = A_ at *
          have e19 : A_.tmps[19]? = some (x 2) := by rw [← hA]; exact putsA_in (i := 2) 19 (by rfl) (by show (19 : Nat) < 36; decide) _ (by decide +kernel) (by decide)
          have f2 : x 2 = .int .i64 yp := hd 2 (by decide)
          rw [f2] at e19
          have e30 : A_.tmps[30]? = some (x 13) := by rw [← hA]; exact putsA_in (i := 13) 30 (by rfl) (by show (30 : Nat) < 36; decide) _ (by decide +kernel) (by decide)
          have f13 : x 13 = .string D := hd 13 (by decide)
          rw [f13] at e30
          clear hA hd
          refine wpOp_step rfl (fun K' hK' => ?_)
          go_simp
          exact hK' _ _ (hK _ _ rfl (Below.refl _ _) hI)
        · generalize hA : putsA _ _ x [0, 1, 2, 3, 4, 5, 6, 7, 8, 9, 10, 11, 12, 13, 14, 15] = A_ at *
          have e31 : A_.tmps[31]? = some (x 14) := by rw [← hA]; exact putsA_in (i := 14) 31 (by rfl) (by show (31 : Nat) < 36; decide) _ (by decide +kernel) (by decide)
          have f14 : x 14 = .agg #[.int .i64 yp, .string D] := hd 14 (by decide)
          rw [f14] at e31
          clear hA hd
          refine wpOp_step rfl (fun K' hK' => ?_)
          go_simp
          exact hK' _ _ (hK _ _ ⟨W.heap.size, rfl, Blk.new _ _ _⟩ allocB (bj hI allocB))
      case hend =>
        intro x W b_ c_ hf hpf hqf hI
        have f0 : x 0 = .slice A1 j c1 := hf 0 (by decide)
        have f1 : x 1 = .pointer (some ⟨m, 0, none⟩) := hf 1 (by decide)
        have f2 : x 2 = .int .i64 yp := hf 2 (by decide)
        have f3 : x 3 = .string PS := hf 3 (by decide)
        have f4 : x 4 = .string PS := hf 4 (by decide)
        have f5 : x 5 = .int .i64 512 := hf 5 (by decide)
        have f6 : x 6 = .pointer (some ⟨m, 2, none⟩) := hf 6 (by decide)
        have f7 : x 7 = .int .i64 ys := hf 7 (by decide)
        have f8 : x 8 = .int .i64 (max ys 0) := hf 8 (by decide)
        have f9 : x 9 = .string PS := hf 9 (by decide)
        have f10 : x 10 = .int .i64 512 := hf 10 (by decide)
        have f11 : x 11 = .int .i64 (min (max ys 0) 512) := hf 11 (by decide)
        have f12 : x 12 = .int .i64 (512 - min (max ys 0) 512) := hf 12 (by decide)
        have f13 : x 13 = .string D := hf 13 (by decide)
        have f14 : x 14 = .agg #[.int .i64 yp, .string D] := hf 14 (by decide)
        obtain ⟨k15, f15, hb15⟩ := hf 15 (by decide)
        replace f15 : x 15 = .slice (some ⟨k15, 0, none⟩) 1 1 := f15
        rw [putsA_lit _ _ [0, 1, 2, 3, 4, 5, 6, 7, 8, 9, 10, 11, 12, 13, 14, 15] ((17, 0) :: (18, 1) :: (19, 2) :: (20, 3) :: (21, 4) :: (22, 5) :: (23, 6) :: (24, 7) :: (25, 8) :: (26, 9) :: (27, 10) :: (28, 11) :: (29, 12) :: (30, 13) :: (31, 14) :: (32, 15) :: []) (by kernel_rfl)]
        simp only [setAll, ↓reduceIte, Nat.reduceAdd, Nat.reduceEqDiff]
        rw [f0, f1, f2, f3, f4, f5, f6, f7, f8, f9, f10, f11, f12, f13, f14, f15]
        clear hf hpf hqf f0 f1 f2 f3 f4 f5 f6 f7 f8 f9 f10 f11 f12 f13 f14 f15
        have HROW2 := Lib.hid (own_lies HROW1.out (undrew hI))
        have HB2 := Lib.hid (bj HB1.out (undrew hI))
        have HK15 := Lib.hid hb15
        clear hI hb15 HROW1 HB1 HY
        obtain ⟨i0_, hi_, hz0, hz1, hz2⟩ := info_parts im_info
        refine wpAny_ready (rs := [16]) (by kernel_rfl) (by simp) ?_
        refine AllReady.cons rfl (fun K hK => ?_) AllReady.nil
        refine step_append_lies _ (by rfl) (.tmp 17) (.tmp 32) 47 (by rfl) w.heap.size 36 i0_ _ 2 24 Try.underlying47 hi_ hz0 hz1 hz2 rfl (by omega) _ j _ rfl HROW2.out ⟨k15, 0, none⟩ 1 1 [.int .i64 yp, .string D] rfl rfl (World.news_of_block (cs := #[.int .i64 yp, .string D]) (t := 36) (fr := (0, 0)) HK15.out) (by simp [Value.oneCell']) (by omega) (by simp only [maxLen]; omega) (by omega) HB2.out.size _ rfl ?_
        intro gA capA w6 hownA hgA _ hltA
        refine hK _ _ ?_
        clear hK K
        have HR3 := Lib.hid (show w6.ownsRow w.heap.size 36 2 (.slice (some ⟨gA, 0, none⟩) (j + 1) capA) (j + 1) (imsV ((l.take (j + 1)).map imOf)) from by
          rw [HTK.out, imsV_app]
          exact hownA)
        have HB3 := Lib.hid (HB2.out.grown hgA HB2.out.size (fun k hk => (HROW2.out.lt k hk).1))
        clear hownA hgA HROW2 HB2 HK15
        refine wpAny_ready (rs := [17]) (by kernel_rfl) (by simp) ?_
        refine AllReady.cons rfl (fun K hK => ?_) AllReady.nil
        go_simp
        refine hK _ _ ?_
        clear hK K
        refine wpAny_done (by kernel_rfl) ?_ _
        refine NoPanic.normal ?_
        clear x
        go_wp2_with fail
        go_roundw
        case rel => exact ⟨j + 1, _, _, by omega, by first | rfl | simp, rfl, HB3.out, HR3.out⟩
        case measure => first | (simp [intOf]; done) | (simp [intOf]; omega)
end Go.Proofs.Ythipaabjmlgjmaa
namespace Go.Proofs.Ythipaabjmlgjmaa
open Go.RowKit Go Go.Maps
set_option linter.unusedVariables false
set_option linter.unusedSimpArgs false
/-- what happens to a database -/
structure Wop where
  kd : Int
  pgs : Int
  n : Int
  fi : Int
  iA : Option Addr
  ic : Nat
  ims : List Pu
  sp : Bool
  kA : Option Addr
  kc : Nat
  ks : List Bool
  s : ByteArray
abbrev wopC (x : Wop) : Array Value := #[.int .i64 x.kd, .int .i64 x.pgs, .int .i64 x.n, .int .i64 x.fi, .slice x.iA x.ims.length x.ic, .bool x.sp, .slice x.kA x.ks.length x.kc, .string x.s]
def FitW (x : Wop) : Prop := x.ims.length ≤ maxLen ∧ x.ks.length ≤ maxLen ∧ (∀ p ∈ x.ims, p.x < 256)
/-- pages below a block's number -/
def PuB (w : World) (B : Nat) (A : Option Addr) (l : List Pu) : Prop := l = [] ∨ ∃ b o, A = some ⟨b, o, none⟩ ∧ b < B ∧ ∀ (j : Nat) y, l[j]? = some y → w.cell? ⟨b, o + j * 3, none⟩ = some (.int .i64 y.pg) ∧ w.cell? ⟨b, o + j * 3 + 1, none⟩ = some (.int .u8 y.x) ∧ w.cell? ⟨b, o + j * 3 + 2, none⟩ = some (.int .i64 y.sh)
theorem puB_below {w W : World} {B : Nat} {A : Option Addr} {l : List Pu} (h : PuB w B A l) (hb : Below B w W) : PuB W B A l := by
  rcases h with h | ⟨b, o, hA, hlt, hc⟩
  · exact .inl h
  · exact .inr ⟨b, o, hA, hlt, fun j v hv => ⟨(hb.cell (p := ⟨b, o + j * 3, none⟩) hlt).trans (hc j v hv).1, (hb.cell (p := ⟨b, o + j * 3 + 1, none⟩) hlt).trans (hc j v hv).2.1, (hb.cell (p := ⟨b, o + j * 3 + 2, none⟩) hlt).trans (hc j v hv).2.2⟩⟩
theorem puB_at {W : World} {B : Nat} {A : Option Addr} {l : List Pu} (h : PuB W B A l) (hB : B ≤ W.heap.size) : PuAt W A l := by
  rcases h with h | ⟨b, o, hA, hlt, hc⟩
  · exact .inl h
  · exact .inr ⟨b, o, hA, by omega, hc⟩
/-- an operation's cells -/
structure WopAt (w : World) (b o : Nat) (x : Wop) : Prop where
  c0 : w.cell? ⟨b, o, none⟩ = some (.int .i64 x.kd)
  c1 : w.cell? ⟨b, o + 1, none⟩ = some (.int .i64 x.pgs)
  c2 : w.cell? ⟨b, o + 2, none⟩ = some (.int .i64 x.n)
  c3 : w.cell? ⟨b, o + 3, none⟩ = some (.int .i64 x.fi)
  c4 : w.cell? ⟨b, o + 4, none⟩ = some (.slice x.iA x.ims.length x.ic)
  c5 : w.cell? ⟨b, o + 5, none⟩ = some (.bool x.sp)
  c6 : w.cell? ⟨b, o + 6, none⟩ = some (.slice x.kA x.ks.length x.kc)
  c7 : w.cell? ⟨b, o + 7, none⟩ = some (.string x.s)
theorem wopAt_below {w W : World} {b o B : Nat} {x : Wop} (h : WopAt w b o x) (hb : Below B w W) (hlt : b < B) : WopAt W b o x :=
  ⟨(hb.cell (p := ⟨b, o, none⟩) hlt).trans h.c0, (hb.cell (p := ⟨b, o + 1, none⟩) hlt).trans h.c1, (hb.cell (p := ⟨b, o + 2, none⟩) hlt).trans h.c2, (hb.cell (p := ⟨b, o + 3, none⟩) hlt).trans h.c3, (hb.cell (p := ⟨b, o + 4, none⟩) hlt).trans h.c4, (hb.cell (p := ⟨b, o + 5, none⟩) hlt).trans h.c5, (hb.cell (p := ⟨b, o + 6, none⟩) hlt).trans h.c6, (hb.cell (p := ⟨b, o + 7, none⟩) hlt).trans h.c7⟩
/-- a script -/
def Wops (w : World) (B : Nat) (A : Option Addr) (l : List Wop) : Prop :=
  l = [] ∨ ∃ b o, A = some ⟨b, o, none⟩ ∧ b < B ∧ ∀ (j : Nat) x, l[j]? = some x → WopAt w b (o + j * 8) x ∧ PuB w B x.iA x.ims ∧ KsAt w B x.kA x.ks
theorem wops_below {w W : World} {B : Nat} {A : Option Addr} {l : List Wop} (h : Wops w B A l) (hb : Below B w W) : Wops W B A l := by
  rcases h with h | ⟨b, o, hA, hlt, hc⟩
  · exact .inl h
  · exact .inr ⟨b, o, hA, hlt, fun j x hx => ⟨wopAt_below (hc j x hx).1 hb hlt, puB_below (hc j x hx).2.1 hb, ks_below (hc j x hx).2.2 hb⟩⟩
theorem wops_get {w : World} {B : Nat} {A : Option Addr} {l : List Wop} (h : Wops w B A l) (hl : l ≠ []) : ∃ b o, A = some ⟨b, o, none⟩ ∧ b < B ∧ ∀ W, Below B w W → ∀ (j : Nat) x, l[j]? = some x → WopAt W b (o + j * 8) x ∧ PuB W B x.iA x.ims ∧ KsAt W B x.kA x.ks := by
  rcases h with h | ⟨b, o, hA, hlt, hc⟩
  · exact absurd h hl
  · exact ⟨b, o, hA, hlt, fun W hb j x hx => ⟨wopAt_below (hc j x hx).1 hb hlt, puB_below (hc j x hx).2.1 hb, ks_below (hc j x hx).2.2 hb⟩⟩
/-- what wide answers -/
def WdP (l : List Wop) (e : Ending) : Prop := ∃ r, e = .returned (.bool r) ∧ (r = false → ∀ x ∈ l, x.kd ≠ 6 ∧ x.pgs ≤ 40)
theorem wide_snoc {l : List Wop} {j : Nat} (hj : j < l.length) (h : ∀ x ∈ l.take j, x.kd ≠ 6 ∧ x.pgs ≤ 40) (hx : l[j].kd ≠ 6 ∧ l[j].pgs ≤ 40) : ∀ x ∈ l.take (j + 1), x.kd ≠ 6 ∧ x.pgs ≤ 40 := fun x hm => by
  rw [List.take_add_one, List.getElem?_eq_getElem hj] at hm
  rcases List.mem_append.1 hm with h1 | h1
  · exact h x h1
  · obtain rfl : x = l[j] := by simpa using h1
    exact hx
set_option maxRecDepth 100000 in
set_option maxHeartbeats 16000000 in
theorem wide_any (A : Option Addr) (l : List Wop) (n c : Nat) (w : World) (hO : Wops w w.heap.size A l) (hn : n = l.length) (hm : n ≤ maxLen) :
    Calls Try.prog 26 #[.slice A n c] w fun e w' => WdP l e ∧ Below w.heap.size w w' := by
  have hmI : (n : Int) ≤ 9223372036854775807 := by unfold maxLen at hm; omega
  by_cases h0 : n = 0
  · subst h0
    obtain rfl : l = [] := List.eq_nil_of_length_eq_zero hn.symm
    clear hO hn
    go_enter Try.func26, Try.ntmps26
    go_wp2
    go_loopw [7] (fun i wr => i = .int .i64 0 ∧ Below w.heap.size w wr) (fun _ _ => 0)
    case atStart => exact ⟨rfl, Below.refl _ _⟩
    case round =>
      obtain ⟨rfl, hb⟩ := hrel
      go_wp2
      go_ret
      exact ⟨⟨false, rfl, fun _ x hx => by cases hx⟩, hb⟩
  · obtain ⟨b, o, rfl, hbl, hc⟩ := wops_get hO (fun e => by rw [e] at hn; exact h0 hn)
    have HC := Lib.hid hc
    have HN := Lib.hid hn
    have HMX := Lib.hid hm
    clear hc hO hn h0 hm hmI
    go_enter Try.func26, Try.ntmps26
    go_wp2
    go_loopw [7] (fun i wr => ∃ (j : Nat), j ≤ n ∧ i = .int .i64 j ∧ (∀ x ∈ l.take j, x.kd ≠ 6 ∧ x.pgs ≤ 40) ∧ Below w.heap.size w wr) (fun i _ => n - (intOf i).toNat)
    case atStart => exact ⟨0, by omega, rfl, fun x hx => by simp at hx, Below.refl _ _⟩
    case round =>
      obtain ⟨j, hj, rfl, heq, hb⟩ := hrel
      by_cases hjn : j < n
      · have hjl : j < l.length := by have := HN.out; omega
        obtain ⟨⟨a0, a1, a2, a3, a4, a5, a6, a7⟩, _, _⟩ := HC.out _ hb j l[j] (List.getElem?_eq_getElem hjl)
        have HL := Lib.hid (wide_snoc hjl heq)
        clear heq
        generalize l[j] = x at *
        obtain ⟨xk, xp, xn, xf, xA, xc, xi, xs, yA, yc, xks, xt⟩ := x
        simp only at a0 a1 a2 a3 a4 a5 a6 a7 HL
        have hjI : (j : Int) < n := by omega
        have HB := Lib.hid (hb.alloc hb.size (.cells (wopC ⟨xk, xp, xn, xf, xA, xc, xi, xs, yA, yc, xks, xt⟩) 50))
        have hwj : IntKind.i64.wrap ((j : Int) + 1) = j + 1 := by have := HMX.out; unfold maxLen at this; rw [IntKind.wrap_i64]; omega
        have h0j : (0 : Int) ≤ j := by omega
        clear hb
        by_cases hk : xk = 6
        · subst hk
          go_wp2
          go_ret
          exact ⟨⟨true, rfl, fun h => by cases h⟩, HB.out⟩
        · have hkb : (xk == 6) = false := by simp [hk]
          by_cases hp : 40 < xp
          · have hbd : decide (40 < xp) = true := decide_eq_true hp
            go_wp2
            go_ret
            exact ⟨⟨true, rfl, fun h => by cases h⟩, HB.out⟩
          · have hbd : decide (40 < xp) = false := decide_eq_false hp
            have HLL := Lib.hid (HL.out ⟨hk, by omega⟩)
            go_wp2
            go_roundw
            case rel => exact ⟨j + 1, by omega, by first | rfl | (rw [hwj]; rfl) | simp, HLL.out, HB.out⟩
            case measure => first | (simp [intOf]; done) | (simp [intOf]; omega)
      · obtain rfl : j = n := by omega
        have ht : l.take j = l := List.take_of_length_le (Nat.le_of_eq HN.out.symm)
        rw [ht] at heq
        have HQ := Lib.hid heq
        have HB := Lib.hid hb
        clear heq hb
        go_wp2
        go_ret
        exact ⟨⟨false, rfl, fun _ => HQ.out⟩, HB.out⟩
end Go.Proofs.Ythipaabjmlgjmaa
namespace Go.Proofs.Ythipaabjmlgjmaa
open Go.RowKit Go Go.Maps
set_option linter.unusedVariables false
set_option linter.unusedSimpArgs false
/-- what an operation is that is not too heavy -/
def LightW (x : Wop) : Prop := x.ims.length ≤ 300 ∧ x.s.size ≤ 8192 ∧ x.ks.length ≤ 8192 ∧ (x.kd = 6 → x.n ≤ 300)
/-- what heavy answers -/
def HvW (l : List Wop) (e : Ending) : Prop := ∃ r, e = .returned (.bool r) ∧ (r = false → l.length ≤ 80 ∧ ∀ x ∈ l, LightW x)
theorem lightW_snoc {l : List Wop} {j : Nat} (hj : j < l.length) (h : ∀ x ∈ l.take j, LightW x) (hx : LightW l[j]) : ∀ x ∈ l.take (j + 1), LightW x := fun x hm => by
  rw [List.take_add_one, List.getElem?_eq_getElem hj] at hm
  rcases List.mem_append.1 hm with h1 | h1
  · exact h x h1
  · obtain rfl : x = l[j] := by simpa using h1
    exact hx
set_option maxRecDepth 100000 in
set_option maxHeartbeats 16000000 in
theorem heavy_wal (A : Option Addr) (l : List Wop) (n c : Nat) (w : World) (hO : Wops w w.heap.size A l) (hn : n = l.length) (hm : n ≤ maxLen) :
    Calls Try.prog 25 #[.slice A n c] w fun e w' => HvW l e ∧ Below w.heap.size w w' := by
  have hmI : (n : Int) ≤ 9223372036854775807 := by unfold maxLen at hm; omega
  by_cases h0 : n = 0
  · subst h0
    obtain rfl : l = [] := List.eq_nil_of_length_eq_zero hn.symm
    clear hO hn
    go_enter Try.func25, Try.ntmps25
    go_wp2
    go_loopw [8] (fun i wr => i = .int .i64 0 ∧ Below w.heap.size w wr) (fun _ _ => 0)
    case atStart => exact ⟨rfl, Below.refl _ _⟩
    case round =>
      obtain ⟨rfl, hb⟩ := hrel
      go_wp2
      go_ret
      exact ⟨⟨false, rfl, fun _ => ⟨by simp, fun x hx => by cases hx⟩⟩, hb⟩
  · obtain ⟨b, o, rfl, hbl, hc⟩ := wops_get hO (fun e => by rw [e] at hn; exact h0 hn)
    have HC := Lib.hid hc
    have HN := Lib.hid hn
    have HMX := Lib.hid hm
    clear hc hO hn h0 hm hmI
    go_enter Try.func25, Try.ntmps25
    go_wp2
    go_loopw [3, 8] (fun m i wr => ∃ (j : Nat) (q : Int), j ≤ n ∧ i = .int .i64 j ∧ m = .int .i64 q ∧ 0 ≤ q ∧ q ≤ 300 ∧ (∀ x ∈ l.take j, LightW x) ∧ Below w.heap.size w wr) (fun _ i _ => n - (intOf i).toNat)
    case atStart => exact ⟨0, 0, by omega, rfl, rfl, by omega, by omega, fun x hx => by simp at hx, Below.refl _ _⟩
    case round =>
      obtain ⟨j, q, hj, rfl, rfl, hq0, hq1, heq, hb⟩ := hrel
      by_cases hjn : j < n
      · have hjl : j < l.length := by have := HN.out; omega
        obtain ⟨⟨a0, a1, a2, a3, a4, a5, a6, a7⟩, _, _⟩ := HC.out _ hb j l[j] (List.getElem?_eq_getElem hjl)
        have HL := Lib.hid (lightW_snoc hjl heq)
        clear heq
        generalize l[j] = x at *
        obtain ⟨xk, xp, xn, xf, xA, xc, xi, xs, yA, yc, xks, xt⟩ := x
        simp only at a0 a1 a2 a3 a4 a5 a6 a7 HL
        have hjI : (j : Int) < n := by omega
        have HB := Lib.hid (hb.alloc hb.size (.cells (wopC ⟨xk, xp, xn, xf, xA, xc, xi, xs, yA, yc, xks, xt⟩) 50))
        have hwj : IntKind.i64.wrap ((j : Int) + 1) = j + 1 := by have := HMX.out; unfold maxLen at this; rw [IntKind.wrap_i64]; omega
        have h0j : (0 : Int) ≤ j := by omega
        obtain ⟨M, hM⟩ : ∃ M, min (xi.length : Int) 1024 = M := ⟨_, rfl⟩
        have hM0 : 0 ≤ M ∧ M ≤ 1024 := by omega
        have hw : IntKind.i64.wrap (q + M) = q + M := by rw [IntKind.wrap_i64]; omega
        have HM := Lib.hid (show 0 ≤ q + M ∧ (q + M ≤ 300 → xi.length ≤ 300) by omega)
        clear hb hM0 hq0 hq1
        by_cases hbig : 300 < q + M
        · have hbd : decide (300 < q + M) = true := decide_eq_true hbig
          go_wp2
          go_ret
          exact ⟨⟨true, rfl, fun h => by cases h⟩, HB.out⟩
        have hbd : decide (300 < q + M) = false := decide_eq_false hbig
        by_cases hts : (8192 : Int) < xt.size
        · have htd : decide ((8192 : Int) < xt.size) = true := decide_eq_true hts
          go_wp2
          go_ret
          exact ⟨⟨true, rfl, fun h => by cases h⟩, HB.out⟩
        have htd : decide ((8192 : Int) < xt.size) = false := decide_eq_false hts
        by_cases hkl : (8192 : Int) < xks.length
        · have hkd : decide ((8192 : Int) < xks.length) = true := decide_eq_true hkl
          go_wp2
          go_ret
          exact ⟨⟨true, rfl, fun h => by cases h⟩, HB.out⟩
        have hkd : decide ((8192 : Int) < xks.length) = false := decide_eq_false hkl
        by_cases hk : xk = 6
        · subst hk
          by_cases hnn : 300 < xn
          · have hnd : decide (300 < xn) = true := decide_eq_true hnn
            go_wp2
            go_ret
            exact ⟨⟨true, rfl, fun h => by cases h⟩, HB.out⟩
          · have hnd : decide (300 < xn) = false := decide_eq_false hnn
            have HLL := Lib.hid (HL.out ⟨HM.out.2 (by omega), by show xt.size ≤ 8192; omega, by show xks.length ≤ 8192; omega, fun _ => by show xn ≤ 300; omega⟩)
            go_wp2
            go_roundw
            case rel => exact ⟨j + 1, q + M, by omega, by first | rfl | (rw [hwj]; rfl) | simp, rfl, HM.out.1, by omega, HLL.out, HB.out⟩
            case measure => first | (simp [intOf]; done) | (simp [intOf]; omega)
        · have hkb : (xk == 6) = false := by simp [hk]
          have HLL := Lib.hid (HL.out ⟨HM.out.2 (by omega), by show xt.size ≤ 8192; omega, by show xks.length ≤ 8192; omega, fun h => absurd h hk⟩)
          go_wp2
          go_roundw
          case rel => exact ⟨j + 1, q + M, by omega, by first | rfl | (rw [hwj]; rfl) | simp, rfl, HM.out.1, by omega, HLL.out, HB.out⟩
          case measure => first | (simp [intOf]; done) | (simp [intOf]; omega)
      · obtain rfl : j = n := by omega
        have ht : l.take j = l := List.take_of_length_le (Nat.le_of_eq HN.out.symm)
        rw [ht] at heq
        have HQ := Lib.hid heq
        have HB := Lib.hid hb
        clear heq hb
        by_cases h80 : (80 : Int) < j
        · have hbd : decide ((80 : Int) < j) = true := decide_eq_true h80
          go_wp2
          go_ret
          exact ⟨⟨true, rfl, fun h => by cases h⟩, HB.out⟩
        · have hbd : decide ((80 : Int) < j) = false := decide_eq_false h80
          go_wp2
          go_ret
          exact ⟨⟨false, rfl, fun _ => ⟨by have := HN.out; omega, HQ.out⟩⟩, HB.out⟩
end Go.Proofs.Ythipaabjmlgjmaa
namespace Go.Proofs.Ythipaabjmlgjmaa
open Go.RowKit Go Go.Maps
set_option linter.unusedVariables false
set_option linter.unusedSimpArgs false
theorem chkF_get (l : Lg) (F : Fl) (j : Nat) : ∀ k, (chkF l k F).getD j zS = if j / 8 < k then (match frL l.fs (((j / 8 : Nat) : Int) + 1) with | some s => secOf s (j % 8) | none => F.getD j zS) else F.getD j zS
  | 0 => by rw [if_neg (by omega)]; rfl
  | k + 1 => by
    have ih := chkF_get l F j k
    unfold chkF
    by_cases hk : j / 8 = k
    · rw [if_pos (by omega), hk]
      rw [if_neg (by omega)] at ih
      cases hf : frL l.fs ((k : Int) + 1) with
      | some s =>
        simp only
        rw [wrP_get, if_pos (by omega), show j - k * 8 = j % 8 by omega]
      | none => exact ih
    · have h2 : (chkF l k F).getD j zS = if j / 8 < k + 1 then (match frL l.fs (((j / 8 : Nat) : Int) + 1) with | some s => secOf s (j % 8) | none => F.getD j zS) else F.getD j zS := by
        rw [ih]
        by_cases hlt : j / 8 < k
        · rw [if_pos hlt, if_pos (by omega)]
        · rw [if_neg hlt, if_neg (by omega)]
      cases hf : frL l.fs ((k : Int) + 1) with
      | some s =>
        simp only
        rw [wrP_get, if_neg (by omega), h2]
      | none => exact h2
theorem chkF_len (l : Lg) (F : Fl) (hF : F.length % 8 = 0) : ∀ k, (chkF l k F).length % 8 = 0 ∧ F.length ≤ (chkF l k F).length ∧ ∀ m s, m < k → frL l.fs ((m : Int) + 1) = some s → m * 8 + 8 ≤ (chkF l k F).length
  | 0 => ⟨hF, Nat.le_refl _, fun m s h => by omega⟩
  | k + 1 => by
    obtain ⟨h1, h2, h3⟩ := chkF_len l F hF k
    unfold chkF
    cases hf : frL l.fs ((k : Int) + 1) with
    | some s =>
      simp only
      rw [wrP_length, if_neg (by omega)]
      refine ⟨by omega, by omega, fun m s' hm hs => ?_⟩
      by_cases he : m = k
      · omega
      · have := h3 m s' (by omega) hs; omega
    | none =>
      refine ⟨h1, h2, fun m s' hm hs => ?_⟩
      by_cases he : m = k
      · subst he; rw [hf] at hs; cases hs
      · exact h3 m s' (by omega) hs
/-- a page of the main file -/
def pgF (F : Fl) (m : Nat) : ByteArray := if F.length < m * 8 + 8 then bstr (List.replicate 512 0) else bstr ((F.drop (m * 8)).take 8).flatten
theorem page_chk {l : Lg} {F : Fl} {P m : Nat} (hF : F.length % 8 = 0) (hm : m < P) (hok : ∀ x ∈ l.fs, FxOk x) : pgF ((chkF l P F).take (P * 8)) m = match frL l.fs ((m : Int) + 1) with | some s => s | none => pgF F m := by
  obtain ⟨h1, h2, h3⟩ := chkF_len l F hF P
  have hG : ((chkF l P F).take (P * 8)).length = min (P * 8) (chkF l P F).length := List.length_take
  have hg : ∀ j, j < P * 8 → j < (chkF l P F).length → ((chkF l P F).take (P * 8)).getD j zS = (chkF l P F).getD j zS := fun j hj hl => by
    rw [List.getD_eq_getElem?_getD, List.getD_eq_getElem?_getD, List.getElem?_take, if_pos hj]
  cases hf : frL l.fs ((m : Int) + 1) with
  | some s =>
    simp only
    have hL := h3 m s hm hf
    obtain ⟨x, hx, _, hxs⟩ := frL_mem hf
    have hs : s.size = 8 * 64 := by rw [← hxs]; exact (hok x hx).2.2.2
    unfold pgF
    rw [if_neg (by omega)]
    have hW := wrP_length [] 0 (m * 8) s 8
    rw [if_neg (by omega)] at hW
    have hc : (((chkF l P F).take (P * 8)).drop (m * 8)).take 8 = ((wrP [] 0 (m * 8) s 8).drop (m * 8)).take 8 := by
      refine cut_same (by omega) (by rw [hW]; simp) fun j hj1 hj2 => ?_
      have hj8 : j / 8 = m := by omega
      rw [hg j (by omega) (by omega), chkF_get, if_pos (by omega), hj8, hf, wrP_get, if_pos (by omega), show j - m * 8 = j % 8 by omega]
    rw [hc, read_back [] 0 (m * 8) s 8 hs (by omega), bstr_bts]
  | none =>
    simp only
    have hnone : ∀ j, m * 8 ≤ j → j < m * 8 + 8 → (chkF l P F).getD j zS = F.getD j zS := fun j hj1 hj2 => by
      have hj8 : j / 8 = m := by omega
      rw [chkF_get, if_pos (by omega), hj8, hf]
    by_cases hlt : F.length < m * 8 + 8
    · have e : pgF F m = bstr (List.replicate 512 0) := by unfold pgF; rw [if_pos hlt]
      rw [e]
      unfold pgF
      by_cases hlt2 : ((chkF l P F).take (P * 8)).length < m * 8 + 8
      · rw [if_pos hlt2]
      · rw [if_neg hlt2]
        have hc : (((chkF l P F).take (P * 8)).drop (m * 8)).take 8 = ((List.replicate (m * 8 + 8) zS).drop (m * 8)).take 8 := by
          refine cut_same (by omega) (by rw [List.length_replicate]; omega) fun j hj1 hj2 => ?_
          rw [hg j (by omega) (by omega), hnone j hj1 hj2, List.getD_eq_getElem?_getD, List.getD_eq_getElem?_getD, List.getElem?_eq_none (by omega), List.getElem?_replicate, if_pos (by omega)]
          rfl
        rw [hc, List.drop_replicate, List.take_replicate, show min 8 (m * 8 + 8 - m * 8) = 8 by omega]
        unfold zS
        rw [List.flatten_replicate_replicate]
    · unfold pgF
      rw [if_neg hlt, if_neg (by omega)]
      have hc : (((chkF l P F).take (P * 8)).drop (m * 8)).take 8 = (F.drop (m * 8)).take 8 := by
        refine cut_same (by omega) (by omega) fun j hj1 hj2 => ?_
        rw [hg j (by omega) (by omega), hnone j hj1 hj2]
      rw [hc]
end Go.Proofs.Ythipaabjmlgjmaa
namespace Go.Proofs.Ythipaabjmlgjmaa
open Go.RowKit Go Go.Maps
set_option linter.unusedVariables false
set_option linter.unusedSimpArgs false
theorem pageD_all {d : Dk} {l : Lg} {m : Nat} (hon : d.off = false) (hm : m < 256) : pageD d l ((m : Int) + 1) (l.fs.length : Nat) = ((match frL l.fs ((m : Int) + 1) with | some s => s | none => pgF (d.fl 0) m), 0) := by
  unfold pageD
  rw [if_neg (by omega)]
  have ht : l.fs.take ((l.fs.length : Nat) : Int).toNat = l.fs := List.take_of_length_le (by omega)
  rw [ht]
  cases hf : frL l.fs ((m : Int) + 1) with
  | some s => rfl
  | none =>
    simp only
    have hs : sizeD d 0 = ((d.fl 0).length : Nat) := rfl
    unfold pgF
    by_cases h : (d.fl 0).length < m * 8 + 8
    · rw [if_pos h, if_pos (by rw [hs]; omega)]
    · rw [if_neg h, if_neg (by rw [hs]; omega), readD_main hon (by omega) (by omega) (by omega), show (((m : Int) + 1 - 1) * 8).toNat = m * 8 by omega]
      rfl
/-- what stays -/
structure Good (d : Dk) (l : Lg) : Prop where
  calm : Calm d
  loose : d.loose = []
  tolf : Tolf d l
  told : l.fs ≠ [] → Told d l
  main : (d.fl 0).length % 8 = 0
  pgs : l.P ≤ 40
theorem good_new : Good newD newL := ⟨calm_new, rfl, tolf_new, fun h => absurd rfl h, rfl, by show (0 : Nat) ≤ 40; omega⟩
theorem good_app {d : Dk} {l : Lg} {pages : Int} {ims : List Im} (h : Good d l) (hp : pages ≤ 40) : Good (appD pages ims d l).1.1 (appD pages ims d l).1.2 := by
  by_cases hmay : mayA pages ims = true
  · by_cases hlen : l.fs.length + ims.length ≤ 256
    · obtain ⟨d', e1, t1, c1, o1, l1, z1, g1⟩ := app_told h.tolf h.calm (fun c hc => by rw [h.loose] at hc; cases hc) hmay hlen
      rw [e1]
      refine ⟨c1, ?_, tolf_of t1, fun _ => t1, by rw [g1 0 (by omega) (by omega)]; exact h.main, by show pages.toNat ≤ 40; omega⟩
      cases hl : d'.loose with
      | nil => rfl
      | cons c r =>
        have := (l1 c (by rw [hl]; exact .head _)).1
        rw [h.loose] at this
        cases this
    · have e : appD pages ims d l = ((d, l), 8) := by unfold appD; rw [if_neg (by rw [hmay]; decide), if_pos (by omega)]
      rw [e]; exact h
  · have e : appD pages ims d l = ((d, l), 2) := by unfold appD; rw [if_pos (by simpa using hmay)]
    rw [e]; exact h
theorem stA_same {d d2 : Dk} {l l2 : Lg} (hP : l.P = l2.P) (h : ∀ m, m < 256 → pageD d l ((m : Int) + 1) (l.fs.length : Nat) = pageD d2 l2 ((m : Int) + 1) (l2.fs.length : Nat)) : ∀ k, k ≤ 256 → stA d l k = stA d2 l2 k
  | 0, _ => by unfold stA; rw [hP]
  | k + 1, hk => by rw [stA, stA, stA_same hP h k (by omega), h k (by omega)]
theorem stA_some {d : Dk} {l : Lg} (hon : d.off = false) : ∀ k, k ≤ 256 → ∃ s, stA d l k = some s
  | 0, _ => ⟨_, rfl⟩
  | k + 1, hk => by
    obtain ⟨s, hs⟩ := stA_some hon k (by omega)
    rw [stA, hs, pageD_all hon (by omega)]
    exact ⟨_, rfl⟩
theorem state_ok {d : Dk} {l : Lg} (h : Good d l) : (stateD d l).2 = true := by
  obtain ⟨s, hs⟩ := stA_some (l := l) h.calm.1 (min l.P 40) (by omega)
  unfold stateD
  rw [hs]
theorem good_chk {d : Dk} {l : Lg} (h : Good d l) : ∃ d' l', chkD d l = ((d', l'), 0) ∧ Good d' l' ∧ stateD d' l' = stateD d l ∧ l'.fs = [] ∧ (l.fs ≠ [] → l'.N = nxt l.N) ∧ (l.fs = [] → d' = d ∧ l' = l) := by
  by_cases h0 : l.fs = []
  · have e : chkD d l = ((d, l), 0) := by unfold chkD; rw [if_pos h0]
    exact ⟨d, l, e, h, rfl, h0, fun hn => absurd h0 hn, fun _ => ⟨rfl, rfl⟩⟩
  · obtain ⟨d', e1, t1, c1, l1, f1, z1, g1⟩ := chk_told (h.told h0) h.calm (fun c hc => by rw [h.loose] at hc; cases hc) h0
    obtain ⟨m1, m2, _⟩ := chkF_len l (d.fl 0) h.main l.P
    refine ⟨d', _, e1, ⟨c1, ?_, tolf_of t1, fun hn => absurd rfl hn, ?_, h.pgs⟩, ?_, rfl, fun _ => rfl, fun hn => absurd hn h0⟩
    · cases hl : d'.loose with
      | nil => rfl
      | cons c r =>
        have := (l1 c (by rw [hl]; exact .head _)).1
        rw [h.loose] at this
        cases this
    · rw [f1, List.length_take]; omega
    · unfold stateD
      have hs : ∀ k, k ≤ l.P → stA d' ⟨nxt l.N, 0, l.P, true, [], startP (nxt l.N), false, false⟩ k = stA d l k := by
        intro k
        induction k with
        | zero => intro _; rfl
        | succ k ih =>
          intro hk
          have hp := h.pgs
          rw [stA, stA, ih (by omega), pageD_all c1.1 (by omega), pageD_all h.calm.1 (by omega), f1, page_chk h.main (by omega) h.tolf.ok]
          rfl
      show (match stA d' ⟨nxt l.N, 0, l.P, true, [], startP (nxt l.N), false, false⟩ (min l.P 40) with | none => _ | some s => _) = _
      rw [hs _ (by omega)]
      all_goals (cases stA d l (min l.P 40) <;> rfl)
end Go.Proofs.Ythipaabjmlgjmaa
namespace Go.Proofs.Ythipaabjmlgjmaa
open Go.RowKit Go Go.Maps
set_option linter.unusedVariables false
set_option linter.unusedSimpArgs false
theorem imsV_get : ∀ (l : List Im) (i : Nat) (x : Im), l[i]? = some x → (imsV l)[i * 2]? = some (.int .i64 x.pg) ∧ (imsV l)[i * 2 + 1]? = some (.string x.dt)
  | [], i, x, h => by simp at h
  | y :: l, 0, x, h => by
    simp only [List.getElem?_cons_zero, Option.some.injEq] at h
    subst h
    exact ⟨rfl, rfl⟩
  | y :: l, i + 1, x, h => by
    have ih := imsV_get l i x (by simpa using h)
    have e : imsV (y :: l) = imL y ++ imsV l := rfl
    rw [e]
    have e0 : (i + 1) * 2 = 2 + i * 2 := by omega
    rw [e0, Nat.add_assoc]
    have hl : (imL y).length = 2 := rfl
    refine ⟨?_, ?_⟩
    · rw [List.getElem?_append_right (by omega), hl, Nat.add_sub_cancel_left]; exact ih.1
    · rw [List.getElem?_append_right (by omega), hl, Nat.add_sub_cancel_left]; exact ih.2
theorem im_row {W : World} {base n c : Nat} {A : Option Addr} {l : List Im} (h : W.ownsRow base 36 2 (.slice A n c) n (imsV l)) (hn : n = l.length) : ImAt W A l := by
  by_cases h0 : n = 0
  · subst h0
    exact .inl (List.eq_nil_of_length_eq_zero hn.symm)
  · obtain ⟨g, rfl⟩ : ∃ g, A = some ⟨g, 0, none⟩ := by
      rcases h.2 with ⟨hv, h1⟩ | ⟨g, cap', cur, hv, _⟩
      · omega
      · simp only [Value.slice.injEq] at hv
        exact ⟨g, hv.1⟩
    refine .inr ⟨g, 0, rfl, (h.lt g rfl).2, fun i x hx => ?_⟩
    have hi : i < n := by
      rcases Nat.lt_or_ge i l.length with h1 | h1
      · omega
      · rw [List.getElem?_eq_none h1] at hx; cases hx
    obtain ⟨a, b⟩ := imsV_get l i x hx
    rw [Nat.zero_add]
    exact ⟨by rw [h.cellAt (i * 2) (by omega)]; exact a, by rw [h.cellAt (i * 2 + 1) (by omega)]; exact b⟩
theorem imOf_sz (p : Pu) : (imOf p).dt.size ≤ 512 := by
  unfold imOf
  show ((pagS p.x).extract 0 _).size ≤ 512
  rw [ByteArray.size_extract, pagS_size]
  omega
theorem wops_mono {w : World} {B B' : Nat} {A : Option Addr} {l : List Wop} (h : Wops w B A l) (hB : B ≤ B') : Wops w B' A l := by
  rcases h with h | ⟨b, o, hA, hlt, hc⟩
  · exact .inl h
  · refine .inr ⟨b, o, hA, by omega, fun j x hx => ⟨(hc j x hx).1, ?_, ?_⟩⟩
    · rcases (hc j x hx).2.1 with h | ⟨b2, o2, hA2, hlt2, hc2⟩
      · exact .inl h
      · exact .inr ⟨b2, o2, hA2, by omega, hc2⟩
    · rcases (hc j x hx).2.2 with h | ⟨b2, o2, hA2, hlt2, hc2⟩
      · exact .inl h
      · exact .inr ⟨b2, o2, hA2, by omega, hc2⟩
theorem kl_state {w0 W : World} {g q : Nat} {d : Dk} {N : Nat} {l : Lg} (h : Kl w0 g q d N l W) (hP : l.P ≤ 256) : Calls Try.prog 24 #[lp q] W fun e w' => e = .returned (.tuple #[.string (stateD d l).1, .bool (stateD d l).2]) ∧ Kl w0 g q d N l w' :=
  h.elim fun S hh => (state_any hh.1 hP).mono fun e w' he => ⟨he.1, kl_below h he.2⟩
end Go.Proofs.Ythipaabjmlgjmaa
namespace Go.Proofs.Ythipaabjmlgjmaa
open Go Go.Joins Go.ChangeShapes Go.WideShapes Go.RowKit Go.Deep
set_option linter.unusedVariables false
section
variable {H : Type} {enc : TypeId × Value → H} {P : Program} {w : World} {base : Nat} {spare : Nat → Bool} {held : Bool}
theorem open_slice_cells {t e : TypeId} {fs : Array Field} {fuel : Nat} {cs : List Value} {x : DataW H × List MemPlace} (ht : P.underlying t = some (.slice e)) (he : P.underlying e = some (.struct fs))
    (hone : oneCellFields P fs = true) (hC : P.cellsOf e = fs.size) (h : DataW.trod enc P w base spare held fuel t cs = some x) :
    (cs = [.slice none 0 0]) ∨
    ∃ (a : Addr) (len cap m : Nat), cs = [.slice (some a) len cap] ∧ len ≤ cap ∧ cap ≤ maxLen ∧ m = (if spare a.block then cap else len) ∧
      ∀ i, i < m → ∃ (n : Nat), ∀ (j : Nat) (f : Field), fs[j]? = some f → ∃ (v : Value) (y : DataW H × List MemPlace), w.cell? (a.add (i * fs.size + j)) = some v ∧ DataW.trod enc P w base spare held n f.type [v] = some y := by
  rcases open_slice ht h with h0 | ⟨a, len, cap, m, n, D, Pl, hcs, hb, hl, hm, hmm, hx, hi⟩
  · exact .inl h0.1
  · refine .inr ⟨a, len, cap, m, hcs, hl, hm, hmm, fun i him => ?_⟩
    obtain ⟨cs', hc, ht'⟩ := hi i him
    rw [hC] at hc
    obtain ⟨ys, n', hn', hy, hlen, hyl, hf⟩ := DataW.trod_struct he ht'
    obtain ⟨_, hcl, hat⟩ := World.cells?_some hc
    refine ⟨n', fun j f hj => ?_⟩
    obtain ⟨ho, hk⟩ := hone_of hone j f hj
    have hjl : j < fs.size := (Array.getElem?_eq_some_iff.1 hj).1
    have hcell := hat j hjl
    have hv : cs'[j]? = some (cs'[j]'(by omega)) := List.getElem?_eq_getElem (by omega)
    have h1 := hf j f hj
    rw [ho, hk] at h1
    have hone' : (cs'.drop j).take 1 = [cs'[j]'(by omega)] := by
      rw [List.drop_eq_getElem_cons (by omega)]
      rfl
    rw [hone'] at h1
    have hys : ys[j]? = some (ys[j]'(by omega)) := List.getElem?_eq_getElem (by omega)
    refine ⟨_, _, ?_, h1.trans hys⟩
    rw [← Go.Deep.add_add, hcell, hv]
end
theorem pick_list {α : Type} {Q : Nat → α → Prop} (n : Nat) (h : ∀ i, i < n → ∃ x, Q i x) : ∃ l : List α, l.length = n ∧ ∀ (j : Nat) x, l[j]? = some x → Q j x := by
  induction n with
  | zero => exact ⟨[], rfl, fun j x hx => by simp at hx⟩
  | succ n ih =>
    obtain ⟨l, hl, hc⟩ := ih (fun i hi => h i (by omega))
    obtain ⟨y, h1⟩ := h n (by omega)
    refine ⟨l ++ [y], by rw [List.length_append, hl]; rfl, fun j x hx => ?_⟩
    by_cases hj : j < l.length
    · rw [List.getElem?_append_left hj] at hx
      exact hc j x hx
    · rw [List.getElem?_append_right (by omega)] at hx
      have hj0 : j - l.length = 0 := by
        by_cases e : j - l.length = 0
        · exact e
        · rw [List.getElem?_eq_none (by simp; omega)] at hx; cases hx
      rw [hj0] at hx
      simp only [List.getElem?_cons_zero, Option.some.injEq] at hx
      subst hx
      obtain rfl : j = n := by omega
      exact h1
theorem wf_u8 {x : Int} (h : (Lit.int .u8 x).wf = true) : 0 ≤ x ∧ x < 256 := by
  have h2 : IntKind.u8.min = 0 := rfl
  have h3 : IntKind.u8.max = 255 := rfl
  simp [Lit.wf, h2, h3] at h
  omega
theorem wf_i64 {x : Int} (h : (Lit.int .i64 x).wf = true) : -9223372036854775808 ≤ x ∧ x ≤ 9223372036854775807 := by
  have h2 : IntKind.i64.min = -9223372036854775808 := rfl
  have h3 : IntKind.i64.max = 9223372036854775807 := rfl
  simp [Lit.wf, h2, h3] at h
  omega
theorem cell_lt3 {W : World} {a : Addr} {v : Value} (h : W.cell? a = some v) : a.block < W.heap.size := by
  rcases Nat.lt_or_ge a.block W.heap.size with hlt | hge
  · exact hlt
  · simp [World.cell?, Array.getElem?_eq_none hge] at h
section
variable {H : Type} {enc : TypeId × Value → H} {W : World} {base : Nat} {sp : Nat → Bool} {held : Bool}
set_option maxRecDepth 100000 in
theorem open_boolsF (fuel : Nat) (v : Value) (x : DataW H × List MemPlace) (h : DataW.trod enc Try.prog W base sp held fuel 48 [v] = some x) :
    ∃ (A : Option Addr) (l : List Bool) (n c : Nat), v = .slice A n c ∧ KsAt W W.heap.size A l ∧ n = l.length ∧ n ≤ maxLen := by
  rcases open_slice Try.underlying48 h with ⟨hc, _⟩ | ⟨a, len, cap, m, n, D, Pl, hc, _, hl, hcap, hm, _, hat⟩
  · injection hc with hc _
    subst hc
    exact ⟨none, [], 0, 0, rfl, .inl rfl, rfl, by unfold maxLen; omega⟩
  · injection hc with hc _
    subst hc
    rw [show Try.prog.cellsOf 4 = 1 by kernel_rfl] at hat
    have hlm : len ≤ m := by rw [hm]; split <;> omega
    by_cases h0 : len = 0
    · subst h0
      exact ⟨some a, [], 0, cap, rfl, .inl rfl, rfl, by omega⟩
    · have kid : ∀ i, i < len → ∃ y : Bool, W.cell? (a.add i) = some (.bool y) := by
        intro i hi
        obtain ⟨cs', hcs, htr⟩ := hat i (by omega)
        obtain ⟨y, hy, _⟩ := DataW.trod_bool Try.underlying4 htr
        obtain ⟨_, hcl', hcell⟩ := World.cells?_some hcs
        subst hy
        have k0 := hcell 0 (by decide)
        rw [Go.Deep.add_add] at k0
        exact ⟨y, by simpa using k0⟩
      obtain ⟨b, o, spot⟩ := a
      obtain ⟨x0', hx0⟩ := kid 0 (by omega)
      have hspot : spot = none := by simpa [Addr.add] using World.cell?_spot hx0
      subst hspot
      have ea : ∀ i, (⟨b, o, none⟩ : Addr).add i = ⟨b, o + i, none⟩ := fun i => by unfold Addr.add; split <;> simp_all
      have hblk : b < W.heap.size := by
        have q := hx0
        rw [ea] at q
        exact cell_lt3 q
      obtain ⟨l, hl1, hl2⟩ := pick_list len kid
      simp only [ea] at hl2
      exact ⟨some ⟨b, o, none⟩, l, len, cap, rfl, .inr ⟨b, o, rfl, hblk, hl2⟩, hl1.symm, by omega⟩
end
section
variable {H : Type} {enc : TypeId × Value → H} {W : World} {base : Nat} {sp : Nat → Bool} {held : Bool}
set_option maxRecDepth 100000 in
theorem open_putsF (fuel : Nat) (v : Value) (x : DataW H × List MemPlace) (h : DataW.trod enc Try.prog W base sp held fuel 46 [v] = some x) :
    ∃ (A : Option Addr) (l : List Pu) (n c : Nat), v = .slice A n c ∧ PuB W W.heap.size A l ∧ n = l.length ∧ n ≤ maxLen ∧ ∀ p ∈ l, p.x < 256 := by
  rcases open_slice_cells Try.underlying46 Try.underlying95 (by kernel_rfl) (by kernel_rfl) h with hv | ⟨a', len', cap', m, hv, hl, hcap, hm, hfl⟩
  · injection hv with hv _
    subst hv
    exact ⟨none, [], 0, 0, rfl, .inl rfl, rfl, by unfold maxLen; omega, fun p hp => by cases hp⟩
  · injection hv with hv _
    subst hv
    have hlm : len' ≤ m := by rw [hm]; split <;> omega
    by_cases h0 : len' = 0
    · exact ⟨some a', [], len', cap', rfl, .inl rfl, by simpa using h0, by omega, fun p hp => by cases hp⟩
    · obtain ⟨b, o, spot⟩ := a'
      have hspot : spot = none := by
        obtain ⟨n, hfi⟩ := hfl 0 (by omega)
        obtain ⟨v0, y0, c0, t0⟩ := hfi 0 _ rfl
        simpa [Addr.add] using World.cell?_spot c0
      subst hspot
      have ea : ∀ i, (⟨b, o, none⟩ : Addr).add i = ⟨b, o + i, none⟩ := fun i => by unfold Addr.add; split <;> simp_all
      have cellf : ∀ i, i < len' → ∃ y : Pu, (W.cell? ⟨b, o + i * 3, none⟩ = some (.int .i64 y.pg) ∧ W.cell? ⟨b, o + i * 3 + 1, none⟩ = some (.int .u8 y.x) ∧ W.cell? ⟨b, o + i * 3 + 2, none⟩ = some (.int .i64 y.sh)) ∧ y.x < 256 := by
        intro i hi
        obtain ⟨n, hfi⟩ := hfl i (by omega)
        obtain ⟨v0, y0, c0, t0⟩ := hfi 0 _ rfl
        obtain ⟨v1, y1, c1, t1⟩ := hfi 1 _ rfl
        obtain ⟨v2, y2, c2, t2⟩ := hfi 2 _ rfl
        obtain ⟨k, e0, _, w0⟩ := DataW.trod_int Try.underlying3 t0
        obtain ⟨u, e1, _, w1⟩ := DataW.trod_int Try.underlying5 t1
        obtain ⟨z, e2, _, w2⟩ := DataW.trod_int Try.underlying3 t2
        simp at e0 e1 e2
        subst e0 e1 e2
        rw [ea] at c0 c1 c2
        have hu := wf_u8 w1
        have hun : ((u.toNat : Nat) : Int) = u := by omega
        refine ⟨⟨k, u.toNat, z⟩, ⟨?_, ?_, ?_⟩, show u.toNat < 256 by omega⟩
        · exact c0
        · rw [Nat.add_assoc]
          show _ = some (Value.int .u8 ((u.toNat : Nat) : Int))
          rw [hun]; exact c1
        · rw [Nat.add_assoc]; exact c2
      obtain ⟨x0, ⟨q0, _⟩, _⟩ := cellf 0 (by omega)
      have hblk : b < W.heap.size := cell_lt3 q0
      obtain ⟨l, hl1, hl2⟩ := pick_list len' cellf
      exact ⟨some ⟨b, o, none⟩, l, len', cap', rfl, .inr ⟨b, o, rfl, hblk, fun j x hx => (hl2 j x hx).1⟩, hl1.symm, by omega, fun x hx => by
        obtain ⟨j, hj⟩ := List.mem_iff_getElem?.1 hx
        exact (hl2 j x hj).2⟩
end
set_option maxRecDepth 100000 in
theorem open_wops {H : Type} {enc : TypeId × Value → H} {W : World} {base b0 : Nat} {r : Reach} {sp : Nat → Bool} {held : Bool} {v : Value} {d : DataW H} {p : List MemPlace} (hval : Value.okWide Try.prog W r b0 57 v) (h : DataW.Trod enc Try.prog W base sp held 57 v d p) :
    ∃ (A : Option Addr) (l : List Wop) (n c : Nat), v = .slice A n c ∧ Wops W W.heap.size A l ∧ n = l.length ∧ n ≤ maxLen ∧ ∀ x ∈ l, FitW x := by
  obtain ⟨a, len, cap, rfl⟩ := okWide_slice Try.underlying57 hval
  obtain ⟨fuel, hf⟩ := h
  simp only [Value.cells] at hf
  rcases open_slice_cells Try.underlying57 Try.underlying50 (by kernel_rfl) (by kernel_rfl) hf with hv | ⟨a', len', cap', m, hv, hl, hcap, hm, hfl⟩
  · simp at hv
    obtain ⟨rfl, rfl, rfl⟩ := hv
    exact ⟨none, [], 0, 0, rfl, .inl rfl, rfl, by unfold maxLen; omega, fun x hx => by simp at hx⟩
  · simp at hv
    obtain ⟨rfl, rfl, rfl⟩ := hv
    have hlm : len ≤ m := by rw [hm]; split <;> omega
    by_cases h0 : len = 0
    · exact ⟨some a', [], len, cap, rfl, .inl rfl, by simpa using h0, by omega, fun x hx => by simp at hx⟩
    · obtain ⟨b, o, spot⟩ := a'
      have hspot : spot = none := by
        obtain ⟨n, hfi⟩ := hfl 0 (by omega)
        obtain ⟨v0, y0, c0, t0⟩ := hfi 0 _ rfl
        simpa [Addr.add] using World.cell?_spot c0
      subst hspot
      have ea : ∀ i, (⟨b, o, none⟩ : Addr).add i = ⟨b, o + i, none⟩ := fun i => by unfold Addr.add; split <;> simp_all
      have cellf : ∀ i, i < len → ∃ x : Wop, (WopAt W b (o + i * 8) x ∧ PuB W W.heap.size x.iA x.ims ∧ KsAt W W.heap.size x.kA x.ks) ∧ FitW x := by
        intro i hi
        obtain ⟨n, hfi⟩ := hfl i (by omega)
        obtain ⟨v0, y0, c0, t0⟩ := hfi 0 _ rfl
        obtain ⟨v1, y1, c1, t1⟩ := hfi 1 _ rfl
        obtain ⟨v2, y2, c2, t2⟩ := hfi 2 _ rfl
        obtain ⟨v3, y3, c3, t3⟩ := hfi 3 _ rfl
        obtain ⟨v4, y4, c4, t4⟩ := hfi 4 _ rfl
        obtain ⟨v5, y5, c5, t5⟩ := hfi 5 _ rfl
        obtain ⟨v6, y6, c6, t6⟩ := hfi 6 _ rfl
        obtain ⟨v7, y7, c7, t7⟩ := hfi 7 _ rfl
        obtain ⟨k, e0, _, w0⟩ := DataW.trod_int Try.underlying3 t0
        obtain ⟨f, e1, _, w1⟩ := DataW.trod_int Try.underlying3 t1
        obtain ⟨q, e2, _, w2⟩ := DataW.trod_int Try.underlying3 t2
        obtain ⟨z, e3, _, w3⟩ := DataW.trod_int Try.underlying3 t3
        obtain ⟨iA, ims, inn, ic, e4, hims, hin, him, hix⟩ := open_putsF n v4 y4 t4
        obtain ⟨u, e5, _⟩ := DataW.trod_bool Try.underlying4 t5
        obtain ⟨kA, ks, kn, kc, e6, hks, hkn, hkm⟩ := open_boolsF n v6 y6 t6
        obtain ⟨s, e7, _, _⟩ := DataW.trod_string Try.underlying9 t7
        simp at e0 e1 e2 e3 e5 e7
        subst e0 e1 e2 e3 e4 e5 e6 e7 hkn hin
        rw [ea] at c0 c1 c2 c3 c4 c5 c6 c7
        refine ⟨⟨k, f, q, z, iA, ic, ims, u, kA, kc, ks, s⟩, ⟨⟨?_, ?_, ?_, ?_, ?_, ?_, ?_, ?_⟩, hims, hks⟩, him, hkm, hix⟩
        · exact c0
        · rw [Nat.add_assoc]; exact c1
        · rw [Nat.add_assoc]; exact c2
        · rw [Nat.add_assoc]; exact c3
        · rw [Nat.add_assoc]; exact c4
        · rw [Nat.add_assoc]; exact c5
        · rw [Nat.add_assoc]; exact c6
        · rw [Nat.add_assoc]; exact c7
      obtain ⟨x0, ⟨q0, _⟩, _⟩ := cellf 0 (by omega)
      have hblk : b < W.heap.size := cell_lt3 q0.c0
      obtain ⟨l, hl1, hl2⟩ := pick_list len cellf
      exact ⟨some ⟨b, o, none⟩, l, len, cap, rfl, .inr ⟨b, o, rfl, hblk, fun j x hx => (hl2 j x hx).1⟩, hl1.symm, by omega, fun x hx => by
        obtain ⟨j, hj⟩ := List.mem_iff_getElem?.1 hx
        exact (hl2 j x hj).2⟩
end Go.Proofs.Ythipaabjmlgjmaa
