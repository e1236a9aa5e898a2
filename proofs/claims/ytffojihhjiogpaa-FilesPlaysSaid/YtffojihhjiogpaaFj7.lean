/- Layer 3: ref03's Cut. Conditions: those of each lemma. -/
import Derived.Test.YtffojihhjiogpaaFj6
import Derived.Deep.RegionLaw
import Derived.Deep.RegionWith
import Derived.Deep.AppendLies
namespace Go.Proofs.Ytffojihhjiogpaa
open Go.RowKit Go Go.Maps
set_option linter.unusedVariables false
set_option linter.unusedSimpArgs false
theorem step_append_j {P : Program} (w : World) {ops : Array Oper} {o : Oper} {a : Act} {K : Act → World → Prop} {Q : Exit → Act → World → Prop} {E : Prop} (hgd : o.guard = none) (s x : Operand) (t : TypeId)
    (ho : o.op = .call { callee := .builtin .append, args := #[s, x], argTypes := #[t, t] })
    (base : Nat) (e : TypeId) (i : TypeInfo) (z : Value) (size bytes : Nat) (ht : P.underlying t = some (.slice e)) (hi : P.info? e = some i) (hz : i.zero = some z)
    (hsize : i.size = size) (hby : i.bytes = bytes) (hzs : z.cells.size = size) (hsz : 0 < size)
    (v : Value) (n : Nat) (xs : List Value) (hs : a.eval s = v) (hown : w.ownsRow base e size v n xs)
    (B : Nat) (A : Option Addr) (m c : Nat) (news : List Value) (hx : a.eval x = .slice A m c) (hr : Reads w B size A m news) (h1 : ∀ u ∈ news, u.oneCell' = true)
    (h63 : n + m ≤ maxLen) (hbytes : (n + m) * bytes ≤ 140737488355328) (hbase : base ≤ w.heap.size)
    (h : ∀ A' c' w', w'.ownsRow base e size (.slice A' (n + m) c') (n + m) (xs ++ news) → w.grownBy w' v.ownBlock → ((Value.slice A' (n + m) c').ownBlock = v.ownBlock ∨ (Value.slice A' (n + m) c').ownBlock = some w.heap.size) → K (a.put o.dst (.slice A' (n + m) c')) w') :
    if Region.wanted o (yielded ops a.tmps) = true then Oper.wp P o a w K Q else E := by
  have hw : Region.wanted o (yielded ops a.tmps) = true := by simp [Region.wanted, hgd]
  rw [if_pos hw]
  refine wp_append_any w s x t ho base e i z size bytes ht hi hz hsize hby hzs hsz v n xs hs hown B A m c news hx hr h1 h63 hbytes hbase fun v' w' h2 h3 h4 => ?_
  obtain ⟨A', c', rfl⟩ := own_form h2
  exact h A' c' w' h2 h3 h4
def Rm.file (m : Rm) (i : Nat) (A : Option Addr) (c : Nat) : Rm := { m with V := fun j => if j = i then A else m.V j, vc := fun j => if j = i then c else m.vc j }
def Rm.lo (m : Rm) (A : Option Addr) (c : Nat) : Rm := { m with L := A, lc := c }
theorem rkc_file (d : Dk) (al : List (Int × Int)) (m : Rm) {i : Nat} (hi : i < 16) (l : Fl) (A : Option Addr) (n c : Nat) (hn : n = l.length) : ∀ k, k < 21 → rkCell (d.setF i l) al (m.file i A c) k = if k = i then .slice A n c else rkCell d al m k := by
  intro k hk
  subst hn
  unfold rkCell
  by_cases h1 : k < 16
  · rw [if_pos h1, if_pos h1]
    by_cases e : k = i
    · subst e
      rw [if_pos rfl, setF_same]
      simp [Rm.file]
    · rw [if_neg e, setF_other _ _ e]
      simp [Rm.file, e]
  · rw [if_neg h1, if_neg h1, if_neg (show ¬ k = i by omega)]
    rfl
theorem rkc_lo (d : Dk) (al : List (Int × Int)) (m : Rm) (l : List Ch) (A : Option Addr) (n c : Nat) (hn : n = l.length) : ∀ k, k < 21 → rkCell { d with loose := l } al (m.lo A c) k = if k = 16 then .slice A n c else rkCell d al m k := by
  intro k hk
  subst hn
  by_cases e : k = 16
  · subst e; rfl
  · rw [if_neg e]; simp [rkCell, e, Rm.lo]
/-- a file is another one -/
theorem rk_file {W : World} {S S' : Nat → Prop} {g : Nat} {m : Rm} {d : Dk} {al : List (Int × Int)} {N i n c : Nat} {A : Option Addr} {l : Fl} (h : RkAt W S g m d al N) (hi : i < 16) (hn : n = l.length) (hS : ∀ b, S b → S' b) (hlt : ∀ b, S' b → b < W.heap.size) (hr : RdS W A l) (hA : l ≠ [] → ∀ a, A = some a → S' a.block ∧ a.block ≠ g ∧ ∀ z, lbk m.L = some z → a.block ≠ z) (hok : FlOk l) :
    RkAt (W.setCell ⟨g, i, none⟩ (.slice A n c)) S' g (m.file i A c) (d.setF i l) al N := by
  have hP := h.p
  have hV : ∀ j, (m.file i A c).V j = if j = i then A else m.V j := fun j => rfl
  refine rk_make h.blk i _ (rkc_file d al m hi l A n c hn) ?_
  exact { fl := fun j hj => by
            rw [hV]
            by_cases e : j = i
            · subst e; rw [if_pos rfl, setF_same]; exact hr
            · rw [if_neg e, setF_other _ _ e]; exact hP.fl j hj
          loo := hP.loo, ard := hP.ard
          vs := fun j hj hne a ha => by
            rw [hV] at ha
            by_cases e : j = i
            · subst e; rw [if_pos rfl] at ha; rw [setF_same] at hne; exact hA hne a ha
            · rw [if_neg e] at ha; rw [setF_other _ _ e] at hne
              have := hP.vs j hj hne a ha
              exact ⟨hS _ this.1, this.2⟩
          ars := fun hne a ha => ⟨hS _ (hP.ars hne a ha).1, (hP.ars hne a ha).2⟩
          ls := fun z hz => ⟨hS _ (hP.ls z hz).1, (hP.ls z hz).2⟩
          sg := hS _ hP.sg, lt := hlt, rel := hP.rel
          ok := fun j hj => by
            by_cases e : j = i
            · subst e; rw [setF_same]; exact hok
            · rw [setF_other _ _ e]; exact hP.ok j hj
          chs := hP.chs, cN := hP.cN, pw := hP.pw }
/-- a new row of loose changes is laid -/
theorem rk_loose {W W4 : World} {S : Nat → Prop} {g : Nat} {m : Rm} {d : Dk} {al : List (Int × Int)} {N n c : Nat} {A : Option Addr} {l : List Ch} (h : RkAt W S g m d al N) (hg : W.grownBy W4 (lbk m.L)) (hn : n = l.length) (ho : W4.ownsRow 0 94 4 (.slice A n c) n (rcL l)) (ht : ∀ z, lbk A = some z → lbk m.L = some z ∨ ∀ b, S b → b ≠ z) (hchs : ∀ c ∈ l, ChOk c) (hlen : l.length ≤ 8192 * N) :
    RkAt (W4.setCell ⟨g, 16, none⟩ (.slice A n c)) (fun b => S b ∨ lbk A = some b) g (m.lo A c) { d with loose := l } al N := by
  have hP := h.p
  have hbk : ∀ b, S b → (∀ z, lbk m.L = some z → b ≠ z) → W4.heap[b]? = W.heap[b]? := fun b hs hne => hg.block b (hP.lt b hs) (fun e => hne b e.symm rfl)
  have hgb : Blk W4 g 56 (rkA d al m) := (hbk g hP.sg (fun z hz e => (hP.ls z hz).2 e.symm)).trans h.blk
  have hz2 : ∀ b, S b → (∀ z, lbk m.L = some z → b ≠ z) → ∀ z, lbk A = some z → b ≠ z := fun b hs hne z hz => by
    rcases ht z hz with h1 | h1
    · exact hne z h1
    · exact h1 b hs
  refine rk_make hgb 16 _ (rkc_lo d al m l A n c hn) ?_
  exact { fl := fun i hi => reads_keep (hP.fl i hi) hg.size (fun hne a ha => by
            have := hP.vs i hi (List.length_pos_iff.1 hne) a ha
            exact hbk _ this.1 this.2.2)
          loo := by subst hn; exact ho
          ard := reads_keep hP.ard hg.size (fun hne a ha => by
            have := hP.ars (List.length_pos_iff.1 hne) a ha
            exact hbk _ this.1 this.2.2)
          vs := fun i hi hne a ha => by
            have := hP.vs i hi hne a ha
            exact ⟨.inl this.1, this.2.1, hz2 _ this.1 this.2.2⟩
          ars := fun hne a ha => by
            have := hP.ars hne a ha
            exact ⟨.inl this.1, this.2.1, hz2 _ this.1 this.2.2⟩
          ls := fun z hz => ⟨.inr hz, fun e => hz2 g hP.sg (fun z hz e => (hP.ls z hz).2 e.symm) z hz e.symm⟩
          sg := .inl hP.sg
          lt := fun b hb => by
            rcases hb with h1 | h1
            · exact Nat.lt_of_lt_of_le (hP.lt b h1) hg.size
            · exact (ho.lt b (by rw [ownBlock_lbk]; exact h1)).2
          rel := hP.rel, ok := hP.ok, chs := hchs, cN := ⟨hP.cN.1, hlen, hP.cN.2.2⟩, pw := hP.pw }
theorem chg_info : (Try.prog.info? 94).map (fun i => (i.zero, i.size, i.bytes)) = some (some (.agg #[.int .i64 0, .int .i64 0, .bool false, .string ⟨#[]⟩]), 4, 40) := by kernel_rfl
theorem reads_four {W : World} {g : Nat} {t : TypeId} {a b c d : Value} (h : Blk W g t #[a, b, c, d]) : Reads W W.heap.size 4 (some ⟨g, 0, none⟩) 1 [a, b, c, d] := by
  refine ⟨rfl, fun _ => ⟨_, rfl, h.lt, fun j x hj => ?_⟩⟩
  have ea : (⟨g, 0, none⟩ : Addr).add j = ⟨g, j, none⟩ := by unfold Addr.add; simp; omega
  rw [ea]
  match j, hj with
  | 0, hj => simp at hj; subst hj; exact h.cell 0
  | 1, hj => simp at hj; subst hj; exact h.cell 1
  | 2, hj => simp at hj; subst hj; exact h.cell 2
  | 3, hj => simp at hj; subst hj; exact h.cell 3
  | j + 4, hj => simp at hj
theorem cell4J {W : World} {g : Nat} {t : TypeId} {a b c d : Value} (h : Blk W g t #[a, b, c, d]) : W.cell? ⟨g, 0, none⟩ = some a ∧ W.cell? ⟨g, 1, none⟩ = some b ∧ W.cell? ⟨g, 2, none⟩ = some c ∧ W.cell? ⟨g, 3, none⟩ = some d := ⟨h.cell 0, h.cell 1, h.cell 2, h.cell 3⟩
theorem does_any (A : Option Addr) (l : Fl) (n cA : Nat) (c : Ch) (w : World) (hn : n = l.length) (hl : FlOk l) (hc : ChOk c) (hR : RdS w A l) :
    Calls Try.prog 52 #[.slice A n cA, .agg (rcC c)] w (DoP w (doneF l c)) := by
  unfold doneF
  cases hcut : c.cut with
  | true => exact does_cut A l n cA c w hn hcut hl.1 hc.2.1 hR
  | false => exact does_put A l n cA c w hn hcut hl.1 (hc.2.2.1 hcut) hR
end Go.Proofs.Ytffojihhjiogpaa
