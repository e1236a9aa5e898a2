/- Rows of rows, put together by append. Conditions: those of each lemma. -/
import Derived.Test.YtkgpcodccpckeaaEg8
import Derived.Deep.RegionLaw
import Derived.Deep.AppendLies
namespace Go.Proofs.Ytkgpcodccpckeaa
open Go Go.RowKit
set_option linter.unusedVariables false
set_option linter.unusedSimpArgs false
theorem step_append_any {P : Program} (w : World) {ops : Array Oper} {o : Oper} {a : Act} {K : Act → World → Prop} {Q : Exit → Act → World → Prop} {E : Prop} (hgd : o.guard = none) (s x : Operand) (t : TypeId)
    (ho : o.op = .call { callee := .builtin .append, args := #[s, x], argTypes := #[t, t] })
    (base : Nat) (e : TypeId) (i : TypeInfo) (z : Value) (size bytes : Nat) (ht : P.underlying t = some (.slice e)) (hi : P.info? e = some i) (hz : i.zero = some z)
    (hsize : i.size = size) (hby : i.bytes = bytes) (hzs : z.cells.size = size) (hsz : 0 < size)
    (v : Value) (n : Nat) (xs : List Value) (hs : a.eval s = v) (hown : w.ownsRow base e size v n xs)
    (B : Nat) (A : Option Addr) (m c : Nat) (news : List Value) (hx : a.eval x = .slice A m c) (hr : Reads w B size A m news) (h1 : ∀ u ∈ news, u.oneCell' = true)
    (h63 : n + m ≤ maxLen) (hbytes : (n + m) * bytes ≤ 140737488355328) (hbase : base ≤ w.heap.size)
    (h : ∀ A' c' w', w'.ownsRow base e size (.slice A' (n + m) c') (n + m) (xs ++ news) → w.grownBy w' v.ownBlock → K (a.put o.dst (.slice A' (n + m) c')) w') :
    if Region.wanted o (yielded ops a.tmps) = true then Oper.wp P o a w K Q else E := by
  have hw : Region.wanted o (yielded ops a.tmps) = true := by simp [Region.wanted, hgd]
  rw [if_pos hw]
  refine wp_append_any w s x t ho base e i z size bytes ht hi hz hsize hby hzs hsz v n xs hs hown B A m c news hx hr h1 h63 hbytes hbase fun v' w' h2 h3 h4 => ?_
  obtain ⟨A', c', rfl⟩ := own_form h2
  exact h A' c' w' h2 h3
theorem grown_below {w6 W W' : World} {g : Nat} (hb : Below w6.heap.size w6 W) (hg : W.grownBy W' (Value.slice (some ⟨g, 0, none⟩) 0 0).ownBlock) (h : w6.heap.size ≤ g) : Below w6.heap.size w6 W' :=
  hb.grown hg hb.size (fun k hk => by simp [Value.ownBlock] at hk; omega)
theorem below_grown {w W W' : World} {row : Option Nat} (hb : Below w.heap.size w W) (hg : W.grownBy W' row) (hr : ∀ k, row = some k → w.heap.size ≤ k) : Below w.heap.size w W' := hb.grown hg hb.size hr
def slCs (rs : List Rw) : List Value := rs.map fun r => .slice r.A r.l.length r.c
theorem slCs_len (rs : List Rw) : (slCs rs).length = rs.length := by unfold slCs; simp
theorem slCs_append (a b : List Rw) : slCs (a ++ b) = slCs a ++ slCs b := by unfold slCs; simp
theorem slCs_one (rs : List Rw) : ∀ u ∈ slCs rs, u.oneCell' = true := by
  intro u hu
  obtain ⟨x, _, rfl⟩ := List.mem_map.1 hu
  rfl
theorem slCs_get {rs : List Rw} {j : Nat} {u : Value} (h : (slCs rs)[j]? = some u) : ∃ r, rs[j]? = some r ∧ u = .slice r.A r.l.length r.c := by
  unfold slCs at h
  rw [List.getElem?_map] at h
  cases hr : rs[j]? with
  | none => rw [hr] at h; cases h
  | some r => rw [hr] at h; exact ⟨r, rfl, by simpa using h.symm⟩
theorem rws_reads {W : World} {A : Option Addr} {rs : List Rw} (h : Rws W W.heap.size A rs) : Reads W W.heap.size 1 A rs.length (slCs rs) := by
  refine ⟨by rw [slCs_len, Nat.mul_one], fun hpos => ?_⟩
  obtain ⟨b, o, rfl, hlt, hc⟩ := rws_get h (fun e => by rw [e] at hpos; simp at hpos)
  refine ⟨_, rfl, hlt, fun j u hu => ?_⟩
  obtain ⟨r, h1, rfl⟩ := slCs_get hu
  have ea : ∀ i, (⟨b, o, none⟩ : Addr).add i = ⟨b, o + i, none⟩ := fun i => by unfold Addr.add; split <;> simp_all
  rw [ea]
  exact (hc j r h1).1
theorem rws_ok {w : World} {B : Nat} {A : Option Addr} {rs : List Rw} (h : Rws w B A rs) : ∀ r ∈ rs, RwOk w B r := by
  intro r hr
  rcases h with e | ⟨b, o, _, _, hc⟩
  · rw [e] at hr; cases hr
  · obtain ⟨j, hj⟩ := List.mem_iff_getElem?.1 hr
    exact (hc j r hj).2
theorem rws_of_own {W : World} {base : Nat} {e : TypeId} {A : Option Addr} {n c : Nat} {rs : List Rw} (h : W.ownsRow base e 1 (.slice A n c) n (slCs rs)) (hl : rs.length = n) (hok : ∀ r ∈ rs, RwOk W W.heap.size r) : Rws W W.heap.size A rs := by
  by_cases h0 : n = 0
  · exact .inl (List.eq_nil_of_length_eq_zero (by omega))
  · obtain ⟨g, cap, hv, hb, hlt⟩ := h.form (by omega)
    injection hv with hA hn hc
    subst hA
    refine .inr ⟨g, 0, rfl, hlt, fun j r hr => ?_⟩
    have h1 : (slCs rs)[j]? = some (.slice r.A r.l.length r.c) := by unfold slCs; rw [List.getElem?_map, hr]; rfl
    have c1 := h.cells (g := g) rfl _ _ h1
    have ea : ∀ i, (⟨g, 0, none⟩ : Addr).add i = ⟨g, 0 + i, none⟩ := fun i => by unfold Addr.add; split <;> simp_all
    rw [ea] at c1
    exact ⟨c1, hok r (List.mem_of_getElem? hr)⟩
theorem own_e1 {W : World} {base g : Nat} (h : Blk W g 42 #[]) (hb : base ≤ g) : W.ownsRow base 42 1 (.slice (some ⟨g, 0, none⟩) 0 0) 0 [] :=
  ⟨rfl, .inr ⟨g, 0, #[], rfl, hb, h, Nat.le_refl _, by unfold maxLen; omega, rfl, rfl⟩⟩
/-- a store into a block of another type lets the row be -/
theorem own_other {W : World} {base g n : Nat} {v : Value} {xs : List Value} {cs : Array Value} (h : W.ownsRow base 42 1 v n xs) (hg : Blk W g 43 cs) (u : Value) : (W.setCell ⟨g, 0, none⟩ u).ownsRow base 42 1 v n xs := by
  obtain ⟨hl, h | ⟨g', cap, cur, hv, hbg, hg', hr⟩⟩ := h
  · exact ⟨hl, .inl h⟩
  · have hne : g' ≠ g := Blk.ne_ (show Blk W g' 42 cur from hg') hg (by decide)
    exact ⟨hl, .inr ⟨g', cap, cur, hv, hbg, Blk.far (p := ⟨g, 0, none⟩) hg' hne u, hr⟩⟩
end Go.Proofs.Ytkgpcodccpckeaa
