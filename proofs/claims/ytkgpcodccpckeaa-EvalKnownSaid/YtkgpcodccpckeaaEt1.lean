/- Expressions of any depth, as trees; as they lie in memory; as they come in. Conditions: those of each lemma. -/
import Derived.Test.YtkgpcodccpckeaaEv2
import Derived.Deep.Slices
import Derived.Deep.Fields
import Derived.SizedLaws
import Derived.ChangeSame
import Derived.ChangeArms
import Derived.Lib.SmallJoins
import Derived.ProofKit
import Derived.OpenShut
import Derived.ShutString
import Derived.ChangeOld
namespace Go.Proofs.Ytkgpcodccpckeaa
open Go Go.Joins Go.ChangeShapes Go.WideShapes Go.RowKit Go.Deep
set_option linter.unusedVariables false
inductive XT where
  | mk (op : Int) (v : Val) (tb nm : ByteArray) (n : Int) (A : Option Addr) (c : Nat) (ks : List XT) : XT
namespace XT
def op : XT → Int | .mk op .. => op
def v : XT → Val | .mk _ v .. => v
def n : XT → Int | .mk _ _ _ _ n .. => n
def ks : XT → List XT | .mk _ _ _ _ _ _ _ ks => ks
def ex : XT → Ex | .mk op v tb nm n A c ks => ⟨op, v, tb, nm, n, A, ks.length, c⟩
end XT
/-- a part of an expression is less than it -/
theorem xt_ind {P : XT → Prop} (h : ∀ op v tb nm n A c ks, (∀ k ∈ ks, P k) → P (.mk op v tb nm n A c ks)) : ∀ x, P x
  | .mk op v tb nm n A c ks => h op v tb nm n A c ks fun k hk => xt_ind h k
decreasing_by
  have := List.sizeOf_lt_of_mem hk
  simp
  omega
/-- how an expression lies in memory -/
inductive InT (w : World) (B : Nat) : XT → Prop
  | mk (op : Int) (v : Val) (tb nm : ByteArray) (n : Int) (A : Option Addr) (c : Nat) (ks : List XT) (h0 : 0 ≤ op ∧ op < 256) (h1 : Fits v) (h2 : -9223372036854775808 ≤ n ∧ n ≤ 9223372036854775807) (h3 : v.2.2.size ≤ 140737488351232) (h4 : ks.length ≤ maxLen) (hk : Kids w B A (ks.map XT.ex)) (hi : ∀ k ∈ ks, InT w B k) : InT w B (.mk op v tb nm n A c ks)
theorem int_below {w W : World} {B : Nat} {T : XT} (h : InT w B T) (hb : Below B w W) : InT W B T := by
  induction h with
  | mk op v tb nm n A c ks h0 h1 h2 h3 h4 hk hi ih =>
    refine .mk op v tb nm n A c ks h0 h1 h2 h3 h4 ?_ ih
    rcases hk with hk | ⟨b, o, hA, hlt, hc⟩
    · exact .inl hk
    · exact .inr ⟨b, o, hA, hlt, fun j x hx => cells8_below (hc j x hx) hb hlt⟩
theorem int_mono {w : World} {B B' : Nat} {T : XT} (h : InT w B T) (hB : B ≤ B') : InT w B' T := by
  induction h with
  | mk op v tb nm n A c ks h0 h1 h2 h3 h4 hk hi ih =>
    refine .mk op v tb nm n A c ks h0 h1 h2 h3 h4 ?_ ih
    rcases hk with hk | ⟨b, o, hA, hlt, hc⟩
    · exact .inl hk
    · exact .inr ⟨b, o, hA, by omega, hc⟩
theorem int_step {w W : World} {T : XT} (h : InT w w.heap.size T) (hb : Below w.heap.size w W) : InT W W.heap.size T := int_mono (int_below h hb) hb.size
/-- how many parts an expression has -/
def XT.cnt : XT → Nat
  | .mk _ _ _ _ _ _ _ ks => 1 + (ks.attach.map fun k => k.1.cnt).sum
decreasing_by
  have := List.sizeOf_lt_of_mem k.2
  simp
  omega
section
variable {H : Type} {enc : TypeId × Value → H} {W : World} {base : Nat} {sp : Nat → Bool} {held : Bool}
theorem wf_u8e {x : Int} (h : (Lit.int .u8 x).wf = true) : 0 ≤ x ∧ x < 256 := by
  have h2 : IntKind.u8.min = 0 := rfl
  have h3 : IntKind.u8.max = 255 := rfl
  simp [Lit.wf, h2, h3] at h
  omega
theorem wf_i64e {x : Int} (h : (Lit.int .i64 x).wf = true) : -9223372036854775808 ≤ x ∧ x ≤ 9223372036854775807 := by
  have h2 : IntKind.i64.min = -9223372036854775808 := rfl
  have h3 : IntKind.i64.max = 9223372036854775807 := rfl
  simp [Lit.wf, h2, h3] at h
  omega
theorem cell_lt {w : World} {b o : Nat} {v : Value} (h : w.cell? ⟨b, o, none⟩ = some v) : b < w.heap.size := by
  rcases Nat.lt_or_ge b w.heap.size with hlt | hge
  · exact hlt
  · simp [World.cell?, Array.getElem?_eq_none hge] at h
theorem all_mem {P : Program} {e : TypeId} {m : Nat} : ∀ {l : List (DataW H)} {d : DataW H}, d ∈ l → m ∈ DataW.weights P e d → m ∈ DataW.weightsAll P e l
  | a :: l, d, hd, hm => by
    rw [DataW.weightsAll]
    rcases List.mem_cons.1 hd with rfl | hd
    · exact List.mem_append_left _ hm
    · exact List.mem_append_right _ (all_mem hd hm)
theorem w_slice {P : Program} {t e : TypeId} (ht : P.underlying t = some (.slice e)) {es rs : List (DataW H)} {d : DataW H} (hd : d ∈ es) {q : Nat} (hq : q ∈ DataW.weights P e d) : q ∈ DataW.weights P t (.slice es rs) := by
  rw [DataW.weights, ht]
  exact List.mem_cons_of_mem _ (List.mem_append_left _ (all_mem hd hq))
theorem w_struct {P : Program} {t : TypeId} {fs : Array Field} (ht : P.underlying t = some (.struct fs)) {ds : List (DataW H)} {q : Nat} (hq : q ∈ DataW.weightsEach P (fs.toList.map (·.type)) ds) : q ∈ DataW.weights P t (.agg ds) := by
  rw [DataW.weights, ht]
  exact hq
theorem xts_list {w : World} {B b o : Nat} (n : Nat) (h : ∀ i, i < n → ∃ x : XT, Cells8 w b (o + i * 8) x.ex ∧ InT w B x) :
    ∃ l : List XT, l.length = n ∧ (∀ (j : Nat) x, l[j]? = some x → Cells8 w b (o + j * 8) x.ex) ∧ ∀ x ∈ l, InT w B x := by
  induction n with
  | zero => exact ⟨[], rfl, fun j x hx => by simp at hx, fun x hx => by simp at hx⟩
  | succ n ih =>
    obtain ⟨l, hl, hc, hq⟩ := ih (fun i hi => h i (by omega))
    obtain ⟨y, h1, h3⟩ := h n (by omega)
    refine ⟨l ++ [y], by rw [List.length_append, hl]; rfl, fun j x hx => ?_, fun x hx => ?_⟩
    · by_cases hj : j < l.length
      · rw [List.getElem?_append_left hj] at hx
        exact hc j x hx
      · rw [List.getElem?_append_right (by omega)] at hx
        have hj0 : j - l.length = 0 := by
          by_cases e : j - l.length = 0
          · exact e
          · rw [List.getElem?_eq_none (by simp; omega)] at hx; cases hx
        rw [hj0] at hx
        simp only [List.getElem?_cons_zero, Option.some.injEq] at hx
        subst hx
        obtain rfl : j = n := by omega
        exact h1
    · rcases List.mem_append.1 hx with hx | hx
      · exact hq x hx
      · rw [List.mem_singleton.1 hx]; exact h3
set_option maxRecDepth 100000 in
set_option maxHeartbeats 2000000 in
/-- one expression's cells, its kids' by the induction -/
theorem open_ex : ∀ (fuel : Nat) (cs : List Value) (x : DataW H × List MemPlace), DataW.trod enc Try.prog W base sp held fuel 29 cs = some x → (∀ q ∈ DataW.weights Try.prog 29 x.1, q ≤ reachBytes) → ∃ T : XT, cs = (exC T.ex).toList ∧ InT W W.heap.size T := by
  intro fuel
  induction fuel using Nat.strongRecOn with
  | ind fuel ih =>
    intro cs x h hw
    obtain ⟨xs, n, rfl, rfl, hcl, hxl, hf⟩ := DataW.trod_struct Try.underlying29 h
    rw [show Try.prog.cellsOf 29 = 8 by kernel_rfl] at hcl
    match cs, hcl with
    | [c0, c1, c2, c3, c4, c5, c6, c7], _ =>
      match xs, hxl with
      | [y0, y1, y2, y3, y4, y5], _ =>
        have t0 := hf 0 _ rfl
        have t1 := hf 1 _ rfl
        have t2 := hf 2 _ rfl
        have t3 := hf 3 _ rfl
        have t4 := hf 4 _ rfl
        have t5 := hf 5 _ rfl
        have q0 : Try.prog.cellsOf 5 = 1 := by kernel_rfl
        have q1 : Try.prog.cellsOf 23 = 3 := by kernel_rfl
        have q2 : Try.prog.cellsOf 9 = 1 := by kernel_rfl
        have q3 : Try.prog.cellsOf 3 = 1 := by kernel_rfl
        have q4 : Try.prog.cellsOf 27 = 1 := by kernel_rfl
        have q5 : Try.prog.cellsOf 2 = 1 := by kernel_rfl
        simp [q0, q1, q2, q3, q4] at t0 t1 t2 t3 t4 t5
        obtain ⟨op, e0, _, w0⟩ := DataW.trod_int Try.underlying5 t0
        obtain ⟨tb, e2, _, _⟩ := DataW.trod_string Try.underlying9 t2
        obtain ⟨nm, e3, _, _⟩ := DataW.trod_string Try.underlying9 t3
        obtain ⟨nn, e4, _, w4⟩ := DataW.trod_int Try.underlying3 t4
        obtain ⟨us, n1, _, hu, _, hul, hg⟩ := DataW.trod_struct Try.underlying23 t1
        match us, hul with
        | [u0, u1, u2], _ =>
          have s0 := hg 0 _ rfl
          have s1 := hg 1 _ rfl
          have s2 := hg 2 _ rfl
          simp [q0, q2, q5] at s0 s1 s2
          obtain ⟨vk, f0, _, x0⟩ := DataW.trod_int Try.underlying5 s0
          obtain ⟨vn, f1, _, x1⟩ := DataW.trod_int Try.underlying2 s1
          obtain ⟨vs, f2, gu2, _⟩ := DataW.trod_string Try.underlying9 s2
          simp only [List.cons.injEq, and_true] at e0 e2 e3 e4 f0 f1 f2
          subst e0 e2 e3 e4 f0 f1 f2
          have hwe : ∀ q ∈ DataW.weightsEach Try.prog [5, 23, 9, 9, 3, 27] [y0.1, y1.1, y2.1, y3.1, y4.1, y5.1], q ≤ reachBytes := fun q hq => hw q (by
            show q ∈ DataW.weights Try.prog 29 (.agg [y0.1, y1.1, y2.1, y3.1, y4.1, y5.1])
            rw [DataW.weights, Try.underlying29]
            exact hq)
          have hvs : vs.size ≤ 140737488351232 := by
            have h1 := hwe vs.data.toList.length (DataW.weights_mem_each (j := 1) rfl rfl _ (by
              rw [hu]
              show _ ∈ DataW.weights Try.prog 23 (.agg [u0.1, u1.1, u2.1])
              rw [DataW.weights, Try.underlying23]
              exact DataW.weights_mem_each (ts := [5, 2, 9]) (j := 2) (t := 9) rfl rfl _ (by rw [gu2]; simp [DataW.weights])))
            simpa [reachBytes] using h1
          have hkw0 : ∀ q ∈ DataW.weights Try.prog 27 y5.1, q ≤ reachBytes := fun q hq => hwe q (DataW.weights_mem_each (j := 5) rfl rfl q hq)
          have hfits : Fits (vk, vn, vs) := ⟨(wf_u8e x0).1, (wf_u8e x0).2, (wf_i64e x1).1, (wf_i64e x1).2⟩
          rcases DataW.trod_slice Try.underlying27 t5 with ⟨hc, _⟩ | ⟨a, len, cap, elems, rest, n2, hn2, hc, hy5, _, hlc, hcm, hel, hat, _, _⟩
          · injection hc with hc _
            subst hc
            exact ⟨.mk op (vk, vn, vs) tb nm nn none 0 [], rfl, .mk _ _ _ _ _ _ _ _ (wf_u8e w0) hfits (wf_i64e w4) hvs (Nat.zero_le _) (.inl rfl) (fun k hk => by cases hk)⟩
          · injection hc with hc _
            subst hc
            rw [hy5] at hkw0
            have hkw : ∀ q ∈ DataW.weights Try.prog 27 (.slice (elems.map (·.1)) (rest.map (·.1))), q ≤ reachBytes := hkw0
            clear hkw0 hwe hw
            rw [show Try.prog.cellsOf 29 = 8 by kernel_rfl] at hat
            by_cases h0 : len = 0
            · subst h0
              exact ⟨.mk op (vk, vn, vs) tb nm nn (some a) cap [], rfl, .mk _ _ _ _ _ _ _ _ (wf_u8e w0) hfits (wf_i64e w4) hvs (Nat.zero_le _) (.inl rfl) (fun k hk => by cases hk)⟩
            · have kid : ∀ i, i < len → ∃ x : XT, (∀ j v, (exC x.ex)[j]? = some v → W.cell? (a.add (i * 8 + j)) = some v) ∧ InT W W.heap.size x := by
                intro i hi
                have hi2 := hat i hi
                have he : elems[i]? = some (elems[i]'(by omega)) := List.getElem?_eq_getElem (by omega)
                rw [he] at hi2
                obtain ⟨cs', hcs, htr⟩ := Option.bind_eq_some_iff.1 hi2
                have hmem : (elems[i]'(by omega)).1 ∈ elems.map (·.1) := List.mem_map_of_mem (List.getElem_mem _)
                have hww : ∀ q ∈ DataW.weights Try.prog 29 (elems[i]'(by omega)).1, q ≤ reachBytes := fun q hq => hkw q (w_slice Try.underlying27 hmem hq)
                obtain ⟨x, hx, hin⟩ := ih n2 (by omega) cs' _ htr hww
                obtain ⟨_, hcl', hcell⟩ := World.cells?_some hcs
                refine ⟨x, fun j v hv => ?_, hin⟩
                have hj : j < 8 := by
                  rcases Nat.lt_or_ge j 8 with h | h
                  · exact h
                  · rw [Array.getElem?_eq_none (by simpa using h)] at hv; cases hv
                have := hcell j hj
                rw [← Go.Deep.add_add, this, hx]
                simpa using hv
              obtain ⟨b, o, spot⟩ := a
              obtain ⟨x0', hx0, _⟩ := kid 0 (by omega)
              have hspot : spot = none := by simpa [Addr.add] using World.cell?_spot (hx0 0 _ rfl)
              subst hspot
              have ea : ∀ i, (⟨b, o, none⟩ : Addr).add i = ⟨b, o + i, none⟩ := fun i => by unfold Addr.add; split <;> simp_all
              have hblk : b < W.heap.size := by
                have q := hx0 0 _ rfl
                rw [ea] at q
                exact cell_lt q
              obtain ⟨l, hl1, hl2, hl3⟩ := xts_list (w := W) (B := W.heap.size) (b := b) (o := o) len (fun i hi => by
                obtain ⟨x, hx, hin⟩ := kid i hi
                have e : ∀ j v, (exC x.ex)[j]? = some v → W.cell? ⟨b, o + i * 8 + j, none⟩ = some v := fun j v hv => by
                  have := hx j v hv
                  rw [ea, ← Nat.add_assoc] at this
                  exact this
                exact ⟨x, ⟨e 0 _ rfl, e 1 _ rfl, e 2 _ rfl, e 3 _ rfl, e 4 _ rfl, e 5 _ rfl, e 6 _ rfl, e 7 _ rfl⟩, hin⟩)
              refine ⟨.mk op (vk, vn, vs) tb nm nn (some ⟨b, o, none⟩) cap l, by rw [XT.ex, hl1], .mk _ _ _ _ _ _ _ _ (wf_u8e w0) hfits (wf_i64e w4) hvs (by omega) (.inr ⟨b, o, rfl, hblk, fun j x hx => ?_⟩) hl3⟩
              rw [List.getElem?_map] at hx
              cases hj : l[j]? with
              | none => rw [hj] at hx; cases hx
              | some y =>
                rw [hj] at hx
                simp only [Option.map_some, Option.some.injEq] at hx
                subst hx
                exact hl2 j y hj
end
end Go.Proofs.Ytkgpcodccpckeaa
