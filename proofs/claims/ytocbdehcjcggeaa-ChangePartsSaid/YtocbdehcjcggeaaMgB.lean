/- Layer 22: Merge, Invert, Concat, Put. Conditions: those of each lemma. -/
import Derived.Test.YtocbdehcjcggeaaMgA
import Derived.Deep.RegionWith
import Derived.Carry
import Derived.BigRegion
import Derived.Lib.AppendZeros
import Derived.Test.YtocbdehcjcggeaaRec4
import Derived.Test.YtocbdehcjcggeaaNumTake
namespace Go.Proofs.Ytocbdehcjcggeaa
open Go.RowKit Go
set_option linter.unusedVariables false
set_option linter.unusedSimpArgs false
/-- in the midst of Merge: list, map, what they come to -/
structure Mg (w : World) (l : List Cg) (gm : Nat) (j : Nat) (acc : List Cg) (v : Value) (W : World) : Prop where
  own : W.ownsRow w.heap.size 33 4 v acc.length (cgCs acc)
  ne : v.ownBlock ≠ some gm
  map : ∃ D, W.ownsMap Try.prog 63 heldR gm acc.length D ∧ KM D acc
  b : Below w.heap.size w W
  ok : ∀ x ∈ acc, CgIn w w.heap.size x ∧ FitC x ∧ KeyOk x
  st : mergeA [] l = mergeA acc (l.drop j)
  le : acc.length ≤ j
  gm : w.heap.size ≤ gm
theorem map_below {W W' : World} {gm n : Nat} {D : DataW Value} (h : W.ownsMap Try.prog 63 heldR gm n D) (hb : Below W.heap.size W W') : W'.ownsMap Try.prog 63 heldR gm n D := by
  have hlt := h.lt
  obtain ⟨es, clock, h1, F, hs, hD⟩ := h
  exact ⟨es, clock, (hb.block gm hlt).trans h1, F, hs, hD⟩
theorem mg_step {w W W' : World} {l : List Cg} {gm j : Nat} {acc : List Cg} {v : Value} (h : Mg w l gm j acc v W) (hb : Below W.heap.size W W') : Mg w l gm j acc v W' :=
  ⟨own_below h.own hb, h.ne, h.map.elim fun D hD => ⟨D, map_below hD.1 hb, hD.2⟩, bj h.b hb, h.ok, h.st, h.le, h.gm⟩
theorem reads4 (W : World) (x : Cg) : Reads (W.alloc (.cells (cgC x) 33)) (W.heap.size + 1) 4 (some ⟨W.heap.size, 0, none⟩) 1 (cgE x) := by
  refine ⟨rfl, fun _ => ⟨_, rfl, by simp, fun j v hj => ?_⟩⟩
  have hb := Blk.new W 33 (cgC x)
  match j, hj with
  | 0, hj => simp at hj; subst hj; exact hb.cell 0
  | 1, hj => simp at hj; subst hj; simp [Addr.add]
  | 2, hj => simp at hj; subst hj; simp [Addr.add]
  | 3, hj => simp at hj; subst hj; simp [Addr.add]
theorem mg_start (w : World) (l : List Cg) : Mg w l w.heap.size 0 [] (.slice none 0 0) (w.alloc (.map #[] 0)) :=
  ⟨World.ownsRow_nil _ _ _ _, by simp [Value.ownBlock], ⟨_, World.ownsMap_made w Try.prog 63 heldR, km_empty⟩, one_allocC, fun x hx => by simp at hx, rfl, Nat.le_refl _, Nat.le_refl _⟩
theorem heldR_int {v : Value} {i : Int} {ps : List MemPlace} (h : heldR v = some (.held (.int .i64 i), ps)) : v = .int .i64 i := by
  simp only [heldR, Option.some.injEq, Prod.mk.injEq, DataW.held.injEq] at h
  exact h.1
/-- the list's cells are nobody's map -/
theorem own_ne_map {W : World} {base gm n k : Nat} {v : Value} {xs : List Value} {D : DataW Value} (h : W.ownsRow base 33 4 v k xs) (hm : W.ownsMap Try.prog 63 heldR gm n D) : v.ownBlock ≠ some gm := by
  intro e
  obtain ⟨es, clock, h1, _⟩ := hm
  rcases h.2 with ⟨hv, _⟩ | ⟨g, cap, cur, hv, _, hg, _⟩
  · rw [hv] at e; cases e
  · rw [hv] at e
    simp only [Value.ownBlock, Option.some.injEq] at e
    subst e
    rw [h1] at hg
    cases hg
def SortedC (l : List Cg) : Prop := ∀ (i j : Nat) x y, i < j → l[i]? = some x → l[j]? = some y → cgCmp x y ≤ 0
def MergeP (w : World) (l : List Cg) (e : Ending) (w' : World) : Prop :=
  Below w.heap.size w w' ∧ match mergeA [] l with
  | none => e = .returned (.tuple #[.slice none 0 0, .int .i64 220])
  | some acc => ∃ l', l'.Perm (keepL acc) ∧ SortedC l' ∧ (∀ x ∈ l', FitC x ∧ KeyOk x) ∧ (chkG l' ≠ 0 → e = .returned (.tuple #[.slice none 0 0, .int .i64 (chkG l')])) ∧
      (chkG l' = 0 → ∃ A k c', e = .returned (.tuple #[.slice A k c', .int .i64 0]) ∧ k = l'.length ∧ Cgs w' w'.heap.size A l')
theorem cgs_of_own {w W : World} {base n cap : Nat} {A : Option Addr} {l : List Cg} (h : W.ownsRow base 33 4 (.slice A n cap) n (cgCs l)) (hn : n = l.length) (hI : ∀ x ∈ l, CgIn W W.heap.size x) : Cgs W W.heap.size A l := by
  rcases h.2 with ⟨hv, h0⟩ | ⟨g, cap', cur, hv, _, hg, _⟩
  · exact .inl (List.eq_nil_of_length_eq_zero (by omega))
  · simp only [Value.slice.injEq] at hv
    obtain ⟨rfl, _, rfl⟩ := hv
    refine .inr ⟨g, 0, rfl, (h.lt g rfl).2, fun j x hx => ⟨?_, hI x (List.mem_of_getElem? hx)⟩⟩
    rw [Nat.zero_add]
    exact own_cells h hn hx
theorem zeroInt (w : World) : (zeroValue 3).run Try.prog w = .ok (.int .i64 0) w := by kernel_rfl
theorem cgCs_setN : ∀ (m : List Cg) (i : Nat) (x c : Cg), m[i]? = some x → (cgCs m).set (i * 4 + 3) (.slice c.nA c.n.length c.nc) = cgCs (m.set i (newN x c))
  | [], i, x, c, h => by simp at h
  | y :: m, 0, x, c, h => by
    simp only [List.getElem?_cons_zero, Option.some.injEq] at h
    subst h
    simp [cgCs_cons, newN]
  | y :: m, i + 1, x, c, h => by
    have ih := cgCs_setN m i x c (by simpa using h)
    rw [List.set_cons_succ, cgCs_cons, cgCs_cons, ← ih]
    have e0 : (i + 1) * 4 + 3 = i * 4 + 3 + 1 + 1 + 1 + 1 := by omega
    rw [e0]
    simp [cgE]
theorem set_mem {α : Type} {l : List α} {i : Nat} {a x : α} (h : x ∈ l.set i a) : x ∈ l ∨ x = a := List.mem_or_eq_of_mem_set h
set_option maxRecDepth 100000 in
set_option maxHeartbeats 16000000 in
theorem merge_any (A : Option Addr) (l : List Cg) (n c : Nat) (w : World) (hO : Cgs w w.heap.size A l) (hn : n = l.length) (hsm : n ≤ 1000) (hfit : ∀ x ∈ l, FitC x) (hkey : ∀ x ∈ l, KeyOk x) :
    Calls Try.prog 12 #[.slice A n c] w (MergeP w l) := by
  obtain ⟨iv, hv1, hv2, hv3, hv4⟩ := info_parts (show (Try.prog.info? 33).map (fun i => (i.zero, i.size, i.bytes)) = some (some (.agg #[.string ⟨#[]⟩, .slice none 0 0, .slice none 0 0, .slice none 0 0]), 4, 88) by kernel_rfl)
  have HN := Lib.hid hn
  have HO := Lib.hid hO
  have HF := Lib.hid hfit
  have HK := Lib.hid hkey
  have hnI : (n : Int) ≤ 1000 := by omega
  have HM0 := Lib.hid (mg_start w l)
  clear hO hfit hkey hn
  go_enter Try.func12, Try.ntmps12
  have hmm := @run_makeMap Try.prog
  go_wp2
  clear hmm
  go_loopw [5, 14] (fun v i wr => ∃ (j : Nat) (acc : List Cg), j ≤ n ∧ i = .int .i64 j ∧ Mg w l w.heap.size j acc v wr) (fun _ i _ => n - (intOf i).toNat)
  case atStart => exact ⟨0, [], by omega, rfl, HM0.out⟩
  case round =>
    obtain ⟨j, acc, hj, rfl, hmg⟩ := hrel
    obtain ⟨A1, c1, rfl⟩ := own_form hmg.own
    by_cases hjn : j < n
    · have hlt : j < l.length := by have := HN.out; omega
      obtain ⟨b, o, rfl, hbl, hcs⟩ := cgs_get HO.out (fun e => by rw [e] at hlt; simp at hlt)
      have hI := (hcs w (Below.refl _ _) j l[j] (List.getElem?_eq_getElem hlt)).2
      obtain ⟨⟨a0, a1, a2, a3⟩, _⟩ := hcs wr hmg.b j l[j] (List.getElem?_eq_getElem hlt)
      have HFX := Lib.hid (HF.out _ (List.getElem_mem hlt))
      have HKX := Lib.hid (HK.out _ (List.getElem_mem hlt))
      have HDR := Lib.hid (mergeA_drop hlt acc)
      generalize l[j] = X at *
      have HI := Lib.hid hI
      have hjI : (j : Int) < n := by omega
      have HRO := Lib.hid (show ∀ W, Below w.heap.size w W → Calls Try.prog 29 #[.agg (cgC X)] W fun e w' => e = .returned (.agg #[.string X.t, .string (bstr (kbL X.k))]) ∧ Below W.heap.size W w' from fun W hb =>
        rowOf_any X W (cgIn_mono (cgIn_below HI.out hb) hb.size) HKX.out.le HKX.out.ne HKX.out.fit)
      have HKR := Lib.hid (key_row HKX.out)
      have HM1 := Lib.hid (mg_step hmg (one_allocC (o := .cells (cgC X) 33)))
      have HB1 := Lib.hid (Blk.new wr 33 (cgC X))
      have HGM := Lib.hid (show w.heap.size < wr.heap.size from hmg.map.elim fun D hD => hD.1.lt)
      clear hcs hI hlt hmg hbl
      go_wp2_with fail
      refine (HRO.out _ HM1.out.b).mono ?_
      rintro e w2 ⟨rfl, hb2⟩
      have HM2 := Lib.hid (mg_step HM1.out hb2)
      have HB2 := Lib.hid (HB1.out.below hb2 (by simp))
      obtain ⟨D, hD, hKM⟩ := HM2.out.map
      obtain ⟨vv, ps, hrun, hv⟩ := hD.look_ok keyedR Try.underlying60 (zeroInt w2) (zd := .held (.int .i64 0)) (zp := []) rfl HKR.out
      rw [km_has hKM (fun x hx => (HM2.out.ok x hx).2.2) HKX.out] at hrun
      have p0 : w2.cell? ⟨wr.heap.size, 0, none⟩ = some (.string X.t) := HB2.out.cell 0
      have p1 : w2.cell? ⟨wr.heap.size, 1, none⟩ = some (.slice X.kA X.k.length X.kc) := HB2.out.cell 1
      have p2 : w2.cell? ⟨wr.heap.size, 2, none⟩ = some (.slice X.oA X.o.length X.oc) := HB2.out.cell 2
      have p3 : w2.cell? ⟨wr.heap.size, 3, none⟩ = some (.slice X.nA X.n.length X.nc) := HB2.out.cell 3
      clear a0 a1 a2 a3 hb2
      rcases hfi : acc.findIdx? (fun x => decide (SameK x X)) with _ | i
      · rw [hfi] at hrun
        have HFI := Lib.hid hfi
        clear hfi hv hD hKM
        simp only [Option.isSome_none] at hrun
        go_wp2_with fail
        refine (HRO.out _ HM2.out.b).mono ?_
        rintro e w3 ⟨rfl, hb3⟩
        have HM3 := Lib.hid (mg_step HM2.out hb3)
        have HB3 := Lib.hid (HB2.out.below hb3 HB2.out.lt)
        obtain ⟨D3, hD3, hKM3⟩ := HM3.out.map
        have hle3 := HM3.out.le
        obtain ⟨w4, hrun4, hown4, hgr4⟩ := hD3.update keyedR Try.underlying60 (by unfold maxLen; omega) (key := .agg #[.string X.t, .string (bstr (kbL X.k))]) (val := .int .i64 (acc.length : Int)) HKR.out (d := .held (.int .i64 (acc.length : Int))) (ps := []) rfl
        have HOM4 := Lib.hid (hown4.alloc (.cells (cgC X) 33))
        have HKM4 := Lib.hid (km_snoc hKM3 (fun x hx => (HM3.out.ok x hx).2.2) HKX.out HFI.out)
        have HOW4 := Lib.hid ((HM3.out.own.kept hgr4 (.inr HM3.out.ne)).alloc (.cells (cgC X) 33))
        have HBL4 := Lib.hid (HM3.out.b.grown hgr4 HM3.out.b.size (fun k hk => by injection hk with hk; omega))
        have HBB4 := Lib.hid (bj HBL4.out (one_allocC (o := .cells (cgC X) 33)))
        have hne4 : some wr.heap.size ≠ some w.heap.size := fun e => by have := HGM.out; injection e with e; omega
        have q0 : w3.cell? ⟨wr.heap.size, 0, none⟩ = some (.string X.t) := HB3.out.cell 0
        have q1 : w3.cell? ⟨wr.heap.size, 1, none⟩ = some (.slice X.kA X.k.length X.kc) := HB3.out.cell 1
        have q2 : w3.cell? ⟨wr.heap.size, 2, none⟩ = some (.slice X.oA X.o.length X.oc) := HB3.out.cell 2
        have q3 : w3.cell? ⟨wr.heap.size, 3, none⟩ = some (.slice X.nA X.n.length X.nc) := HB3.out.cell 3
        have p0 := hgr4.cell q0 hne4
        have p1 := hgr4.cell q1 hne4
        have p2 := hgr4.cell q2 hne4
        have p3 := hgr4.cell q3 hne4
        have hrd := reads4 w4 X
        have hbs := HBB4.out.size
        have hST : Hid (mergeA [] l = mergeA (acc ++ [X]) (l.drop (j + 1))) := Lib.hid (by rw [HM3.out.st, HDR.out]; unfold putC; rw [HFI.out])
        clear hb3 hD3 hKM3 hown4 hgr4 hrun q0 q1 q2 q3 hne4
        go_wp2_with (at_builtin; refine wpList_append_any _ rfl (.tmp 32) (.tmp 34) 28 rfl w.heap.size 33 iv _ 4 88 Try.underlying28 hv1 hv2 hv3 hv4 rfl (by omega) _ acc.length (cgCs acc) rfl HOW4.out (w4.heap.size + 1) (some ⟨w4.heap.size, 0, none⟩) 1 1 (cgE X) rfl hrd (by intro u hu; simp at hu; rcases hu with rfl | rfl | rfl | rfl <;> rfl) (by simp only [maxLen]; omega) (by omega) hbs ?_; intro v1 w6 hown1 hg1 hat1; obtain ⟨A2, c2, rfl⟩ := own_form hown1; (have HW6 := Lib.hid hown1); (have HG6 := Lib.hid hg1); clear hown1 hg1 hat1 hrd)
        go_roundw
        case rel =>
          have hM6 := HOM4.out.kept HG6.out (Ne.symm HM3.out.ne)
          have hO6 : w6.ownsRow w.heap.size 33 4 (.slice A2 (acc.length + 1) c2) (acc ++ [X]).length (cgCs (acc ++ [X])) := by rw [cgCs_snoc, List.length_append]; exact HW6.out
          refine ⟨j + 1, acc ++ [X], by omega, by go_num, ⟨hO6, own_ne_map hO6 hM6, ⟨_, by rw [List.length_append]; exact hM6, HKM4.out⟩, HBB4.out.grown HG6.out HBB4.out.size (fun k hk => (HM3.out.own.lt k hk).1), fun x hx => ?_, hST.out, by rw [List.length_append]; simp; omega, Nat.le_refl _⟩⟩
          rcases List.mem_append.1 hx with hx | hx
          · exact HM3.out.ok x hx
          · rw [List.mem_singleton.1 hx]; exact ⟨HI.out, HFX.out, HKX.out⟩
        case measure => simp only [intOf]; omega
      · rw [hfi] at hrun
        have HFI := Lib.hid hfi
        have hat := km_at hKM (fun x hx => (HM2.out.ok x hx).2.2) HKX.out hfi (.held (.int .i64 0))
        rw [hat] at hv
        obtain rfl := heldR_int hv
        simp only [Option.isSome_some] at hrun
        clear hfi hv hD hKM hat
        obtain ⟨x, hx, hsame⟩ := find_some HFI.out
        have hil : i < acc.length := by
          rcases Nat.lt_or_ge i acc.length with h | h
          · exact h
          · rw [List.getElem?_eq_none h] at hx; cases hx
        obtain ⟨g, rfl⟩ : ∃ g, A1 = some ⟨g, 0, none⟩ := by
          rcases HM2.out.own.2 with ⟨hv, h0⟩ | ⟨g, cap', cur, hv, _⟩
          · omega
          · simp only [Value.slice.injEq] at hv
            exact ⟨g, hv.1⟩
        have y3 := (own_cells HM2.out.own rfl hx).c3
        have HXI := Lib.hid (HM2.out.ok x (List.mem_of_getElem? hx))
        have HX := Lib.hid hx
        have hEQ := (rowEq_any x.nA X.oA x.n X.o x.n.length X.o.length x.nc X.oc w2.drew (vals_mono (vals_below HXI.out.1.2.2 (HM2.out.b.drew)) HM2.out.b.size) (vals_mono (vals_below HI.out.2.1 (HM2.out.b.drew)) HM2.out.b.size) rfl rfl HXI.out.2.1.2.2.2.1)
        have HEQ := Lib.hid hEQ
        have hiI : (i : Int) < acc.length := by omega
        have h0i : (0 : Int) ≤ i := by omega
        have HIL := Lib.hid hil
        have HPC := Lib.hid (show putC acc X = if x.n = X.o then some (acc.set i (newN x X)) else none from by unfold putC; rw [HFI.out]; simp only [hx])
        clear hx hsame hEQ hil
        go_wp2_with fail
        rcases hd : decide (x.n = X.o) with _ | _
        · rw [hd] at HEQ
          have HND := Lib.hid (of_decide_eq_false hd)
          clear hd
          go_region_with ((go_at_call 30; (with_reducible refine (HEQ.out).mono ?_); rintro e w3 ⟨rfl, hb3⟩))
          all_goals
            have HB3 := Lib.hid (bj HM2.out.b.drew hb3)
            have HNO : Hid (mergeA [] l = none) := Lib.hid (by rw [HM2.out.st, HDR.out, HPC.out, if_neg HND.out])
            clear hb3
            go_wp2
            go_ret2
            refine ⟨HB3.out, ?_⟩
            rw [HNO.out]
            rfl
        · rw [hd] at HEQ
          have HND := Lib.hid (of_decide_eq_true hd)
          clear hd
          go_region_with ((go_at_call 30; (with_reducible refine (HEQ.out).mono ?_); rintro e w3 ⟨rfl, hb3⟩))
          all_goals
            have hM3 := mg_step HM2.out (Below.trans (Below.refl _ _).drew hb3)
            have hB3 := HB2.out.drew.below hb3 HB2.out.lt
            have HM3 := Lib.hid hM3
            have q3 : w3.cell? ⟨wr.heap.size, 3, none⟩ = some (.slice X.nA X.n.length X.nc) := hB3.cell 3
            have z3 := (own_cells hM3.own rfl HX.out).c3
            have f3 := hM3.own.frozenAt (i * 4 + 3)
            have hst3 := hM3.own.stored (i * 4 + 3) (.slice X.nA X.n.length X.nc)
            rw [cgCs_setN acc i x X HX.out] at hst3
            have HST3 := Lib.hid hst3
            clear hb3 hM3 hB3 hst3
            go_wp2
            go_roundw
            case rel =>
              refine ⟨j + 1, acc.set i (newN x X), by omega, by go_num, ⟨by rw [List.length_set]; exact HST3.out.1, HM3.out.ne, HM3.out.map.elim fun D hD => ⟨D, by rw [List.length_set]; exact hD.1.kept HST3.out.2 (fun e => HM3.out.ne e.symm), km_set hD.2 HX.out⟩, HM3.out.b.setCell (p := ⟨g, i * 4 + 3, none⟩) (HM3.out.own.lt g rfl).1 _, fun y hy => ?_, ?_, by rw [List.length_set]; have := HM3.out.le; omega, Nat.le_refl _⟩⟩
              · rcases set_mem hy with hy | rfl
                · exact HM3.out.ok y hy
                · exact ⟨⟨HXI.out.1.1, HXI.out.1.2.1, HI.out.2.2⟩, ⟨HXI.out.2.1.1, HXI.out.2.1.2.1, HXI.out.2.1.2.2.1, HFX.out.2.2.2.1, HXI.out.2.1.2.2.2.2.1, HXI.out.2.1.2.2.2.2.2.1, HFX.out.2.2.2.2.2.2⟩, ⟨HXI.out.2.2.ne, HXI.out.2.2.le, HXI.out.2.2.fit, HXI.out.2.2.t⟩⟩
              · rw [HM3.out.st, HDR.out, HPC.out, if_pos HND.out]
            case measure => simp only [intOf]; omega
    · obtain rfl : j = n := by omega
      have hall : mergeA [] l = some acc := by
        rw [hmg.st, List.drop_of_length_le (by have := HN.out; omega)]
        rfl
      have HALL := Lib.hid hall
      have HM := Lib.hid hmg
      have hbw := hmg.b.size
      have hDEL := delete_own w.heap.size A1 c1 acc.length acc wr hmg.own rfl (fun x hx => cgIn_below (hmg.ok x hx).1 hmg.b) (fun x hx => (hmg.ok x hx).2.1.2.2.1) hbw (by have := hmg.le; omega)
      have HDEL := Lib.hid hDEL
      clear hDEL hall hmg hbw
      go_wp2_with fail
      refine (HDEL.out).mono ?_
      rintro e w3 ⟨k, hk, rfl, hown3, hb3⟩
      have hkm : ∀ x ∈ keepL acc, x ∈ acc := fun x hx => (List.mem_filter.1 hx).1
      have HB3 := Lib.hid (HM.out.b.trans hb3)
      have hSO := sort_own w.heap.size A1 c1 k (keepL acc) w3 hown3 hk (fun x hx => cgIn_below (HM.out.ok x (hkm x hx)).1 HB3.out) (fun x hx => by have := (HM.out.ok x (hkm x hx)).2.2.le; omega) HB3.out.size (by have := HM.out.le; have := keep_le acc; omega)
      have HSO := Lib.hid hSO
      have HKM := Lib.hid hkm
      have HKK := Lib.hid hk
      clear hSO hb3 hown3 hkm hk
      go_wp2_with fail
      refine (HSO.out).mono ?_
      rintro e w4 ⟨rfl, l', hperm, hsort, hown4, hb4⟩
      have HB4 := Lib.hid (HB3.out.trans hb4)
      have hmem : ∀ x ∈ l', x ∈ acc := fun x hx => HKM.out x (hperm.mem_iff.1 hx)
      have hkl : k = l'.length := by rw [hperm.length_eq]; exact HKK.out
      have hcg := cgs_of_own (w := w) hown4 hkl (fun x hx => cgIn_mono (cgIn_below (HM.out.ok x (hmem x hx)).1 HB4.out) HB4.out.size)
      have hCK := gcheck_any A1 l' k c1 w4 hcg hkl (by have := HM.out.le; have := keep_le acc; have := HKK.out; unfold maxLen; omega) (fun x hx => (HM.out.ok x (hmem x hx)).2.1)
      have HCK := Lib.hid hCK
      have HCG := Lib.hid hcg
      have HKL := Lib.hid hkl
      have HPM := Lib.hid hperm
      have HSR := Lib.hid hsort
      have HFL := Lib.hid (fun x (hx : x ∈ l') => (HM.out.ok x (hmem x hx)).2)
      clear hCK hcg hkl hperm hsort hmem hown4 hb4
      go_wp2_with fail
      refine (HCK.out).mono ?_
      rintro e w5 ⟨rfl, hb5⟩
      have HB5 := Lib.hid (bj HB4.out hb5)
      have HCG5 := Lib.hid (cgs_step HCG.out hb5)
      obtain ⟨z, hz⟩ : ∃ z, chkG l' = z := ⟨_, rfl⟩
      rw [hz]
      have HZ := Lib.hid hz
      clear hz hb5
      by_cases h0 : z = 0
      · subst h0
        go_wp2
        go_ret2
        refine ⟨HB5.out, ?_⟩
        rw [HALL.out]
        exact ⟨l', HPM.out, HSR.out, HFL.out, fun h => absurd HZ.out h, fun _ => ⟨A1, k, c1, rfl, HKL.out, HCG5.out⟩⟩
      · have hz0 : (z != 0) = true := by rw [bne_iff_ne]; exact h0
        have HZ0 := Lib.hid h0
        clear h0
        go_wp2
        go_ret2
        refine ⟨HB5.out, ?_⟩
        rw [HALL.out]
        exact ⟨l', HPM.out, HSR.out, HFL.out, fun _ => by rw [HZ.out]; rfl, fun h => absurd (HZ.out.symm.trans h) HZ0.out⟩
end Go.Proofs.Ytocbdehcjcggeaa
namespace Go.Proofs.Ytocbdehcjcggeaa
open Go.RowKit Go
set_option linter.unusedVariables false
set_option linter.unusedSimpArgs false
theorem addr_add {b o j : Nat} : ((⟨b, o, none⟩ : Addr).add j) = ⟨b, o + j, none⟩ := by simp [Addr.add]
theorem reads_cgs {w : World} {B n : Nat} {A : Option Addr} {l : List Cg} (h : Cgs w B A l) (hn : n = l.length) : Reads w B 4 A n (cgCs l) := by
  refine ⟨by rw [cgCs_len, hn], fun h0 => ?_⟩
  obtain ⟨b, o, hA, hlt, hc⟩ := cgs_get h (fun e => by rw [e] at hn; simp at hn; omega)
  refine ⟨_, hA, hlt, fun j u hj => ?_⟩
  rw [addr_add]
  have hjl : j < l.length * 4 := by
    rcases Nat.lt_or_ge j (l.length * 4) with h | h
    · exact h
    · rw [List.getElem?_eq_none (by rw [cgCs_len]; exact h)] at hj; cases hj
  have hi : j / 4 < l.length := by omega
  have h1 := (hc w (Below.refl _ _) (j / 4) l[j / 4] (List.getElem?_eq_getElem hi)).1
  have h2 := cgCs_get l (j / 4) (j % 4) l[j / 4] (List.getElem?_eq_getElem hi) (by omega)
  rw [show j / 4 * 4 + j % 4 = j by omega, hj] at h2
  rw [h2]
  have hm : j % 4 = 0 ∨ j % 4 = 1 ∨ j % 4 = 2 ∨ j % 4 = 3 := by omega
  rcases hm with hm | hm | hm | hm
  · rw [show o + j = o + j / 4 * 4 by omega, hm]; exact h1.c0
  · rw [show o + j = o + j / 4 * 4 + 1 by omega, hm]; exact h1.c1
  · rw [show o + j = o + j / 4 * 4 + 2 by omega, hm]; exact h1.c2
  · rw [show o + j = o + j / 4 * 4 + 3 by omega, hm]; exact h1.c3
theorem cgCs_one (l : List Cg) : ∀ u ∈ cgCs l, u.oneCell' = true := by
  intro u hu
  simp only [cgCs, List.mem_flatMap] at hu
  obtain ⟨x, _, hu⟩ := hu
  simp at hu
  rcases hu with rfl | rfl | rfl | rfl <;> rfl
theorem cg_info : (Try.prog.info? 33).map (fun i => (i.zero, i.size, i.bytes)) = some (some (.agg #[.string ⟨#[]⟩, .slice none 0 0, .slice none 0 0, .slice none 0 0]), 4, 88) := by kernel_rfl
theorem cg_nil (a : Option Addr) (n c : Nat) (w : World) : (binOp .eql 28 (.slice a n c) (.slice none 0 0)).run Try.prog w = .ok (.bool a.isNone) w := Lib.run_eql_slice_nil w _ _ a n c 0 0 Try.underlying28
set_option maxRecDepth 100000 in
set_option maxHeartbeats 4000000 in
theorem cclone_any {W : World} {A : Option Addr} {n c : Nat} {l : List Cg} (h : Cgs W W.heap.size A l) (hn : n = l.length) (hn8 : n ≤ 100000) :
    Calls Try.prog 37 #[.slice A n c] W fun e w' => ∃ A' c', e = .returned (.slice A' n c') ∧ w'.ownsRow W.heap.size 33 4 (.slice A' n c') n (cgCs l) ∧ Below W.heap.size W w' := by
  cases A with
  | none =>
    have h0 : l = [] := by
      rcases h with h | ⟨b, o, hA, _⟩
      · exact h
      · cases hA
    subst h0
    obtain rfl : n = 0 := hn
    have hq := cg_nil none 0 c
    have HO := Lib.hid (World.ownsRow_nil W W.heap.size 33 4)
    clear h
    go_enter Try.func37, Try.ntmps37
    go_wp2
    go_ret
    exact ⟨none, 0, rfl, HO.out, Below.refl _ _⟩
  | some a =>
    have hq := cg_nil (some a) n c
    obtain ⟨iv, hv1, hv2, hv3, hv4⟩ := info_parts cg_info
    have hm := World.ownsRow_made (base := W.heap.size) (e := 33) (size := 4) W #[] 0 (Nat.le_refl _) (Nat.zero_le _) (by simp)
    have hrd2 := (reads_cgs h hn).alloc (Nat.le_refl _) (.cells #[] 33)
    clear h hn
    go_enter Try.func37, Try.ntmps37
    go_wp2_with (at_builtin; refine wpList_append_any _ rfl (.tmp 5) (.tmp 6) 28 rfl W.heap.size 33 iv _ 4 88 Try.underlying28 hv1 hv2 hv3 hv4 (by kernel_rfl) (by omega) (.slice (some ⟨W.heap.size, 0, none⟩) 0 0) 0 [] rfl hm W.heap.size (some a) n c (cgCs l) rfl hrd2 (cgCs_one l) (by simp only [maxLen]; omega) (by omega) (by simp) ?_; intro v1 w4 hown1 hg1 hat1; obtain ⟨A1, c1, rfl⟩ := own_form hown1; (have HO1 := Lib.hid hown1); (have HG1 := Lib.hid hg1); clear hown1 hg1 hat1)
    go_ret
    have hO := HO1.out
    rw [Nat.zero_add] at hO
    refine ⟨A1, c1, rfl, by simpa using hO, ?_⟩
    exact (one_allocC (w := W)).trans (((Below.refl W.heap.size (W.alloc (.cells #[] 33))).grown HG1.out (by simp) (fun k hk => (hm.lt k hk).1)))
theorem own_cap {W : World} {base n c size : Nat} {e : TypeId} {A : Option Addr} {xs : List Value} (h : W.ownsRow base e size (.slice A n c) n xs) : n ≤ c := by
  rcases h.2 with ⟨hv, h0⟩ | ⟨g, cap, cur, hv, _, _, hc, _⟩
  · rw [h0]; exact Nat.zero_le _
  · simp only [Value.slice.injEq] at hv
    rw [hv.2.2]
    exact hc
/-- turned about -/
def swapC (x : Cg) : Cg := ⟨x.t, x.kA, x.kc, x.k, x.nA, x.nc, x.n, x.oA, x.oc, x.o⟩
theorem cgCs_swap : ∀ (m : List Cg) (i : Nat) (x : Cg), m[i]? = some x → ((cgCs m).set (i * 4 + 2) (.slice x.nA x.n.length x.nc)).set (i * 4 + 3) (.slice x.oA x.o.length x.oc) = cgCs (m.set i (swapC x))
  | [], i, x, h => by simp at h
  | y :: m, 0, x, h => by
    simp only [List.getElem?_cons_zero, Option.some.injEq] at h
    subst h
    simp [cgCs_cons, swapC]
  | y :: m, i + 1, x, h => by
    have ih := cgCs_swap m i x (by simpa using h)
    rw [List.set_cons_succ, cgCs_cons, cgCs_cons, ← ih]
    have e0 : (i + 1) * 4 = i * 4 + 1 + 1 + 1 + 1 := by omega
    rw [e0]
    simp [cgE]
theorem swap_len {l : List Cg} {j : Nat} (hj : j ≤ l.length) : ((l.take j).map swapC).length = j := by rw [List.length_map, List.length_take]; omega
theorem swap_set {l : List Cg} {j : Nat} (hj : j < l.length) : (((l.take j).map swapC) ++ l.drop j).set j (swapC l[j]) = (l.take (j + 1)).map swapC ++ l.drop (j + 1) := by
  have h1 := swap_len (l := l) (Nat.le_of_lt hj)
  rw [List.drop_eq_getElem_cons hj, List.set_append_right _ _ (by omega), h1, Nat.sub_self, List.set_cons_zero, take_snocC hj, List.map_append, List.append_assoc]
  rfl
set_option maxRecDepth 100000 in
set_option maxHeartbeats 16000000 in
theorem invert_any (A : Option Addr) (l : List Cg) (n c : Nat) (w : World) (hO : Cgs w w.heap.size A l) (hn : n = l.length) (hsm : n ≤ 100000) (hfit : ∀ x ∈ l, FitC x) :
    Calls Try.prog 15 #[.slice A n c] w fun e w' => Below w.heap.size w w' ∧ (chkG l ≠ 0 → e = .returned (.tuple #[.slice none 0 0, .int .i64 (chkG l)])) ∧ (chkG l = 0 → ∃ A' c', e = .returned (.tuple #[.slice A' n c', .int .i64 0]) ∧ Cgs w' w'.heap.size A' (l.map swapC) ∧ n ≤ c') := by
  have HCK := Lib.hid (gcheck_any A l n c w hO hn (by unfold maxLen; omega) hfit)
  have HN := Lib.hid hn
  have HO := Lib.hid hO
  have hnI : (n : Int) ≤ 100000 := by omega
  clear hO hfit hn
  go_enter Try.func15, Try.ntmps15
  go_wp2_with fail
  refine (HCK.out).mono ?_
  rintro e w1 ⟨rfl, hb1⟩
  obtain ⟨z, hz⟩ : ∃ z, chkG l = z := ⟨_, rfl⟩
  rw [hz]
  have HZ := Lib.hid hz
  have HB1 := Lib.hid hb1
  clear hz hb1
  by_cases h0 : z = 0
  · subst h0
    have hcl := cclone_any (c := c) (cgs_step HO.out HB1.out) HN.out hsm
    have HCL := Lib.hid hcl
    clear hcl
    go_wp2_with fail
    refine (HCL.out).mono ?_
    rintro e w2 ⟨A', c', rfl, hown, hb2⟩
    have HB2 := Lib.hid (bj HB1.out hb2)
    have HW := Lib.hid hown
    have HB12 := Lib.hid hb2
    clear hown hb2
    go_wp2
    go_loopw [16] (fun i wr => ∃ j : Nat, j ≤ n ∧ i = .int .i64 j ∧ wr.ownsRow w1.heap.size 33 4 (.slice A' n c') n (cgCs ((l.take j).map swapC ++ l.drop j)) ∧ Below w1.heap.size w1 wr) (fun i _ => n - (intOf i).toNat)
    case atStart => exact ⟨0, by omega, rfl, by simpa using HW.out, HB12.out⟩
    case round =>
      clear HW HB12 HB2
      obtain ⟨j, hj, rfl, hown, hb⟩ := hrel
      by_cases hjn : j < n
      · have hlt : j < l.length := by have := HN.out; omega
        obtain ⟨g, rfl⟩ : ∃ g, A' = some ⟨g, 0, none⟩ := by
          rcases hown.2 with ⟨hv, h0⟩ | ⟨g, cap', cur, hv, _⟩
          · omega
          · simp only [Value.slice.injEq] at hv
            exact ⟨g, hv.1⟩
        have hm : ((l.take j).map swapC ++ l.drop j)[j]? = some l[j] := by
          have h1 := swap_len (l := l) (Nat.le_of_lt hlt)
          rw [List.getElem?_append_right (by omega), List.drop_eq_getElem_cons hlt, h1, Nat.sub_self]
          rfl
        have hlen : n = ((l.take j).map swapC ++ l.drop j).length := by
          have := HN.out
          simp only [List.length_append, List.length_map, List.length_take, List.length_drop]
          omega
        have hown : wr.drew.ownsRow w1.heap.size 33 4 (.slice (some ⟨g, 0, none⟩) n c') n (cgCs ((l.take j).map swapC ++ l.drop j)) := hown
        obtain ⟨_, _, c2, c3⟩ := own_cells hown hlen hm
        have f2 := hown.frozenAt (j * 4 + 2)
        have f3 := hown.frozenAt (j * 4 + 3)
        have hs2 := hown.stored (j * 4 + 2) (.slice l[j].nA l[j].n.length l[j].nc)
        have hs3 := hs2.1.stored (j * 4 + 3) (.slice l[j].oA l[j].o.length l[j].oc)
        rw [cgCs_swap _ j l[j] hm, swap_set hlt] at hs3
        have HS := Lib.hid hs3.1
        have hge := (hown.lt g rfl).1
        have HBS := Lib.hid ((hb.drew.setCell (p := ⟨g, j * 4 + 2, none⟩) hge (.slice l[j].nA l[j].n.length l[j].nc)).setCell (p := ⟨g, j * 4 + 3, none⟩) hge (.slice l[j].oA l[j].o.length l[j].oc))
        generalize l[j] = x at *
        have hjI : (j : Int) < n := by omega
        have h0j : (0 : Int) ≤ j := by omega
        have d2 : wr.cell? ⟨g, j * 4 + 2, none⟩ = some (.slice x.oA x.o.length x.oc) := c2
        have d3 : wr.cell? ⟨g, j * 4 + 3, none⟩ = some (.slice x.nA x.n.length x.nc) := c3
        have k2 : wr.frozen? ⟨g, j * 4 + 2, none⟩ = false := f2
        have k3 : wr.frozen? ⟨g, j * 4 + 3, none⟩ = false := f3
        clear hown hb hs2 hs3 hm hlen hlt hge
        go_wp2_with fail
        go_region
        all_goals
          go_wp2
          go_roundw
          case rel => exact ⟨j + 1, by omega, by go_num, HS.out, HBS.out⟩
          case measure => simp only [intOf]; omega
      · obtain rfl : j = n := by omega
        have hfull : (l.take j).map swapC ++ l.drop j = l.map swapC := by
          rw [HN.out, List.take_length, List.drop_length, List.append_nil]
        rw [hfull] at hown
        have HW := Lib.hid hown
        have HB := Lib.hid hb
        clear hown hb hfull
        go_wp2
        go_ret2
        refine ⟨?_, fun h => absurd HZ.out h, fun _ => ⟨A', c', rfl, cgs_of_own (w := w) HW.out (by rw [List.length_map]; exact HN.out) (fun y hy => ?_), own_cap HW.out⟩⟩
        · exact bj HB1.out HB.out
        · obtain ⟨x, hx, rfl⟩ := List.mem_map.1 hy
          obtain ⟨k, hk⟩ := List.getElem?_of_mem hx
          obtain ⟨b, o, _, _, hc⟩ := cgs_get HO.out (fun e => by rw [e] at hx; cases hx)
          have hi := (hc wr (bj HB1.out HB.out) k x hk).2
          have hi2 := cgIn_mono hi (bj HB1.out HB.out).size
          exact ⟨hi2.1, hi2.2.2, hi2.2.1⟩
  · have hz0 : (z != 0) = true := by rw [bne_iff_ne]; exact h0
    have HZ0 := Lib.hid h0
    clear h0
    go_wp2
    go_ret2
    exact ⟨HB1.out, fun _ => by rw [HZ.out]; rfl, fun h => absurd (HZ.out.symm.trans h) HZ0.out⟩
end Go.Proofs.Ytocbdehcjcggeaa
namespace Go.Proofs.Ytocbdehcjcggeaa
open Go.RowKit Go
set_option linter.unusedVariables false
set_option linter.unusedSimpArgs false
set_option maxRecDepth 100000 in
set_option maxHeartbeats 4000000 in
theorem grow_nil (k : Nat) (W : World) (hk : k ≤ 200000) :
    Calls Try.prog 62 #[.slice none 0 0, .int .i64 k] W fun e w' => ∃ A c, e = .returned (.slice A 0 c) ∧ w'.ownsRow W.heap.size 33 4 (.slice A 0 c) 0 [] ∧ Below W.heap.size W w' := by
  by_cases h0 : k = 0
  · subst h0
    have HO := Lib.hid (World.ownsRow_nil W W.heap.size 33 4)
    clear hk
    go_enter Try.func62, Try.ntmps62
    go_wp2
    go_ret
    exact ⟨none, 0, rfl, HO.out, Below.refl _ _⟩
  · obtain ⟨iv, hv1, hv2, hv3, hv4⟩ := info_parts cg_info
    have hrz := fun ty => Lib.run_append_nil_zeros (P := Try.prog) W 28 3 ty 33 iv _ .i64 .i64 Try.underlying28 Try.underlying3 hv1 hv2 k (by omega) (by rw [hv3]; omega) (by omega) (by rw [hv4]; omega)
    obtain ⟨G, hG⟩ : ∃ G, grownCap W k 0 33 = G := ⟨_, rfl⟩
    have hG1 := grownCap_ge W k 0 33
    have hG2 := grownCap_le_maxLen W k 0 33 (by unfold maxLen; omega)
    rw [hG] at hrz hG1 hG2
    have hsz : (Builtin.zeroCells (Value.agg #[.string ⟨#[]⟩, .slice none 0 0, .slice none 0 0, .slice none 0 0]).cells k ++ Builtin.zeroCells (Value.agg #[.string ⟨#[]⟩, .slice none 0 0, .slice none 0 0, .slice none 0 0]).cells (G - k)).size = G * 4 := by
      simp [Builtin.zeroCells, Value.cells]; omega
    generalize Builtin.zeroCells (Value.agg #[.string ⟨#[]⟩, .slice none 0 0, .slice none 0 0, .slice none 0 0]).cells k ++ Builtin.zeroCells (Value.agg #[.string ⟨#[]⟩, .slice none 0 0, .slice none 0 0, .slice none 0 0]).cells (G - k) = cur at hrz hsz
    have HO := Lib.hid (World.ownsRow_made (base := W.heap.size) (e := 33) (size := 4) W.drew cur G (Nat.le_refl _) hG2 hsz)
    have hkI : (0 : Int) < k := by omega
    have hkI2 : (k : Int) ≤ 200000 := by omega
    have hkn : ¬ ((k : Int) < 0) := by omega
    have hw1 : IntKind.i64.wrap (k : Int) = k := by rw [IntKind.wrap_i64]; omega
    have hGI : (0 : Int) ≤ G := by omega
    have HG := Lib.hid (And.intro hG1 hG2)
    clear hG hG1 hG2 hsz h0 hk
    go_enter Try.func62, Try.ntmps62
    go_wp2_with (at_builtin; refine Lib.wpList_append_run _ rfl _ _ _ _ rfl _ _ rfl rfl _ _ (hrz _) ?_)
    go_ret
    exact ⟨some ⟨W.heap.size, 0, none⟩, G, rfl, HO.out, (Below.refl _ _).drew.alloc (Nat.le_refl _) _⟩
/-- two slices in a slice -/
def Sl2 (W : World) (q : Nat) (A C : Option Addr) (n c m d : Nat) : Prop := Blk W q 28 #[.slice A n c, .slice C m d]
theorem sl2_cells {W : World} {q : Nat} {A C : Option Addr} {n c m d : Nat} (h : Sl2 W q A C n c m d) : W.cell? ⟨q, 0, none⟩ = some (.slice A n c) ∧ W.cell? ⟨q, 1, none⟩ = some (.slice C m d) := ⟨Blk.cell h 0, Blk.cell h 1⟩
set_option maxRecDepth 100000 in
set_option maxHeartbeats 8000000 in
theorem sconcat_any (A C : Option Addr) (a b : List Cg) (n c m d q : Nat) (W : World) (ha : Cgs W W.heap.size A a) (hb : Cgs W W.heap.size C b) (hn : n = a.length) (hm : m = b.length) (hs : n + m ≤ 100000) (hq : Sl2 W q A C n c m d) :
    Calls Try.prog 38 #[.slice (some ⟨q, 0, none⟩) 2 2] W fun e w' => ∃ A' k c', e = .returned (.slice A' k c') ∧ k = (a ++ b).length ∧ w'.ownsRow W.heap.size 33 4 (.slice A' k c') k (cgCs (a ++ b)) ∧ Below W.heap.size W w' := by
  obtain ⟨iv, hv1, hv2, hv3, hv4⟩ := info_parts cg_info
  have HA := Lib.hid ha
  have HB := Lib.hid hb
  have HN := Lib.hid (And.intro hn hm)
  have HQ := Lib.hid hq
  have hsI : (n : Int) + m ≤ 100000 := by omega
  have HGR := Lib.hid (grow_nil (n + m) W (by omega))
  obtain ⟨p0, p1⟩ := sl2_cells hq
  clear ha hb hn hm hq
  go_enter Try.func38, Try.ntmps38
  go_wp2
  go_loopw [3, 11] (fun s i wr => W = wr ∧ ((s = .int .i64 0 ∧ i = .int .i64 0) ∨ (s = .int .i64 n ∧ i = .int .i64 1) ∨ (s = .int .i64 ((n : Int) + m) ∧ i = .int .i64 2))) (fun _ i _ => 2 - (intOf i).toNat)
  case atStart => exact ⟨rfl, .inl ⟨rfl, rfl⟩⟩
  case round =>
    obtain ⟨rfl, hrel⟩ := hrel
    have hw0 : IntKind.i64.wrap (n : Int) = n := by rw [IntKind.wrap_i64]; omega
    have hw1 : IntKind.i64.wrap ((n : Int) + m) = (n : Int) + m := by rw [IntKind.wrap_i64]; omega
    have hn0 : ¬ ((n : Int) < 0) := by omega
    have hn1 : ¬ ((n : Int) + m < 0) := by omega
    have hn0' : (0 : Int) ≤ n := by omega
    have hn1' : (0 : Int) ≤ (n : Int) + m := by omega
    rcases hrel with ⟨rfl, rfl⟩ | ⟨rfl, rfl⟩ | ⟨rfl, rfl⟩
    · go_wp2
      go_roundw
      case rel => first | (simp; done) | exact ⟨rfl, .inr (.inl ⟨by simp, by simp⟩)⟩ | exact ⟨trivial, .inr (.inl ⟨by simp, by simp⟩)⟩
      case measure => simp [intOf]
    · go_wp2
      go_roundw
      case rel => first | (simp; done) | exact ⟨rfl, .inr (.inr ⟨by simp, by simp⟩)⟩ | exact ⟨trivial, .inr (.inr ⟨by simp, by simp⟩)⟩
      case measure => simp [intOf]
    · have hnat : ((n : Int) + m) = ((n + m : Nat) : Int) := by omega
      have hgr : Calls Try.prog 62 #[.slice none 0 0, .int .i64 ((n : Int) + m)] W _ := hnat ▸ HGR.out
      have HGR2 := Lib.hid hgr
      clear hnat hgr p0 p1
      go_wp2_with fail
      refine (HGR2.out).mono ?_
      rintro e w2 ⟨A2, c2, rfl, hown, hb2⟩
      have HO := Lib.hid hown
      have HB2 := Lib.hid hb2
      clear hown hb2 hw0 hw1 hn0 hn1 hn0' hn1'
      go_wp2
      go_loopw [6, 27] (fun v i w3 => ∃ (j : Nat) (xs : List Cg) (k : Nat), j ≤ 2 ∧ i = .int .i64 j ∧ (j = 0 ∧ xs = [] ∧ k = 0 ∨ j = 1 ∧ xs = a ∧ k = n ∨ j = 2 ∧ xs = a ++ b ∧ k = n + m) ∧ w3.ownsRow W.heap.size 33 4 v k (cgCs xs) ∧ Below W.heap.size W w3) (fun _ i _ => 2 - (intOf i).toNat)
      case atStart => exact ⟨0, [], 0, by omega, rfl, .inl ⟨rfl, rfl, rfl⟩, HO.out, HB2.out⟩
      case round =>
        clear HO HB2
        obtain ⟨j, xs, k, hj, rfl, hcase, hown, hb⟩ := hrel
        obtain ⟨A3, c3, rfl⟩ := own_form hown
        rcases hcase with ⟨rfl, rfl, rfl⟩ | ⟨rfl, rfl, rfl⟩ | ⟨rfl, rfl, rfl⟩
        · obtain ⟨p0, p1⟩ := sl2_cells (HQ.out.below hb HQ.out.lt)
          have hrd := reads_cgs (n := n) (cgs_below HA.out hb) HN.out.1
          have HOW := Lib.hid hown
          have hbs := hb.size
          have HBB := Lib.hid hb
          clear hown hb
          go_wp2_with (at_builtin; refine wpList_append_any _ rfl (.tmp 31) (.tmp 32) 28 rfl W.heap.size 33 iv _ 4 88 Try.underlying28 hv1 hv2 hv3 hv4 rfl (by omega) _ 0 (cgCs []) rfl HOW.out W.heap.size A n c (cgCs a) rfl hrd (cgCs_one a) (by simp only [maxLen]; omega) (by omega) hbs ?_; intro v1 w6 hown1 hg1 hat1; obtain ⟨A4, c4, rfl⟩ := own_form hown1; (have HW6 := Lib.hid hown1); (have HG6 := Lib.hid hg1); clear hown1 hg1 hat1 hrd)
          go_roundw
          case rel =>
            have hO := HW6.out
            rw [Nat.zero_add] at hO
            refine ⟨1, a, n, by omega, by simp, .inr (.inl ⟨rfl, rfl, rfl⟩), ?_, HBB.out.grown HG6.out HBB.out.size (fun k hk => (HOW.out.lt k hk).1)⟩
            simpa [cgCs] using hO
          case measure => simp [intOf]
        · obtain ⟨p0, p1⟩ := sl2_cells (HQ.out.below hb HQ.out.lt)
          have hrd := reads_cgs (n := m) (cgs_below HB.out hb) HN.out.2
          have HOW := Lib.hid hown
          have hbs := hb.size
          have HBB := Lib.hid hb
          clear hown hb
          go_wp2_with (at_builtin; refine wpList_append_any _ rfl (.tmp 31) (.tmp 32) 28 rfl W.heap.size 33 iv _ 4 88 Try.underlying28 hv1 hv2 hv3 hv4 rfl (by omega) _ _ (cgCs xs) rfl HOW.out W.heap.size C m d (cgCs b) rfl hrd (cgCs_one b) (by simp only [maxLen]; omega) (by omega) hbs ?_; intro v1 w6 hown1 hg1 hat1; obtain ⟨A4, c4, rfl⟩ := own_form hown1; (have HW6 := Lib.hid hown1); (have HG6 := Lib.hid hg1); clear hown1 hg1 hat1 hrd)
          go_roundw
          case rel =>
            have hO := HW6.out
            refine ⟨2, _, _, by omega, by simp, .inr (.inr ⟨rfl, rfl, rfl⟩), ?_, HBB.out.grown HG6.out HBB.out.size (fun k hk => (HOW.out.lt k hk).1)⟩
            rw [show cgCs (xs ++ b) = cgCs xs ++ cgCs b by simp [cgCs]]
            exact hO
          case measure => simp [intOf]
        · have HOW := Lib.hid hown
          have HBB := Lib.hid hb
          clear hown hb
          go_wp2
          go_ret
          exact ⟨A3, n + m, c3, rfl, by rw [List.length_append, HN.out.1, HN.out.2], HOW.out, HBB.out⟩
end Go.Proofs.Ytocbdehcjcggeaa
namespace Go.Proofs.Ytocbdehcjcggeaa
open Go.RowKit Go
set_option linter.unusedVariables false
set_option linter.unusedSimpArgs false
theorem may_keyOk {x : Cg} (h : mayC x = true) (hf : FitC x) : KeyOk x := by
  have h1 := may_key h
  have h2 := may_len h
  refine ⟨h1.1, h2, fun y hy => ⟨(hf.2.2.2.2.1 y hy).1, (chk_of (h1.2 y hy)).2.2.2⟩, ?_⟩
  unfold mayC at h
  simp only [Bool.and_eq_true, decide_eq_true_eq] at h
  exact h.2.1
theorem okC_may {l : List Cg} (h : OkC l) : ∀ x ∈ l, mayC x = true := fun x hx => by
  obtain ⟨i, hi⟩ := List.getElem?_of_mem hx
  have hil : i < l.length := by
    rcases Nat.lt_or_ge i l.length with h | h
    · exact h
    · rw [List.getElem?_eq_none h] at hi; cases hi
  obtain ⟨y, hy, hm, _⟩ := h.2 i hil
  rw [hi] at hy
  cases hy
  exact hm
def MergeR (l : List Cg) (e : Ending) (w' : World) : Prop := match mergeA [] l with
  | none => e = .returned (.tuple #[.slice none 0 0, .int .i64 220])
  | some acc => ∃ l', l'.Perm (keepL acc) ∧ SortedC l' ∧ (∀ x ∈ l', FitC x ∧ KeyOk x) ∧ (chkG l' ≠ 0 → e = .returned (.tuple #[.slice none 0 0, .int .i64 (chkG l')])) ∧
      (chkG l' = 0 → ∃ A k c', e = .returned (.tuple #[.slice A k c', .int .i64 0]) ∧ k = l'.length ∧ Cgs w' w'.heap.size A l')
theorem mergeR_step {l : List Cg} {e : Ending} {W W' : World} (h : MergeR l e W) (hb : Below W.heap.size W W') : MergeR l e W' := by
  unfold MergeR at *
  split at h
  · exact h
  · obtain ⟨l', h1, h2, h3, h4, h5⟩ := h
    exact ⟨l', h1, h2, h3, h4, fun h0 => by
      obtain ⟨A, k, c', e1, e2, e3⟩ := h5 h0
      exact ⟨A, k, c', e1, e2, cgs_step e3 hb⟩⟩
/-- what Merge answers is a pair -/
theorem mergeR_form {l : List Cg} {e : Ending} {W : World} (h : MergeR l e W) : ∃ v z, e = .returned (.tuple #[v, .int .i64 z]) := by
  unfold MergeR at h
  split at h
  · exact ⟨_, _, h⟩
  · obtain ⟨l', _, _, _, h4, h5⟩ := h
    by_cases h0 : chkG l' = 0
    · obtain ⟨A, k, c', e1, _⟩ := h5 h0
      exact ⟨_, _, e1⟩
    · exact ⟨_, _, h4 h0⟩
def ConcatP (w : World) (a b : List Cg) (e : Ending) (w' : World) : Prop :=
  Below w.heap.size w w' ∧ (chkG a ≠ 0 → e = .returned (.tuple #[.slice none 0 0, .int .i64 (chkG a)])) ∧ (chkG a = 0 → chkG b ≠ 0 → e = .returned (.tuple #[.slice none 0 0, .int .i64 (chkG b)])) ∧ (chkG a = 0 → chkG b = 0 → MergeR (a ++ b) e w')
set_option maxRecDepth 100000 in
set_option maxHeartbeats 8000000 in
theorem concat_any (A C : Option Addr) (a b : List Cg) (n c m d : Nat) (w : World) (ha : Cgs w w.heap.size A a) (hb : Cgs w w.heap.size C b) (hn : n = a.length) (hm : m = b.length) (hs : n + m ≤ 1000) (hfa : ∀ x ∈ a, FitC x) (hfb : ∀ x ∈ b, FitC x) :
    Calls Try.prog 16 #[.slice A n c, .slice C m d] w (ConcatP w a b) := by
  have HA := Lib.hid ha
  have HB := Lib.hid hb
  have HN := Lib.hid (And.intro hn hm)
  have HFA := Lib.hid hfa
  have HFB := Lib.hid hfb
  have HQ0 := Lib.hid (show Sl2 (w.alloc (.cells #[.slice A n c, .slice C m d] 28)) w.heap.size A C n c m d from Blk.new _ _ _)
  have HB0 := Lib.hid (one_allocC (w := w) (o := .cells #[.slice A n c, .slice C m d] 28))
  clear ha hb hn hm hfa hfb
  go_enter Try.func16, Try.ntmps16
  go_wp2
  go_loopw [13] (fun i wr => ∃ j : Nat, j ≤ 2 ∧ i = .int .i64 j ∧ (0 < j → chkG a = 0) ∧ (1 < j → chkG b = 0) ∧ Sl2 wr w.heap.size A C n c m d ∧ Below w.heap.size w wr) (fun i _ => 2 - (intOf i).toNat)
  case atStart => exact ⟨0, by omega, rfl, by omega, by omega, HQ0.out, HB0.out⟩
  case round =>
    clear HQ0 HB0
    obtain ⟨j, hj, rfl, hca, hcb, hq, hb⟩ := hrel
    have hcase : j = 0 ∨ j = 1 ∨ j = 2 := by omega
    obtain ⟨p0, p1⟩ := sl2_cells hq
    have HQ := Lib.hid hq
    have HBW := Lib.hid hb
    rcases hcase with rfl | rfl | rfl
    · have HCK := Lib.hid (gcheck_any A a n c wr (cgs_step HA.out hb) HN.out.1 (by unfold maxLen; omega) HFA.out)
      clear hq hb hca hcb
      go_wp2_with fail
      refine (HCK.out).mono ?_
      rintro e w2 ⟨rfl, hb2⟩
      obtain ⟨z, hz⟩ : ∃ z, chkG a = z := ⟨_, rfl⟩
      rw [hz]
      have HZ := Lib.hid hz
      have HB2 := Lib.hid (bj HBW.out hb2)
      have HQ2 := Lib.hid (show Sl2 w2 w.heap.size A C n c m d from HQ.out.below hb2 HQ.out.lt)
      clear hz hb2 p0 p1
      by_cases h0 : z = 0
      · subst h0
        go_wp2
        go_roundw
        case rel => exact ⟨1, by omega, by simp, fun _ => HZ.out, by omega, HQ2.out, HB2.out⟩
        case measure => simp [intOf]
      · have hz0 : (z != 0) = true := by rw [bne_iff_ne]; exact h0
        have HZ0 := Lib.hid h0
        clear h0
        go_wp2
        go_ret2
        exact ⟨HB2.out, fun _ => by rw [HZ.out]; rfl, fun h => absurd (HZ.out.symm.trans h) HZ0.out, fun h => absurd (HZ.out.symm.trans h) HZ0.out⟩
    · have HCK := Lib.hid (gcheck_any C b m d wr (cgs_step HB.out hb) HN.out.2 (by unfold maxLen; omega) HFB.out)
      have HCA := Lib.hid (hca (by omega))
      clear hq hb hca hcb
      go_wp2_with fail
      refine (HCK.out).mono ?_
      rintro e w2 ⟨rfl, hb2⟩
      obtain ⟨z, hz⟩ : ∃ z, chkG b = z := ⟨_, rfl⟩
      rw [hz]
      have HZ := Lib.hid hz
      have HB2 := Lib.hid (bj HBW.out hb2)
      have HQ2 := Lib.hid (show Sl2 w2 w.heap.size A C n c m d from HQ.out.below hb2 HQ.out.lt)
      clear hz hb2 p0 p1
      by_cases h0 : z = 0
      · subst h0
        go_wp2
        go_roundw
        case rel => exact ⟨2, by omega, by simp, fun _ => HCA.out, fun _ => HZ.out, HQ2.out, HB2.out⟩
        case measure => simp [intOf]
      · have hz0 : (z != 0) = true := by rw [bne_iff_ne]; exact h0
        have HZ0 := Lib.hid h0
        clear h0
        go_wp2
        go_ret2
        exact ⟨HB2.out, fun h => absurd HCA.out h, fun _ _ => by rw [HZ.out]; rfl, fun _ h => absurd (HZ.out.symm.trans h) HZ0.out⟩
    · have HCA := Lib.hid (hca (by omega))
      have HCB := Lib.hid (hcb (by omega))
      have HBC := Lib.hid (bj hb (one_allocC (o := .cells #[.slice A n c, .slice C m d] 28)))
      have HSC := Lib.hid (sconcat_any A C a b n c m d wr.heap.size (wr.alloc (.cells #[.slice A n c, .slice C m d] 28)) (cgs_step HA.out HBC.out) (cgs_step HB.out HBC.out) HN.out.1 HN.out.2 (by omega) (Blk.new _ _ _))
      clear hq hb hca hcb p0 p1
      go_wp2_with fail
      refine (HSC.out).mono ?_
      rintro e w2 ⟨A', k, c', rfl, hk, hown, hb2⟩
      have HB2 := Lib.hid (bj HBC.out hb2)
      have hmem : ∀ x ∈ a ++ b, CgIn w2 w2.heap.size x ∧ FitC x ∧ KeyOk x := fun x hx => by
        rcases List.mem_append.1 hx with hx | hx
        · obtain ⟨i, hi⟩ := List.getElem?_of_mem hx
          obtain ⟨_, _, _, _, hcc⟩ := cgs_get HA.out (fun e => by rw [e] at hx; cases hx)
          exact ⟨cgIn_mono (hcc w2 HB2.out i x hi).2 HB2.out.size, HFA.out x hx, may_keyOk (okC_may (chkG_zero HCA.out) x hx) (HFA.out x hx)⟩
        · obtain ⟨i, hi⟩ := List.getElem?_of_mem hx
          obtain ⟨_, _, _, _, hcc⟩ := cgs_get HB.out (fun e => by rw [e] at hx; cases hx)
          exact ⟨cgIn_mono (hcc w2 HB2.out i x hi).2 HB2.out.size, HFB.out x hx, may_keyOk (okC_may (chkG_zero HCB.out) x hx) (HFB.out x hx)⟩
      have HM := Lib.hid (merge_any A' (a ++ b) k c' w2 (cgs_of_own (w := w) hown hk (fun x hx => (hmem x hx).1)) hk (by rw [hk, List.length_append, ← HN.out.1, ← HN.out.2]; exact hs) (fun x hx => (hmem x hx).2.1) (fun x hx => (hmem x hx).2.2))
      clear hmem hown hk hb2
      go_wp2_with fail
      refine (HM.out).mono ?_
      rintro e w3 ⟨hb3, hm3⟩
      have hm3 : MergeR (a ++ b) e w3 := hm3
      obtain ⟨v, z, rfl⟩ := mergeR_form hm3
      have HM3 := Lib.hid hm3
      have HB3 := Lib.hid (bj HB2.out hb3)
      clear hm3 hb3
      go_wp2
      go_ret2
      exact ⟨HB3.out, fun h => absurd HCA.out h, fun _ h => absurd HCB.out h, fun _ _ => HM3.out⟩
end Go.Proofs.Ytocbdehcjcggeaa
namespace Go.Proofs.Ytocbdehcjcggeaa
open Go.RowKit Go
set_option linter.unusedVariables false
set_option linter.unusedSimpArgs false
theorem vals_one {W : World} {g B : Nat} {t : TypeId} {x : Val} (h : Blk W g t (valC x)) (hB : g < B) : Vals W B (some ⟨g, 0, none⟩) [x] :=
  .inr ⟨g, 0, rfl, hB, fun j y hy => by
    match j, hy with
    | 0, hy =>
      simp only [List.getElem?_cons_zero, Option.some.injEq] at hy
      subst hy
      exact ⟨h.cell 0, h.cell 1, h.cell 2⟩⟩
theorem rec_one (x : Val) : recL [x] = 1 :: (putL (tagN x) ++ bodyL x) := by simp [recL, tagsL, bodsL]
theorem chk_one {x : Val} (h : chk x = 0) : chkR [x] = 0 := by simp [chkR, chkL, h]
theorem rec_one_len {x : Val} (h : chk x = 0) : (recL [x]).length = 1 + sz (tagN x) + (bodyL x).length ∧ (recL [x]).length ≤ 1010 := by
  have h1 := bodyL_len h
  have h2 := (sz_le (tagN x)).2
  rw [rec_one, List.length_cons, List.length_append, putL_length]
  omega
set_option maxRecDepth 100000 in
set_option maxHeartbeats 8000000 in
theorem putKey_any (A : Option Addr) (l : List Val) (n c : Nat) (w : World) (hV : Vals w w.heap.size A l) (hn : n = l.length) (h16 : n ≤ 16) (hf : ∀ x ∈ l, Fits x) (hc : ∀ x ∈ l, chk x = 0) :
    Calls Try.prog 26 #[.slice A n c] w fun e w' => e = .returned (.string (bstr (recL l))) ∧ Below w.heap.size w w' := by
  have h16I : (n : Int) ≤ 16 := by omega
  have HN := Lib.hid hn
  have HF := Lib.hid hf
  have HC := Lib.hid hc
  have HA : Hid (0 < n → ∃ b o, A = some ⟨b, o, none⟩ ∧ b < w.heap.size ∧ ∀ (j : Nat) x, l[j]? = some x → w.cell? ⟨b, o + j * 3, none⟩ = some (.int .u8 x.1) ∧ w.cell? ⟨b, o + j * 3 + 1, none⟩ = some (.int .i64 x.2.1) ∧ w.cell? ⟨b, o + j * 3 + 2, none⟩ = some (.string x.2.2)) :=
    Lib.hid fun h => vals_get hV (fun e => by rw [e] at hn; simp at hn; omega)
  have hw8 : IntKind.u8.wrap (n : Int) = n := by simp [IntKind.wrap, IntKind.bits, IntKind.signed]; omega
  have hwb := pu_wb1 n (pu_new (Below.refl w.heap.size w)) (by omega) (by simp)
  have HWB := Lib.hid hwb
  clear hwb hf hc hV hn
  go_enter Try.func26, Try.ntmps26
  go_wp2_with fail
  refine (HWB.out).mono ?_
  rintro e w2 ⟨rfl, hp2⟩
  have HP2 := Lib.hid (show Pu w w.heap.size (w.heap.size + 1) (n :: tagsL (l.take 0)) (bodsL (l.take 0)) w2 from hp2)
  clear hp2 HWB
  go_wp2
  go_loopw [18] (fun i wr => ∃ j : Nat, j ≤ n ∧ i = .int .i64 j ∧ Pu w w.heap.size (w.heap.size + 1) (n :: tagsL (l.take j)) (bodsL (l.take j)) wr) (fun i _ => n - (intOf i).toNat)
  case atStart => exact ⟨0, by omega, rfl, HP2.out⟩
  case round =>
    clear HP2
    obtain ⟨j, hj, rfl, hp⟩ := hrel
    have hl1 : (tagsL (l.take j)).length ≤ 9 * 16 := by
      have := tagsL_len (l.take j)
      have : (l.take j).length ≤ 16 := by rw [List.length_take]; omega
      omega
    have hl2 : (bodsL (l.take j)).length ≤ 1000 * 16 := by
      have := bodsL_len (l.take j) (fun x hx => HC.out x (List.mem_of_mem_take hx))
      have : (l.take j).length ≤ 16 := by rw [List.length_take]; omega
      omega
    by_cases hjn : j < n
    · have hjl : j < l.length := by have := HN.out; omega
      obtain ⟨b, o, rfl, hbl, hcs⟩ := HA.out (by omega)
      obtain ⟨a1, a2, a3⟩ := hcs j l[j] (List.getElem?_eq_getElem hjl)
      have hb := hp.2
      have c1 := (hb.cell (p := ⟨b, o + j * 3, none⟩) hbl).trans a1
      have c2 := (hb.cell (p := ⟨b, o + j * 3 + 1, none⟩) hbl).trans a2
      have c3 := (hb.cell (p := ⟨b, o + j * 3 + 2, none⟩) hbl).trans a3
      have HFX := Lib.hid (HF.out l[j] (List.getElem_mem hjl))
      have HCX := Lib.hid (HC.out l[j] (List.getElem_mem hjl))
      have HT1 := Lib.hid (tagsL_take l j hjl)
      have HD1 := Lib.hid (bodsL_take l j hjl)
      generalize l[j] = x at *
      obtain ⟨S, hS⟩ : ∃ S, bstr (recL [x]) = S := ⟨_, rfl⟩
      have hSb : bts S = 1 :: (putL (tagN x) ++ bodyL x) := by
        rw [← hS, bts_bstr _ (recL_lt [x] (by simp)), rec_one]
      have hSz : S.size = 1 + sz (tagN x) + (bodyL x).length := by rw [← hS, bstr_size]; exact (rec_one_len HCX.out).1
      have hS10 : S.size ≤ 1010 := by rw [← hS, bstr_size]; exact (rec_one_len HCX.out).2
      have htl : tagN x < 18446744073709551616 := tagN_lt (by have := (chk_of HCX.out).2.2.2; omega)
      have hszl := sz_le (tagN x)
      obtain ⟨q, hq⟩ : ∃ q, sz (tagN x) = q := ⟨_, rfl⟩
      obtain ⟨Z, hZ⟩ : ∃ Z, S.size = Z := ⟨_, rfl⟩
      rw [hZ] at hSz hS10
      -- the three parts of a record of one
      have hX1 : bts (S.extract 1 Z) = putL (tagN x) ++ bodyL x := by rw [← hZ, bts_cutr, hSb]; rfl
      have hX2 : bts (S.extract 1 (1 + q)) = putL (tagN x) := by
        rw [bts_cutn, hSb, List.drop_succ_cons, List.drop_zero, List.take_append_of_le_length (by rw [putL_length, hq]; exact Nat.le_refl _), ← hq, ← putL_length, List.take_length]
      have hX3 : bts (S.extract (1 + q) Z) = bodyL x := by
        rw [← hZ, bts_cutr, hSb, show 1 + q = q + 1 by omega, List.drop_succ_cons, ← hq, ← putL_length, List.drop_left]
      have hT := take_any (S.extract 1 Z)
      rw [hX1] at hT
      have HTK := Lib.hid (fun W => (show Calls Try.prog 54 #[.string (S.extract 1 Z)] W fun e w' => e = .returned (.tuple #[.int .u64 (tagN x : Nat), .int .i64 q, .int .i64 0]) ∧ Below W.heap.size W w' from by
        have h := hT W (by rw [ByteArray.size_extract]; unfold maxLen; omega)
        unfold Took at h
        rw [takeS_put _ _ htl, hq] at h
        exact h))
      have hp0 := pu_step hp (one_allocC (o := .cells (valC x) 56))
      have hp1 := pu_step hp0 (one_allocC (o := .cells (valC x) 56))
      have HP1 := Lib.hid hp1
      have hpr := put_row (some ⟨wr.heap.size + 1, 0, none⟩) [x] 1 1 ((wr.alloc (.cells (valC x) 56)).alloc (.cells (valC x) 56)) (vals_one (blk_new _ _ _ _ (by simp)) (by simp)) rfl (fun y hy => by rw [List.mem_singleton.1 hy]; exact HFX.out)
      rw [putS_ok (chk_one HCX.out) (by have := (rec_one_len HCX.out).2; omega), hS] at hpr
      have HPR := Lib.hid hpr
      have HWS1 := Lib.hid (fun W (h : Pu w w.heap.size (w.heap.size + 1) (n :: tagsL (l.take j)) (bodsL (l.take j)) W) => pu_ws1 (S.extract 1 (1 + q)) h (by rw [ByteArray.size_extract]; simp only [List.length_cons]; omega))
      have HWS2 := Lib.hid (fun W (h : Pu w w.heap.size (w.heap.size + 1) (n :: tagsL (l.take (j + 1))) (bodsL (l.take j)) W) => pu_ws2 (S.extract (1 + q) Z) h (by rw [ByteArray.size_extract]; omega))
      have HX2 := Lib.hid hX2
      have HX3 := Lib.hid hX3
      have HSZ := Lib.hid (And.intro hSz hszl)
      have hqZ : (q : Int) + 1 ≤ Z := by omega
      have hZ1 : (1 : Int) ≤ Z := by omega
      have hq9 : (q : Int) ≤ 9 := by omega
      have hq0 : (0 : Int) ≤ q := by omega
      have hjI : (j : Int) < n := by omega
      have h0j : (0 : Int) ≤ j := by omega
      clear hX1 hX2 hX3 hT hp hp0 hp1 hpr hSb hSz hS10 htl hszl hq hS hb a1 a2 a3 hcs hjl hl1 hl2
      obtain ⟨p, qq, s⟩ := x
      simp only at c1 c2 c3
      go_wp2_with fail
      refine (HPR.out).mono ?_
      rintro e w3 ⟨rfl, hb3⟩
      have HP3 := Lib.hid (pu_step HP1.out hb3)
      clear hb3 c1 c2 c3
      go_wp2_with fail
      refine (HTK.out _).mono ?_
      rintro e w4 ⟨rfl, hb4⟩
      have HP4 := Lib.hid (pu_step HP3.out hb4)
      have hn1 : ((1 : Int) + q).toNat = 1 + q := by omega
      have hw1 : IntKind.i64.wrap ((1 : Int) + q) = 1 + q := by rw [IntKind.wrap_i64]; omega
      have h1q : (0 : Int) ≤ 1 + q := by omega
      have h1q2 : (1 : Int) ≤ 1 + q := by omega
      have h1q3 : (1 : Int) + q ≤ Z := by omega
      clear hb4
      go_wp2_with fail
      refine (HWS1.out _ HP4.out).mono ?_
      rintro e w5 ⟨rfl, hp5, _⟩
      rw [HX2.out, List.cons_append, ← HT1.out] at hp5
      have HP5 := Lib.hid hp5
      clear hp5
      go_wp2_with fail
      refine (HWS2.out _ HP5.out).mono ?_
      rintro e w6 ⟨rfl, hp6, _⟩
      rw [HX3.out, ← HD1.out] at hp6
      have HP6 := Lib.hid hp6
      clear hp6
      go_wp2
      go_roundw
      case rel => exact ⟨j + 1, by omega, by go_num, HP6.out⟩
      case measure => simp only [intOf]; omega
    · obtain rfl : j = n := by omega
      have hfull : l.take j = l := by rw [HN.out, List.take_length]
      rw [hfull] at hp hl1 hl2
      have hst := pu_str1 hp (by simp)
      have HST := Lib.hid hst
      have hts : ∀ y ∈ j :: tagsL l, y < 256 := fun y hy => recL_lt l (by have := HN.out; omega) y (by
        simp only [recL, List.mem_cons, List.mem_append]
        rcases List.mem_cons.1 hy with rfl | hy
        · exact .inl HN.out
        · exact .inr (.inl hy))
      have hcat : bstr (j :: tagsL l) ++ bstr (bodsL l) = bstr (recL l) := by
        rw [bstr_append, recL, HN.out, List.cons_append]
      have hz1 : (bstr (j :: tagsL l)).size = (tagsL l).length + 1 := by rw [bstr_size, List.length_cons]
      have hz2 : (bstr (bodsL l)).size = (bodsL l).length := bstr_size _
      have HB := Lib.hid hp.2
      have g1 : (bstr (j :: tagsL l)).size + (bstr (bodsL l)).size ≤ 9223372036854775807 := by omega
      have g2 : ¬ (9223372036854775807 < (bstr (j :: tagsL l)).size + (bstr (bodsL l)).size) := by omega
      have g3 : ((bstr (j :: tagsL l)).size : Int) + (bstr (bodsL l)).size ≤ 9223372036854775807 := by omega
      have HCAT := Lib.hid hcat
      generalize bstr (j :: tagsL l) = X at *
      have hbs := fun W (h : Lib.IsBuilder 47 5 w.heap.size (w.heap.size + 1) (Lib.strCells (bstr (bodsL l))) W) hB => bstring w.heap.size (w.heap.size + 1) (bodsL l) W h hB
      have HBS := Lib.hid hbs
      generalize bstr (bodsL l) = Y at *
      clear hp hst hl1 hl2 hts hcat hz1 hz2 hbs hfull
      go_wp2_with fail
      refine (HST.out).mono ?_
      rintro e w3 ⟨rfl, hib, hb3⟩
      have HB3 := Lib.hid hb3
      have h3 := HBS.out _ hib hb3.size
      have H3 := Lib.hid h3
      clear h3 hib hb3
      go_wp2_with fail
      refine (H3.out).mono ?_
      rintro e w4 ⟨rfl, hb4⟩
      have HB4 := Lib.hid (HB3.out.trans hb4)
      clear hb4
      go_wp2
      go_ret
      exact ⟨by rw [HCAT.out]; rfl, HB4.out⟩
end Go.Proofs.Ytocbdehcjcggeaa
namespace Go.Proofs.Ytocbdehcjcggeaa
open Go.RowKit Go
set_option linter.unusedVariables false
set_option linter.unusedSimpArgs false
/-- one strings.Builder -/
def Ob (B g : Nat) (L : List Nat) (W : World) : Prop := ∃ v, Bu B g v (Lib.strCells (bstr L)) W
theorem ob_step {B g : Nat} {L : List Nat} {W W' : World} (h : Ob B g L W) (hb : Below W.heap.size W W') : Ob B g L W' := h.elim fun v hv => ⟨v, hv.keep hb.os hb.tape hb.output hb.size (fun k hk _ => hb.block k hk)⟩
theorem ob_new {B : Nat} (W : World) (hB : B ≤ W.heap.size) : Ob B W.heap.size [] (W.alloc (.cells #[.pointer none, .slice none 0 0] 47)) := ⟨_, bu_new B W hB⟩
theorem ob_ws {B g : Nat} {L : List Nat} {W : World} (s : ByteArray) (h : Ob B g L W) (hB : B ≤ W.heap.size) (hlen : L.length + s.size ≤ 140737488355328) :
    Calls Try.prog 23 #[.pointer (some ⟨g, 0, none⟩), .string s] W fun e w' => e = .returned (.tuple #[.int .i64 s.size, .nilIface]) ∧ Ob B g (L ++ bts s) w' ∧ Below B W w' ∧ Oth W w' := by
  obtain ⟨v, hv⟩ := h
  refine (bu_writeString B g v _ s W hv (by rw [Lib.strCells_length, bstr_size]; exact hlen) hB).mono ?_
  rintro e w' ⟨rfl, v', h1', hfr, hb, hat⟩
  rw [strCells_app] at h1'
  exact ⟨rfl, ⟨v', h1'⟩, hb, bu_oth hv hfr⟩
theorem ob_str {B g : Nat} {L : List Nat} {W : World} (h : Ob B g L W) (hB : B ≤ W.heap.size) :
    Calls Try.prog 27 #[.pointer (some ⟨g, 0, none⟩)] W fun e w' => e = .returned (.string (bstr L)) ∧ Below B W w' := by
  obtain ⟨v, hv⟩ := h
  exact bstring B g L W hv.old hB
/-- a text, ahead of it how long it is -/
def textL (L : List Nat) : List Nat := putL L.length ++ L
/-- a change as bytes -/
def chgL (x : Cg) : List Nat := textL (recL [(2, 0, x.t)]) ++ textL (recL x.k) ++ textL (recL x.o) ++ textL (recL x.n)
def chgsL (l : List Cg) : List Nat := l.flatMap chgL
/-- a changeset as bytes -/
def putG (l : List Cg) : List Nat := putL l.length ++ chgsL l
theorem chgsL_take (l : List Cg) (j : Nat) (h : j < l.length) : chgsL (l.take (j + 1)) = chgsL (l.take j) ++ chgL l[j] := by
  unfold chgsL
  rw [take_snocC h, List.flatMap_append]
  simp
theorem row_ok {l : List Val} (h : rowMay l = true) : chkR l = 0 ∧ (recL l).length ≤ 4000 := by
  unfold rowMay at h
  simp only [Bool.and_eq_true, decide_eq_true_eq] at h
  unfold sizeZ at h
  split at h
  · rename_i h1
    exact ⟨h1, by have := h.2; omega⟩
  · exact absurd h.1 (by omega)
theorem may_rows {x : Cg} (h : mayC x = true) : rowMay x.o = true ∧ rowMay x.n = true := by
  unfold mayC at h
  simp only [Bool.and_eq_true] at h
  exact ⟨h.2.2.2.2.1, h.2.2.2.2.2.1⟩
theorem key_len {l : List Val} (h16 : l.length ≤ 16) (hc : ∀ x ∈ l, chk x = 0) : (recL l).length ≤ 16145 := by
  have h1 := tagsL_len l
  have h2 := bodsL_len l hc
  rw [recL_len]
  omega
theorem tab_ok {t : ByteArray} (h : t.size ≤ 32) : chkR [((2 : Int), (0 : Int), t)] = 0 ∧ (recL [((2 : Int), (0 : Int), t)]).length ≤ 1010 := by
  have hc : chk ((2 : Int), (0 : Int), t) = 0 := by unfold chk; simp; omega
  exact ⟨chk_one hc, (rec_one_len hc).2⟩
theorem textL_len {L : List Nat} (h : L.length ≤ 17000) : (textL L).length ≤ 17009 := by
  have := (sz_le L.length).2
  rw [textL, List.length_append, putL_length]
  omega
theorem chgL_len {x : Cg} (h : mayC x = true) (ht : x.t.size ≤ 32) : (chgL x).length ≤ 70000 := by
  have h1 := textL_len (L := recL [(2, 0, x.t)]) (by have := (tab_ok ht).2; omega)
  have h2 := textL_len (L := recL x.k) (by have := key_len (may_len h) (may_key h).2; omega)
  have h3 := textL_len (L := recL x.o) (by have := (row_ok (may_rows h).1).2; omega)
  have h4 := textL_len (L := recL x.n) (by have := (row_ok (may_rows h).2).2; omega)
  simp only [chgL, List.length_append]
  omega
theorem chgsL_len {l : List Cg} (h : ∀ x ∈ l, mayC x = true ∧ x.t.size ≤ 32) : (chgsL l).length ≤ 70000 * l.length := by
  induction l with
  | nil => simp [chgsL]
  | cons x l ih =>
    have h1 := ih (fun y hy => h y (List.mem_cons_of_mem _ hy))
    have h2 := chgL_len (h x (List.mem_cons_self ..)).1 (h x (List.mem_cons_self ..)).2
    simp only [chgsL, List.flatMap_cons, List.length_append, List.length_cons] at h1 ⊢
    omega
/-- a text that lies in a block, and what of it is written -/
theorem text_bts (s : ByteArray) : bts (bstr (putL s.size) ++ s) = textL (bts s) := by
  have ha : ∀ a b : ByteArray, bts (a ++ b) = bts a ++ bts b := fun a b => by simp [bts]
  rw [ha, bts_bstr _ (putL_lt _), textL, bts_length]
theorem putN_any (s : ByteArray) (hs : s.size ≤ 20000) (W : World) : Calls Try.prog 24 #[.int .u64 s.size] W fun e w' => e = .returned (.string (bstr (putL s.size))) ∧ Below W.heap.size W w' := put_any s.size W (by omega)
set_option maxRecDepth 100000 in
set_option maxHeartbeats 16000000 in
theorem put_gs (A : Option Addr) (l : List Cg) (n c : Nat) (w : World) (hO : Cgs w w.heap.size A l) (hn : n = l.length) (hsm : n ≤ 1000) (hfit : ∀ x ∈ l, FitC x) :
    Calls Try.prog 9 #[.slice A n c] w fun e w' => Below w.heap.size w w' ∧ (chkG l ≠ 0 → e = .returned (.tuple #[.string ⟨#[]⟩, .int .i64 (chkG l)])) ∧ (chkG l = 0 → e = .returned (.tuple #[.string (bstr (putG l)), .int .i64 0])) := by
  have HCK := Lib.hid (gcheck_any A l n c w hO hn (by unfold maxLen; omega) hfit)
  have HN := Lib.hid hn
  have HO := Lib.hid hO
  have HF := Lib.hid hfit
  have hnI : (n : Int) ≤ 1000 := by omega
  have hwn : IntKind.u64.wrap (n : Int) = n := by rw [IntKind.wrap_u64]; omega
  clear hO hfit hn
  go_enter Try.func9, Try.ntmps9
  go_wp2_with fail
  refine (HCK.out).mono ?_
  rintro e w1 ⟨rfl, hb1⟩
  obtain ⟨z, hz⟩ : ∃ z, chkG l = z := ⟨_, rfl⟩
  rw [hz]
  have HZ := Lib.hid hz
  have HB1 := Lib.hid hb1
  clear hz hb1
  by_cases h0 : z = 0
  · subst h0
    have HMAY := Lib.hid (okC_may (chkG_zero HZ.out))
    have HOB := Lib.hid (ob_new w1 HB1.out.size)
    have HBA := Lib.hid (bj HB1.out (one_allocC (o := .cells #[.pointer none, .slice none 0 0] 47)))
    obtain ⟨gb, hgb⟩ : ∃ gb, w1.heap.size = gb := ⟨_, rfl⟩
    have hpn := put_any n (w1.alloc (.cells #[.pointer none, .slice none 0 0] 47)) (by omega)
    have HPN := Lib.hid hpn
    clear hpn
    rw [hgb] at HOB
    go_wp2_with fail
    refine (HPN.out).mono ?_
    rintro e w2 ⟨rfl, hb2⟩
    have HB2 := Lib.hid (bj HBA.out hb2)
    have hws := ob_ws (bstr (putL n)) (ob_step HOB.out hb2) HB2.out.size (by rw [bstr_size, putL_length]; have := (sz_le n).2; simp; omega)
    rw [List.nil_append, bts_bstr _ (putL_lt _)] at hws
    have HWS := Lib.hid hws
    clear hws hb2
    go_wp2_with fail
    refine (HWS.out).mono ?_
    rintro e w3 ⟨rfl, ho3, hb3, _⟩
    have HO3 := Lib.hid ho3
    have HB3 := Lib.hid (HB2.out.trans hb3)
    clear ho3 hb3 HPN HWS hgb
    go_wp2
    go_loopw [28] (fun i wr => ∃ j : Nat, j ≤ n ∧ i = .int .i64 j ∧ Ob w.heap.size gb (putL n ++ chgsL (l.take j)) wr ∧ Below w.heap.size w wr) (fun i _ => n - (intOf i).toNat)
    case atStart => exact ⟨0, by omega, rfl, by simpa [chgsL] using HO3.out, HB3.out⟩
    case round =>
      clear HO3 HB3 HOB HBA HB2 HB1 HCK
      obtain ⟨j, hj, rfl, hob, hbw⟩ := hrel
      by_cases hjn : j < n
      · have hlt : j < l.length := by have := HN.out; omega
        obtain ⟨b, of, rfl, hbl, hcs⟩ := cgs_get HO.out (fun e => by rw [e] at hlt; simp at hlt)
        have hI := (hcs w (Below.refl _ _) j l[j] (List.getElem?_eq_getElem hlt)).2
        obtain ⟨⟨a0, a1, a2, a3⟩, _⟩ := hcs wr hbw j l[j] (List.getElem?_eq_getElem hlt)
        have HFX := Lib.hid (HF.out _ (List.getElem_mem hlt))
        have hmx := HMAY.out _ (List.getElem_mem hlt)
        have HTK := Lib.hid (chgsL_take l j hlt)
        have HLEN := Lib.hid (show (putL n ++ chgsL (l.take j)).length ≤ 70000009 from by
          have h1 := chgsL_len (l := l.take j) (fun x hx => ⟨HMAY.out x (List.mem_of_mem_take hx), (may_keyOk (HMAY.out x (List.mem_of_mem_take hx)) (HF.out x (List.mem_of_mem_take hx))).t⟩)
          have h2 := (sz_le n).2
          rw [List.length_take] at h1
          rw [List.length_append, putL_length]
          have := HN.out
          omega)
        generalize l[j] = X at *
        have hko := may_keyOk hmx HFX.out
        have HI := Lib.hid hI
        have hjI : (j : Int) < n := by omega
        have h0j : (0 : Int) ≤ j := by omega
        have hT := tab_ok hko.t
        have hR1 := row_ok (may_rows hmx).1
        have hR2 := row_ok (may_rows hmx).2
        have hK := key_len hko.le (may_key hmx).2
        obtain ⟨S0, hS0⟩ : ∃ S, bstr (recL [((2 : Int), (0 : Int), X.t)]) = S := ⟨_, rfl⟩
        obtain ⟨S1, hS1⟩ : ∃ S, bstr (recL X.k) = S := ⟨_, rfl⟩
        obtain ⟨S2, hS2⟩ : ∃ S, bstr (recL X.o) = S := ⟨_, rfl⟩
        obtain ⟨S3, hS3⟩ : ∃ S, bstr (recL X.n) = S := ⟨_, rfl⟩
        have hB0 : bts S0 = recL [((2 : Int), (0 : Int), X.t)] := by rw [← hS0, bts_bstr _ (recL_lt _ (by simp))]
        have hB1 : bts S1 = recL X.k := by rw [← hS1, bts_bstr _ (recL_lt _ (by have := hko.le; omega))]
        have hB2 : bts S2 = recL X.o := by rw [← hS2, bts_bstr _ (recL_lt _ (by have := chkR_len hR1.1; omega))]
        have hB3 : bts S3 = recL X.n := by rw [← hS3, bts_bstr _ (recL_lt _ (by have := chkR_len hR2.1; omega))]
        have z0 : S0.size ≤ 17000 := by rw [← hS0, bstr_size]; have := hT.2; omega
        have z1 : S1.size ≤ 17000 := by rw [← hS1, bstr_size]; omega
        have z2 : S2.size ≤ 17000 := by rw [← hS2, bstr_size]; have := hR1.2; omega
        have z3 : S3.size ≤ 17000 := by rw [← hS3, bstr_size]; have := hR2.2; omega
        have HCH := Lib.hid (show chgL X = textL (bts S0) ++ textL (bts S1) ++ textL (bts S2) ++ textL (bts S3) from by rw [hB0, hB1, hB2, hB3, chgL])
        have hbox := bj hbw (one_allocC (o := .cells (cgC X) 33))
        have HBX := Lib.hid (Blk.new wr 33 (cgC X))
        have HOB1 := Lib.hid (ob_step (ob_step hob (one_allocC (o := .cells (cgC X) 33))) (one_allocC (o := .cells (valC ((2 : Int), (0 : Int), X.t)) 56)))
        have HBB1 := Lib.hid (bj hbox (one_allocC (o := .cells (valC ((2 : Int), (0 : Int), X.t)) 56)))
        have hp0 := put_row (some ⟨wr.heap.size + 1, 0, none⟩) [((2 : Int), (0 : Int), X.t)] 1 1 ((wr.alloc (.cells (cgC X) 33)).alloc (.cells (valC ((2 : Int), (0 : Int), X.t)) 56)) (vals_one (blk_new _ _ _ _ (by simp)) (by simp)) rfl (fun y hy => by rw [List.mem_singleton.1 hy]; exact ⟨by show (0 : Int) ≤ 2; omega, by show (2 : Int) < 256; omega, by show (-9223372036854775808 : Int) ≤ 0; omega, by show (0 : Int) ≤ 9223372036854775807; omega⟩)
        rw [putS_ok hT.1 (by have := hT.2; omega), hS0] at hp0
        have HP0 := Lib.hid hp0
        have HPO := Lib.hid (fun W (hb : Below w.heap.size w W) => (show Calls Try.prog 25 #[.slice X.oA X.o.length X.oc] W fun e w' => e = .returned (.tuple #[.string S2, .int .i64 0]) ∧ Below W.heap.size W w' from by
          have h := put_row X.oA X.o X.o.length X.oc W (vals_mono (vals_below HI.out.2.1 hb) hb.size) rfl (fun y hy => (HFX.out.2.2.2.2.2.1 y hy).1)
          rw [putS_ok hR1.1 hR1.2, hS2] at h
          exact h))
        have HPW := Lib.hid (fun W (hb : Below w.heap.size w W) => (show Calls Try.prog 25 #[.slice X.nA X.n.length X.nc] W fun e w' => e = .returned (.tuple #[.string S3, .int .i64 0]) ∧ Below W.heap.size W w' from by
          have h := put_row X.nA X.n X.n.length X.nc W (vals_mono (vals_below HI.out.2.2 hb) hb.size) rfl (fun y hy => (HFX.out.2.2.2.2.2.2 y hy).1)
          rw [putS_ok hR2.1 hR2.2, hS3] at h
          exact h))
        have HPK := Lib.hid (fun W (hb : Below w.heap.size w W) => (show Calls Try.prog 26 #[.slice X.kA X.k.length X.kc] W fun e w' => e = .returned (.string S1) ∧ Below W.heap.size W w' from by
          have h := putKey_any X.kA X.k X.k.length X.kc W (vals_mono (vals_below HI.out.1 hb) hb.size) rfl hko.le (fun y hy => (HFX.out.2.2.2.2.1 y hy).1) (may_key hmx).2
          rw [hS1] at h
          exact h))
        have HZS := Lib.hid (And.intro z0 (And.intro z1 (And.intro z2 z3)))
        clear hcs hI hlt hbl hmx hko hT hR1 hR2 hK hS0 hS1 hS2 hS3 hB0 hB1 hB2 hB3 z0 z1 z2 z3 hp0 hob hbw hbox
        go_wp2_with fail
        refine (HP0.out).mono ?_
        rintro e w2 ⟨rfl, hb2⟩
        have HB2 := Lib.hid (bj HBB1.out hb2)
        have HOB2 := Lib.hid (ob_step HOB1.out hb2)
        have HBX2 := Lib.hid ((HBX.out.alloc (.cells (valC ((2 : Int), (0 : Int), X.t)) 56)).below hb2 (by simp; omega))
        have p2 : w2.cell? ⟨wr.heap.size, 2, none⟩ = some (.slice X.oA X.o.length X.oc) := HBX2.out.cell 2
        clear hb2 a0 a1 a2 a3 HBB1 HOB1 HBX
        go_wp2_with fail
        refine (HPO.out _ HB2.out).mono ?_
        rintro e w3 ⟨rfl, hb3⟩
        have HB3 := Lib.hid (bj HB2.out hb3)
        have HOB3 := Lib.hid (ob_step HOB2.out hb3)
        have HBX3 := Lib.hid (HBX2.out.below hb3 HBX2.out.lt)
        have p3 : w3.cell? ⟨wr.heap.size, 3, none⟩ = some (.slice X.nA X.n.length X.nc) := HBX3.out.cell 3
        clear hb3 p2
        go_wp2_with fail
        refine (HPW.out _ HB3.out).mono ?_
        rintro e w4 ⟨rfl, hb4⟩
        have HB4 := Lib.hid (bj HB3.out hb4)
        have HOB4 := Lib.hid (ob_step HOB3.out hb4)
        have HBX4 := Lib.hid (HBX3.out.below hb4 HBX3.out.lt)
        have p1 : w4.cell? ⟨wr.heap.size, 1, none⟩ = some (.slice X.kA X.k.length X.kc) := HBX4.out.cell 1
        clear hb4 p3
        go_wp2_with fail
        refine (HPK.out _ HB4.out).mono ?_
        rintro e w5 ⟨rfl, hb5⟩
        have HOB5 := Lib.hid (ob_step (ob_step HOB4.out hb5) (one_allocC (o := .cells #[.string S0, .string S1, .string S2, .string S3] 9)))
        have HB5 := Lib.hid (bj (bj HB4.out hb5) (one_allocC (o := .cells #[.string S0, .string S1, .string S2, .string S3] 9)))
        have HBS5 := Lib.hid (Blk.new w5 9 #[.string S0, .string S1, .string S2, .string S3])
        clear hb5 p1 HP0 HPO HPW HPK HB2 HB3 HB4 HOB2 HOB3 HOB4 HBX2 HBX3 HBX4
        obtain ⟨gs, hgs⟩ : ∃ gs, w5.heap.size = gs := ⟨_, rfl⟩
        rw [hgs] at HBS5
        generalize hL : putL n ++ chgsL (l.take j) = L at *
        have HL := Lib.hid hL
        clear hL
        go_wp2_with fail
        go_loopw [60] (fun i wq => ∃ k : Nat, k ≤ 4 ∧ i = .int .i64 k ∧ Blk wq gs 9 #[.string S0, .string S1, .string S2, .string S3] ∧ Ob w.heap.size gb (L ++ ((textL (bts S0) :: textL (bts S1) :: textL (bts S2) :: textL (bts S3) :: []).take k).flatten) wq ∧ Below w.heap.size w wq) (fun i _ => 4 - (intOf i).toNat)
        case atStart => exact ⟨0, by omega, rfl, HBS5.out, by simpa using HOB5.out, HB5.out⟩
        case round =>
          clear HBS5 HOB5 HB5 hgs
          obtain ⟨k, hk, rfl, hbk, hob, hbw⟩ := hrel
          have hcase : k = 0 ∨ k = 1 ∨ k = 2 ∨ k = 3 ∨ k = 4 := by omega
          rcases hcase with rfl | rfl | rfl | rfl | rfl
          · have hc := hbk.cell 0
            have hc : wr.cell? ⟨gs, 0, none⟩ = some (.string S0) := hc
            have hzs : S0.size ≤ 17000 := HZS.out.1
            have hwz : IntKind.u64.wrap (S0.size : Int) = S0.size := by rw [IntKind.wrap_u64]; omega
            have HPS := Lib.hid (putN_any S0 (by omega))
            have HXB := Lib.hid (text_bts S0)
            have hq1 : (bstr (putL S0.size)).size ≤ 9 := by rw [bstr_size, putL_length]; exact (sz_le _).2
            have HNX := Lib.hid (show L ++ ((textL (bts S0) :: textL (bts S1) :: textL (bts S2) :: textL (bts S3) :: []).take 0).flatten ++ textL (bts S0) = L ++ ((textL (bts S0) :: textL (bts S1) :: textL (bts S2) :: textL (bts S3) :: []).take 1).flatten from by simp [List.append_assoc])
            have HLQ := Lib.hid (show (L ++ ((textL (bts S0) :: textL (bts S1) :: textL (bts S2) :: textL (bts S3) :: []).take 0).flatten).length ≤ 70100000 from by
              have t0 := textL_len (L := bts S0) (by rw [bts_length]; exact HZS.out.1)
              have t1 := textL_len (L := bts S1) (by rw [bts_length]; exact HZS.out.2.1)
              have t2 := textL_len (L := bts S2) (by rw [bts_length]; exact HZS.out.2.2.1)
              have t3 := textL_len (L := bts S3) (by rw [bts_length]; exact HZS.out.2.2.2)
              have := HLEN.out
              simp only [List.take_succ_cons, List.take_zero, List.flatten_cons, List.flatten_nil, List.length_append, List.length_nil]
              omega)
            have HBK := Lib.hid hbk
            have HOBK := Lib.hid hob
            have HBWK := Lib.hid hbw
            generalize L ++ ((textL (bts S0) :: textL (bts S1) :: textL (bts S2) :: textL (bts S3) :: []).take 0).flatten = Q at *
            clear hbk hob hbw
            obtain ⟨PN, hPN⟩ : ∃ PN, bstr (putL S0.size) = PN := ⟨_, rfl⟩
            rw [hPN] at HPS HXB hq1
            have g1 : PN.size + S0.size ≤ 9223372036854775807 := by omega
            have g2 : ¬ (9223372036854775807 < PN.size + S0.size) := by omega
            have g3 : (PN.size : Int) + S0.size ≤ 9223372036854775807 := by omega
            have HSM := Lib.hid (And.intro hzs hq1)
            clear hPN hzs hq1
            go_wp2_with fail
            refine (HPS.out _).mono ?_
            rintro e w6 ⟨rfl, hb6⟩
            have hws := ob_ws (PN ++ S0) (ob_step HOBK.out hb6) (bj HBWK.out hb6).size (by rw [ByteArray.size_append]; have := HLQ.out; have := HSM.out; omega)
            rw [HXB.out, HNX.out] at hws
            have HWS := Lib.hid hws
            have HB6 := Lib.hid (bj HBWK.out hb6)
            have HBK6 := Lib.hid (HBK.out.below hb6 HBK.out.lt)
            clear hws hb6 hc
            go_wp2_with fail
            refine (HWS.out).mono ?_
            rintro e w7 ⟨rfl, ho7, hb7, hot⟩
            have HO7 := Lib.hid ho7
            have HB7 := Lib.hid (HB6.out.trans hb7)
            have HK7 := Lib.hid (hot _ _ _ (by decide) (by decide) HBK6.out)
            clear ho7 hb7 hot
            go_wp2
            go_roundw
            case rel => exact ⟨1, by omega, by simp, HK7.out, HO7.out, HB7.out⟩
            case measure => simp [intOf]
          · have hc := hbk.cell 1
            have hc : wr.cell? ⟨gs, 1, none⟩ = some (.string S1) := hc
            have hzs : S1.size ≤ 17000 := HZS.out.2.1
            have hwz : IntKind.u64.wrap (S1.size : Int) = S1.size := by rw [IntKind.wrap_u64]; omega
            have HPS := Lib.hid (putN_any S1 (by omega))
            have HXB := Lib.hid (text_bts S1)
            have hq1 : (bstr (putL S1.size)).size ≤ 9 := by rw [bstr_size, putL_length]; exact (sz_le _).2
            have HNX := Lib.hid (show L ++ ((textL (bts S0) :: textL (bts S1) :: textL (bts S2) :: textL (bts S3) :: []).take 1).flatten ++ textL (bts S1) = L ++ ((textL (bts S0) :: textL (bts S1) :: textL (bts S2) :: textL (bts S3) :: []).take 2).flatten from by simp [List.append_assoc])
            have HLQ := Lib.hid (show (L ++ ((textL (bts S0) :: textL (bts S1) :: textL (bts S2) :: textL (bts S3) :: []).take 1).flatten).length ≤ 70100000 from by
              have t0 := textL_len (L := bts S0) (by rw [bts_length]; exact HZS.out.1)
              have t1 := textL_len (L := bts S1) (by rw [bts_length]; exact HZS.out.2.1)
              have t2 := textL_len (L := bts S2) (by rw [bts_length]; exact HZS.out.2.2.1)
              have t3 := textL_len (L := bts S3) (by rw [bts_length]; exact HZS.out.2.2.2)
              have := HLEN.out
              simp only [List.take_succ_cons, List.take_zero, List.flatten_cons, List.flatten_nil, List.length_append, List.length_nil]
              omega)
            have HBK := Lib.hid hbk
            have HOBK := Lib.hid hob
            have HBWK := Lib.hid hbw
            generalize L ++ ((textL (bts S0) :: textL (bts S1) :: textL (bts S2) :: textL (bts S3) :: []).take 1).flatten = Q at *
            clear hbk hob hbw
            obtain ⟨PN, hPN⟩ : ∃ PN, bstr (putL S1.size) = PN := ⟨_, rfl⟩
            rw [hPN] at HPS HXB hq1
            have g1 : PN.size + S1.size ≤ 9223372036854775807 := by omega
            have g2 : ¬ (9223372036854775807 < PN.size + S1.size) := by omega
            have g3 : (PN.size : Int) + S1.size ≤ 9223372036854775807 := by omega
            have HSM := Lib.hid (And.intro hzs hq1)
            clear hPN hzs hq1
            go_wp2_with fail
            refine (HPS.out _).mono ?_
            rintro e w6 ⟨rfl, hb6⟩
            have hws := ob_ws (PN ++ S1) (ob_step HOBK.out hb6) (bj HBWK.out hb6).size (by rw [ByteArray.size_append]; have := HLQ.out; have := HSM.out; omega)
            rw [HXB.out, HNX.out] at hws
            have HWS := Lib.hid hws
            have HB6 := Lib.hid (bj HBWK.out hb6)
            have HBK6 := Lib.hid (HBK.out.below hb6 HBK.out.lt)
            clear hws hb6 hc
            go_wp2_with fail
            refine (HWS.out).mono ?_
            rintro e w7 ⟨rfl, ho7, hb7, hot⟩
            have HO7 := Lib.hid ho7
            have HB7 := Lib.hid (HB6.out.trans hb7)
            have HK7 := Lib.hid (hot _ _ _ (by decide) (by decide) HBK6.out)
            clear ho7 hb7 hot
            go_wp2
            go_roundw
            case rel => exact ⟨2, by omega, by simp, HK7.out, HO7.out, HB7.out⟩
            case measure => simp [intOf]
          · have hc := hbk.cell 2
            have hc : wr.cell? ⟨gs, 2, none⟩ = some (.string S2) := hc
            have hzs : S2.size ≤ 17000 := HZS.out.2.2.1
            have hwz : IntKind.u64.wrap (S2.size : Int) = S2.size := by rw [IntKind.wrap_u64]; omega
            have HPS := Lib.hid (putN_any S2 (by omega))
            have HXB := Lib.hid (text_bts S2)
            have hq1 : (bstr (putL S2.size)).size ≤ 9 := by rw [bstr_size, putL_length]; exact (sz_le _).2
            have HNX := Lib.hid (show L ++ ((textL (bts S0) :: textL (bts S1) :: textL (bts S2) :: textL (bts S3) :: []).take 2).flatten ++ textL (bts S2) = L ++ ((textL (bts S0) :: textL (bts S1) :: textL (bts S2) :: textL (bts S3) :: []).take 3).flatten from by simp [List.append_assoc])
            have HLQ := Lib.hid (show (L ++ ((textL (bts S0) :: textL (bts S1) :: textL (bts S2) :: textL (bts S3) :: []).take 2).flatten).length ≤ 70100000 from by
              have t0 := textL_len (L := bts S0) (by rw [bts_length]; exact HZS.out.1)
              have t1 := textL_len (L := bts S1) (by rw [bts_length]; exact HZS.out.2.1)
              have t2 := textL_len (L := bts S2) (by rw [bts_length]; exact HZS.out.2.2.1)
              have t3 := textL_len (L := bts S3) (by rw [bts_length]; exact HZS.out.2.2.2)
              have := HLEN.out
              simp only [List.take_succ_cons, List.take_zero, List.flatten_cons, List.flatten_nil, List.length_append, List.length_nil]
              omega)
            have HBK := Lib.hid hbk
            have HOBK := Lib.hid hob
            have HBWK := Lib.hid hbw
            generalize L ++ ((textL (bts S0) :: textL (bts S1) :: textL (bts S2) :: textL (bts S3) :: []).take 2).flatten = Q at *
            clear hbk hob hbw
            obtain ⟨PN, hPN⟩ : ∃ PN, bstr (putL S2.size) = PN := ⟨_, rfl⟩
            rw [hPN] at HPS HXB hq1
            have g1 : PN.size + S2.size ≤ 9223372036854775807 := by omega
            have g2 : ¬ (9223372036854775807 < PN.size + S2.size) := by omega
            have g3 : (PN.size : Int) + S2.size ≤ 9223372036854775807 := by omega
            have HSM := Lib.hid (And.intro hzs hq1)
            clear hPN hzs hq1
            go_wp2_with fail
            refine (HPS.out _).mono ?_
            rintro e w6 ⟨rfl, hb6⟩
            have hws := ob_ws (PN ++ S2) (ob_step HOBK.out hb6) (bj HBWK.out hb6).size (by rw [ByteArray.size_append]; have := HLQ.out; have := HSM.out; omega)
            rw [HXB.out, HNX.out] at hws
            have HWS := Lib.hid hws
            have HB6 := Lib.hid (bj HBWK.out hb6)
            have HBK6 := Lib.hid (HBK.out.below hb6 HBK.out.lt)
            clear hws hb6 hc
            go_wp2_with fail
            refine (HWS.out).mono ?_
            rintro e w7 ⟨rfl, ho7, hb7, hot⟩
            have HO7 := Lib.hid ho7
            have HB7 := Lib.hid (HB6.out.trans hb7)
            have HK7 := Lib.hid (hot _ _ _ (by decide) (by decide) HBK6.out)
            clear ho7 hb7 hot
            go_wp2
            go_roundw
            case rel => exact ⟨3, by omega, by simp, HK7.out, HO7.out, HB7.out⟩
            case measure => simp [intOf]
          · have hc := hbk.cell 3
            have hc : wr.cell? ⟨gs, 3, none⟩ = some (.string S3) := hc
            have hzs : S3.size ≤ 17000 := HZS.out.2.2.2
            have hwz : IntKind.u64.wrap (S3.size : Int) = S3.size := by rw [IntKind.wrap_u64]; omega
            have HPS := Lib.hid (putN_any S3 (by omega))
            have HXB := Lib.hid (text_bts S3)
            have hq1 : (bstr (putL S3.size)).size ≤ 9 := by rw [bstr_size, putL_length]; exact (sz_le _).2
            have HNX := Lib.hid (show L ++ ((textL (bts S0) :: textL (bts S1) :: textL (bts S2) :: textL (bts S3) :: []).take 3).flatten ++ textL (bts S3) = L ++ ((textL (bts S0) :: textL (bts S1) :: textL (bts S2) :: textL (bts S3) :: []).take 4).flatten from by simp [List.append_assoc])
            have HLQ := Lib.hid (show (L ++ ((textL (bts S0) :: textL (bts S1) :: textL (bts S2) :: textL (bts S3) :: []).take 3).flatten).length ≤ 70100000 from by
              have t0 := textL_len (L := bts S0) (by rw [bts_length]; exact HZS.out.1)
              have t1 := textL_len (L := bts S1) (by rw [bts_length]; exact HZS.out.2.1)
              have t2 := textL_len (L := bts S2) (by rw [bts_length]; exact HZS.out.2.2.1)
              have t3 := textL_len (L := bts S3) (by rw [bts_length]; exact HZS.out.2.2.2)
              have := HLEN.out
              simp only [List.take_succ_cons, List.take_zero, List.flatten_cons, List.flatten_nil, List.length_append, List.length_nil]
              omega)
            have HBK := Lib.hid hbk
            have HOBK := Lib.hid hob
            have HBWK := Lib.hid hbw
            generalize L ++ ((textL (bts S0) :: textL (bts S1) :: textL (bts S2) :: textL (bts S3) :: []).take 3).flatten = Q at *
            clear hbk hob hbw
            obtain ⟨PN, hPN⟩ : ∃ PN, bstr (putL S3.size) = PN := ⟨_, rfl⟩
            rw [hPN] at HPS HXB hq1
            have g1 : PN.size + S3.size ≤ 9223372036854775807 := by omega
            have g2 : ¬ (9223372036854775807 < PN.size + S3.size) := by omega
            have g3 : (PN.size : Int) + S3.size ≤ 9223372036854775807 := by omega
            have HSM := Lib.hid (And.intro hzs hq1)
            clear hPN hzs hq1
            go_wp2_with fail
            refine (HPS.out _).mono ?_
            rintro e w6 ⟨rfl, hb6⟩
            have hws := ob_ws (PN ++ S3) (ob_step HOBK.out hb6) (bj HBWK.out hb6).size (by rw [ByteArray.size_append]; have := HLQ.out; have := HSM.out; omega)
            rw [HXB.out, HNX.out] at hws
            have HWS := Lib.hid hws
            have HB6 := Lib.hid (bj HBWK.out hb6)
            have HBK6 := Lib.hid (HBK.out.below hb6 HBK.out.lt)
            clear hws hb6 hc
            go_wp2_with fail
            refine (HWS.out).mono ?_
            rintro e w7 ⟨rfl, ho7, hb7, hot⟩
            have HO7 := Lib.hid ho7
            have HB7 := Lib.hid (HB6.out.trans hb7)
            have HK7 := Lib.hid (hot _ _ _ (by decide) (by decide) HBK6.out)
            clear ho7 hb7 hot
            go_wp2
            go_roundw
            case rel => exact ⟨4, by omega, by simp, HK7.out, HO7.out, HB7.out⟩
            case measure => simp [intOf]
          · have HOBE := Lib.hid (show Ob w.heap.size gb (putL n ++ chgsL (l.take (j + 1))) _ from by
              rw [HTK.out, HCH.out, ← List.append_assoc, HL.out]
              simpa using hob)
            have HBE := Lib.hid hbw
            clear hbk hob hbw
            go_wp2
            go_roundw
            case rel => exact ⟨j + 1, by omega, by go_num, HOBE.out, HBE.out⟩
            case measure => simp only [intOf]; omega
      · obtain rfl : j = n := by omega
        have hfull : putL j ++ chgsL (l.take j) = putG l := by
          have := HN.out
          rw [putG, ← this, this, List.take_length]
        rw [hfull] at hob
        have HST := Lib.hid (ob_str hob hbw.size)
        have HB := Lib.hid hbw
        clear hob hbw hfull
        go_wp2_with fail
        refine (HST.out).mono ?_
        rintro e w3 ⟨rfl, hb3⟩
        have HB3 := Lib.hid (HB.out.trans hb3)
        clear hb3
        go_wp2
        go_ret2
        exact ⟨HB3.out, fun h => absurd HZ.out h, fun _ => rfl⟩
  · have hz0 : (z != 0) = true := by rw [bne_iff_ne]; exact h0
    have HZ0 := Lib.hid h0
    clear h0
    go_wp2
    go_ret2
    exact ⟨HB1.out, fun _ => by rw [HZ.out]; rfl, fun h => absurd (HZ.out.symm.trans h) HZ0.out⟩
end Go.Proofs.Ytocbdehcjcggeaa
