/- net's Flight. Conditions: those of each lemma. -/
import Derived.Test.YtndlcjpkpkfcpaaNt4
import Derived.Test.YtndlcjpkpkfcpaaIter
import Derived.Maps.AppendAt
import Derived.Lib.AppendStr
import Derived.Deep.Draws
import Derived.Laws.OwnMore
import Derived.Laws.Rows
namespace Go.Proofs.Ytndlcjpkpkfcpaa
open Go.RowKit Go Go.Maps
set_option linter.unusedVariables false
set_option linter.unusedSimpArgs false
/-- letters, as they lie in a row -/
def ltCs (L : List Lt) : List Value := L.flatMap fun x => [.int .i64 x.id, .int .i64 x.fr, .int .i64 x.to, .string x.bytes, .bool x.sp]
theorem ltCs_snoc (L : List Lt) (x : Lt) : ltCs (L ++ [x]) = ltCs L ++ [.int .i64 x.id, .int .i64 x.fr, .int .i64 x.to, .string x.bytes, .bool x.sp] := by simp [ltCs]
theorem own_below {W W' : World} {base : Nat} {e : TypeId} {size n : Nat} {v : Value} {xs : List Value} (h : W.ownsRow base e size v n xs) (hb : Below W.heap.size W W') : W'.ownsRow base e size v n xs := by
  obtain ⟨hl, h | ⟨g, cap, cur, hv, hbg, hg, hr⟩⟩ := h
  · exact ⟨hl, .inl h⟩
  · exact ⟨hl, .inr ⟨g, cap, cur, hv, hbg, blk_step (t := e) (cs := cur) hg hb, hr⟩⟩
theorem own_base {W : World} {base base' : Nat} {e : TypeId} {size n : Nat} {v : Value} {xs : List Value} (h : W.ownsRow base e size v n xs) (hb : base' ≤ base) : W.ownsRow base' e size v n xs := by
  obtain ⟨hl, h | ⟨g, cap, cur, hv, hbg, hg⟩⟩ := h
  · exact ⟨hl, .inl h⟩
  · exact ⟨hl, .inr ⟨g, cap, cur, hv, Nat.le_trans hb hbg, hg⟩⟩
theorem own_form {W : World} {base : Nat} {e : TypeId} {size n : Nat} {v : Value} {xs : List Value} (h : W.ownsRow base e size v n xs) : ∃ A c, v = .slice A n c := by
  rcases h.2 with ⟨h0, hn⟩ | ⟨g, cap, cur, hv, _⟩
  · exact ⟨none, 0, by rw [h0, hn]⟩
  · exact ⟨_, cap, hv⟩
theorem reads5 (W : World) (x : Lt) : Reads (W.alloc (.cells (ltC x) 31)) (W.heap.size + 1) 5 (some ⟨W.heap.size, 0, none⟩) 1 [.int .i64 x.id, .int .i64 x.fr, .int .i64 x.to, .string x.bytes, .bool x.sp] := by
  refine ⟨rfl, fun _ => ⟨_, rfl, by simp, fun j u hj => ?_⟩⟩
  match j, hj with
  | 0, hj => simp at hj; subst hj; simp [Addr.add]
  | 1, hj => simp at hj; subst hj; simp [Addr.add]
  | 2, hj => simp at hj; subst hj; simp [Addr.add]
  | 3, hj => simp at hj; subst hj; simp [Addr.add]
  | 4, hj => simp at hj; subst hj; simp [Addr.add]
  | j + 5, hj => simp at hj
theorem keys_call (mb : Option Nat) (W : World) : Calls Try.prog 25 #[.map mb] W fun e w' => e = .returned (.func (.func 36) #[] #[.pointer (some ⟨W.heap.size, 0, none⟩)]) ∧ w' = W.alloc (.cells #[.map mb] 46) :=
  (callsIn_wide (n := 5)).1 (Try.maps_Keys_25 mb W)
theorem sorted_call (gm : Nat) (L : List Lt) (hu : Up L) (hl : L.length ≤ 64) (W : World) (h : W.ownsMap Try.prog 3 heldR gm L.length (mapOf L)) : Calls Try.prog 24 #[.func (.func 36) #[] #[.pointer (some ⟨W.heap.size, 0, none⟩)]] (W.alloc (.cells #[.map (some gm)] 46)) fun e w' => ∃ v, e = .returned v ∧ w'.ownsRow (W.heap.size + 1) 3 1 v L.length ((L.map (·.id)).map encZ) ∧ Below W.heap.size W w' := by
  refine ((callsIn_wide (n := 5)).1 (Try.slices_Sorted_keys_24_25 gm L.length (mapOf L) heldR W h (by rw [map_size]; unfold maxLen; omega) (by rw [map_size]; omega))).mono ?_
  rintro e w' ⟨v, ss, rfl, hp, ho, _, hb⟩
  rw [map_keys] at hp
  have hlen : ss.length = L.length := by rw [hp.length_eq, List.length_map]
  rw [keys_sorted hu hp, hlen] at ho
  refine ⟨v, rfl, ?_, bj one_alloc hb⟩
  simpa using ho
/-- the net and the sorted numbers, beside what is made -/
def Fl (w : World) (gn gm : Nat) (L : List Lt) (N : Int) (v : Value) (B : Nat) (W : World) : Prop := NetS gn gm L N W ∧ W.ownsRow (w.heap.size + 1) 3 1 v L.length ((L.map (·.id)).map encZ) ∧ (∀ k, v.ownBlock = some k → k < B) ∧ gn < B ∧ gm < B ∧ Below w.heap.size w W ∧ w.heap.size ≤ B ∧ B ≤ W.heap.size
theorem fl_step {w W W' : World} {gn gm : Nat} {L : List Lt} {N : Int} {v : Value} {B : Nat} (h : Fl w gn gm L N v B W) (hb : Below W.heap.size W W') : Fl w gn gm L N v B W' := ⟨net_step h.1 hb, own_below h.2.1 hb, h.2.2.1, h.2.2.2.1, h.2.2.2.2.1, bj h.2.2.2.2.2.1 hb, h.2.2.2.2.2.2.1, Nat.le_trans h.2.2.2.2.2.2.2 hb.size⟩
theorem fl_grown {w W W' : World} {gn gm : Nat} {L : List Lt} {N : Int} {v : Value} {B : Nat} {row : Option Nat} (h : Fl w gn gm L N v B W) (hg : W.grownBy W' row) (hr : ∀ z, row = some z → B ≤ z) : Fl w gn gm L N v B W' := by
  obtain ⟨h1, h2, h3, h4, h5, h6, h7, h8⟩ := h
  refine ⟨⟨h1.1.grown hg (fun e => by have := hr _ e.symm; omega), owns_block h1.2.1 (hg.block gm h1.2.1.lt (fun e => by have := hr _ e.symm; omega)), h1.2.2⟩, h2.kept hg ?_, h3, h4, h5, h6.grown hg (Nat.le_trans h7 h8) (fun z e => by have := hr _ e; omega), h7, Nat.le_trans h8 ((Below.refl B W).grown hg h8 hr).size⟩
  cases hv : v.ownBlock with
  | none => exact .inl rfl
  | some k => exact .inr (fun e => by have := h3 k hv; have := hr k e.symm; omega)
theorem row_cell {W : World} {base n : Nat} {v : Value} {xs : List Int} (h : W.ownsRow base 3 1 v n (xs.map encZ)) {j : Nat} {k : Int} (hj : xs[j]? = some k) : ∃ g c, v = .slice (some ⟨g, 0, none⟩) n c ∧ W.cell? ⟨g, j, none⟩ = some (.int .i64 k) := by
  have hj2 : (xs.map encZ)[j]? = some (encZ k) := by rw [List.getElem?_map, hj]; rfl
  rcases h.2 with ⟨h0, hn⟩ | ⟨g, cap, cur, hv, hr⟩
  · have hl := h.1
    rw [hn] at hl
    have : xs = [] := by
      have := hl
      simpa using this
    rw [this] at hj
    simp at hj
  · refine ⟨g, cap, hv, ?_⟩
    have hx := h.cells (g := g) (by rw [hv]; rfl) j _ hj2
    have e : (⟨g, 0, none⟩ : Addr).add j = ⟨g, j, none⟩ := by
      by_cases h0 : j = 0
      · subst h0; rfl
      · simp [Addr.add, h0]
    rw [← e]
    exact hx
theorem find_at {L : List Lt} (hu : Up L) {j : Nat} {x : Lt} (h : L[j]? = some x) : findL L x.id = some x := by
  induction L generalizing j with
  | nil => simp at h
  | cons a L ih =>
    obtain ⟨ha, hu'⟩ := List.pairwise_cons.1 hu
    unfold findL
    rw [List.find?_cons]
    cases j with
    | zero =>
      obtain rfl : a = x := by simpa using h
      simp
    | succ j =>
      have h' : L[j]? = some x := by simpa using h
      have := ha x (List.mem_of_getElem? h')
      rw [decide_eq_false (show ¬ a.id = x.id by omega)]
      exact ih hu' h'
theorem look_one {W : World} {gm : Nat} {L : List Lt} {x : Lt} (h : W.ownsMap Try.prog 3 heldR gm L.length (mapOf L)) (hk : I64' x.id) (hf : findL L x.id = some x) : (Instr.lookup 46 (.map (some gm)) (.int .i64 x.id) false).run Try.prog W = .ok (ltV x) W := by
  obtain ⟨v, ps, hrun, hv⟩ := h.lookup keyed Try.underlying46 (zero_letter W) (zd := .held (ltV zL)) (zp := []) rfl (key_int x.id hk.1 hk.2)
  rw [hrun]
  rw [map_at] at hv
  have hf' : L.find? (fun y => decide (y.id = x.id)) = some x := hf
  rw [hf'] at hv
  have h2 : DataW.held v = DataW.held (ltV x) := congrArg Prod.fst (Option.some.inj hv)
  rw [DataW.held.inj h2]
set_option maxRecDepth 100000 in
set_option maxHeartbeats 8000000 in
theorem flight_any (gn gm : Nat) (L : List Lt) (N : Int) (w : World) (hs : NetS gn gm L N w) (hN : N ≤ 1000000) :
    Calls Try.prog 13 #[.pointer (some ⟨gn, 0, none⟩)] w fun e w' => ∃ v, e = .returned v ∧ w'.ownsRow w.heap.size 31 5 v L.length (ltCs L) ∧ NetS gn gm L N w' ∧ Below w.heap.size w w' := by
  obtain ⟨c0, c1⟩ := pair_at hs.1
  have HK := Lib.hid (keys_call (some gm))
  have HSO := Lib.hid (sorted_call gm L hs.2.2.2.1 hs.2.2.2.2.2.1 w hs.2.1)
  have HS := Lib.hid hs
  have hlI : (L.length : Int) ≤ 64 := by have := hs.2.2.2.2.2.1; omega
  have HIN : Hid (∀ x ∈ L, I64' x.id) := Lib.hid (fun x hx => by have := hs.2.2.2.2.1 x hx; unfold I64'; omega)
  obtain ⟨iv, hv1, hv2, hv3, hv4⟩ := info_parts (show (Try.prog.info? 31).map (fun i => (i.zero, i.size, i.bytes)) = some (some (.agg #[.int .i64 0, .int .i64 0, .int .i64 0, .string ⟨#[]⟩, .bool false]), 5, 48) by kernel_rfl)
  clear hs
  go_enter Try.func13, Try.ntmps13
  go_wp2_with fail
  refine (HK.out _).mono ?_
  rintro e w1 ⟨rfl, rfl⟩
  go_wp2_with fail
  refine HSO.out.mono ?_
  rintro e w2 ⟨v, rfl, ho2, hb2⟩
  obtain ⟨A, c, rfl⟩ := own_form ho2
  have HF : Hid (Fl w gn gm L N (.slice A L.length c) w2.heap.size w2) := Lib.hid ⟨net_step HS.out hb2, ho2, fun k hk => (ho2.lt k hk).2, Nat.lt_of_lt_of_le HS.out.1.lt hb2.size, Nat.lt_of_lt_of_le HS.out.2.1.lt hb2.size, hb2, hb2.size, Nat.le_refl _⟩
  clear c0 c1 ho2 hb2
  go_wp2
  go_loopw [3, 15] (fun l i wr => ∃ j : Nat, j ≤ L.length ∧ i = .int .i64 j ∧ wr.ownsRow w2.heap.size 31 5 l j (ltCs (L.take j)) ∧ Fl w gn gm L N (.slice A L.length c) w2.heap.size wr) (fun _ i _ => L.length - (intOf i).toNat)
  case atStart => exact ⟨0, by omega, rfl, World.ownsRow_nil _ _ _ _, HF.out⟩
  case round =>
    clear HF
    obtain ⟨j, hj, rfl, how, hfl⟩ := hrel
    have HO0 := Lib.hid how
    have HF := Lib.hid hfl
    clear how hfl
    by_cases hjn : j < L.length
    · obtain ⟨x, hx⟩ : ∃ x, L[j]? = some x := ⟨L[j], List.getElem?_eq_getElem hjn⟩
      obtain ⟨g, cg, hA, hcell⟩ := row_cell HF.out.2.1 (j := j) (k := x.id) (by rw [List.getElem?_map, hx]; rfl)
      obtain ⟨rfl, _, rfl⟩ : A = some ⟨g, 0, none⟩ ∧ True ∧ c = cg := by simpa using hA
      have hlook := look_one HF.out.1.2.1 (HIN.out x (List.mem_of_getElem? hx)) (find_at HF.out.1.2.2.2.1 hx)
      have HTK : Hid (L.take (j + 1) = L.take j ++ [x]) := Lib.hid (by rw [List.take_add_one, hx]; rfl)
      obtain ⟨c0, c1⟩ := pair_at HF.out.1.1
      obtain ⟨xi, xf, xt, xb, xs⟩ := x
      have hjI : (j : Int) < L.length := by omega
      have HO := Lib.hid (own_below HO0.out (one_alloc (o := .cells (ltC ⟨xi, xf, xt, xb, xs⟩) 31)))
      have HF4 := Lib.hid (fl_step HF.out (one_alloc (o := .cells (ltC ⟨xi, xf, xt, xb, xs⟩) 31)))
      have HBS := Lib.hid HF4.out.2.2.2.2.2.2.2
      have hrd := reads5 wr ⟨xi, xf, xt, xb, xs⟩
      clear hx hA
      go_wp2_with (at_builtin; refine wpList_append_any _ rfl (.tmp 19) (.tmp 26) 35 rfl w2.heap.size 31 iv _ 5 48 Try.underlying35 hv1 hv2 hv3 hv4 rfl (by omega) _ j (ltCs (L.take j)) rfl HO.out (wr.heap.size + 1) (some ⟨wr.heap.size, 0, none⟩) 1 1 [.int .i64 xi, .int .i64 xf, .int .i64 xt, .string xb, .bool xs] rfl hrd (by intro u hu; simp at hu; rcases hu with rfl | rfl | rfl | rfl | rfl <;> rfl) (by simp only [maxLen]; omega) (by omega) HBS.out ?_; intro v1 w4 hown1 hg1 hat1; (have HF5 := Lib.hid (fl_grown HF4.out hg1 (fun z hz => (HO.out.lt z hz).1))); (have HO5 := Lib.hid hown1); clear hown1 hg1 hat1 hrd)
      go_roundw
      case rel => exact ⟨j + 1, by omega, by go_num, by rw [HTK.out, ltCs_snoc]; exact HO5.out, HF5.out⟩
      case measure => simp only [intOf]; omega
    · obtain rfl : j = L.length := by omega
      have HO5 := HO0.out
      rw [List.take_length] at HO5
      have HO6 := Lib.hid HO5
      clear HO5
      go_wp2
      go_ret
      exact ⟨_, rfl, own_base HO6.out HF.out.2.2.2.2.2.2.1, HF.out.1, HF.out.2.2.2.2.2.1⟩
end Go.Proofs.Ytndlcjpkpkfcpaa
