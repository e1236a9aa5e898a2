/- Layer 5: a log taken out of its disk. Conditions: those of each lemma. -/
import Derived.Test.YthipaabjmlgjmaaMwG
import Derived.Test.YthipaabjmlgjmaaMwF
import Derived.Deep.QuietTactic
import Derived.BigQuiet
namespace Go.Proofs.Ythipaabjmlgjmaa
open Go.RowKit Go Go.Maps
set_option linter.unusedVariables false
set_option linter.unusedSimpArgs false
/-- a log's block in the midst of its taking -/
def rawC (g : Nat) (N F P : Nat) (hd : Bool) (A : Option Addr) (n c : Nat) (e : Int × Int) : Array Value := #[lp g, .int .u64 N, .int .i64 F, .int .i64 P, .bool hd, .slice A n c, .int .u32 e.1, .int .u32 e.2, .bool false, .bool false]
/-- what the first sector of the log, or the size of the main file, tells: whether all is well; number, frames, pages; is there a head -/
def headD (d : Dk) : Bool × (Nat × Nat × Nat) × Bool :=
  if (readD d 1 0 1).2 = 0 ∧ bts (readD d 1 0 1).1 ≠ List.replicate 64 0 then
    (if thErr (bts (readD d 1 0 1).1) = 0 then (true, (thN (bts (readD d 1 0 1).1), thF (bts (readD d 1 0 1).1), thP (bts (readD d 1 0 1).1)), true) else (false, (0, 0, 0), true))
  else (decide (sizeD d 0 % 8 = 0) && decide (sizeD d 0 / 8 ≤ 256), (0, 0, (sizeD d 0 / 8).toNat), false)
theorem readD_sz {w : World} {S : Nat → Prop} {g : Nat} {d : Dk} {N : Nat} (h : DkS w S g d N) (f a n : Int) : (readD d f a n).1.size ≤ 140737488351232 := by
  obtain ⟨m, hm⟩ := h
  unfold readD
  split
  · show (0 : Nat) ≤ _; omega
  · rename_i hr
    split
    · show (0 : Nat) ≤ _; omega
    · have hr0 : readyD d f = 0 := by simpa using hr
      obtain ⟨_, _, h0, h8⟩ := ready_ok hr0
      have hok := hm.ok f.toNat (by omega)
      show (bstr _).size ≤ _
      rw [bstr_size, flat_len _ (fun s hs => hok.2 s (List.mem_of_mem_drop (List.mem_of_mem_take hs))), List.length_take, List.length_drop]
      have := hok.1
      omega
theorem thN_lt (s : ByteArray) : thN (bts s) < 18446744073709551616 := by
  unfold thN
  have h1 := val_lt 0 (((bts s).drop 8).take 8) (fun x hx => bts_lt s x (List.mem_of_mem_drop (List.mem_of_mem_take hx)))
  have h2 : (((bts s).drop 8).take 8).length ≤ 8 := by rw [List.length_take]; omega
  have h3 : 256 ^ (((bts s).drop 8).take 8).length ≤ 256 ^ 8 := Nat.pow_le_pow_right (by omega) h2
  omega
theorem raw_pages (g k : Nat) : (rawC g 0 0 0 false none 0 0 (0, 0)).setIfInBounds 3 (.int .i64 ((k : Int) / 8)) = rawC g 0 0 ((k : Int) / 8).toNat false none 0 0 (0, 0) := by
  have hc : ((((k : Int) / 8).toNat : Nat) : Int) = (k : Int) / 8 := by omega
  unfold rawC
  rw [hc]
  rfl
theorem fr_own {q : Nat} {w w' : World} {i : Nat} (h : Fr (fun b => b = q) w w') (v : Value) : Fr (fun b => b = q) w (w'.setCell ⟨q, i, none⟩ v) := fr_set h (p := ⟨q, i, none⟩) (.inl rfl) v
set_option maxRecDepth 100000 in
set_option maxHeartbeats 16000000 in
theorem takeHead_lg {S : Nat → Prop} {g q : Nat} {d : Dk} {N : Nat} {w : World} (h : DkS w S g d N) (hq : Blk w q 75 (rawC g 0 0 0 false none 0 0 (0, 0))) (hS : ¬ S q) (hrs : (readD d 1 0 1).1.size ≤ 140737488351232) :
    Calls Try.prog 28 #[lp q] w fun e w' => e = .returned (.bool (headD d).1) ∧ Blk w' q 75 (rawC g (headD d).2.1.1 (headD d).2.1.2.1 (headD d).2.1.2.2 (headD d).2.2 none 0 0 (0, 0)) ∧ Fr (fun b => b = q) w w' := by
  have HD := Lib.hid h
  have HQ := Lib.hid hq
  have d0 : w.cell? ⟨q, 0, none⟩ = some (lp g) := hq.cell 0
  have HRD := Lib.hid (read_any S g d N 1 0 1 (by omega) w h)
  have hn8 : 0 ≤ sizeD d 0 ∧ sizeD d 0 ≤ 8192 := by
    obtain ⟨m, hm⟩ := h
    unfold sizeD
    split
    · have := (hm.ok 0 (by omega)).1
      simp only [Int.toNat_zero]
      omega
    · omega
  obtain ⟨X, hX⟩ : ∃ X, headD d = X := ⟨_, rfl⟩
  rw [hX]
  rw [headD] at hX
  generalize readD d 1 0 1 = RD at *
  obtain ⟨s, z⟩ := RD
  simp only at HRD hX hrs
  clear h hq
  go_enter Try.func28, Try.ntmps28
  go_wp2_with fail
  refine (HRD.out).mono ?_
  rintro e w1 ⟨rfl, hb1⟩
  have HB1 := Lib.hid hb1
  have HQ1 := Lib.hid (blk_step HQ.out hb1)
  have HD1 := Lib.hid (dkS_below HD.out hb1)
  clear hb1 d0 HQ HD HRD
  have d0 : w1.cell? ⟨q, 0, none⟩ = some (lp g) := HQ1.out.cell 0
  by_cases hz : z = 0
  case' pos =>
    subst hz
    have HNG := Lib.hid (wnoughts_any 64 w1 (by omega))
    go_wp2_with fail
    refine (HNG.out).mono ?_
    rintro e w2 ⟨rfl, hb2⟩
    have HB2 := Lib.hid (bj HB1.out hb2)
    have HQ2 := Lib.hid (blk_step HQ1.out hb2)
    have HD2 := Lib.hid (dkS_below HD1.out hb2)
    clear hb2 HB1 HQ1 HD1 HNG d0
    have d0 : w2.cell? ⟨q, 0, none⟩ = some (lp g) := HQ2.out.cell 0
    have hse := str_eq s (List.replicate 64 0) (fun y hy => by rw [List.eq_of_mem_replicate hy]; omega)
    obtain ⟨Z, hZ⟩ : ∃ Z, bstr (List.replicate 64 0) = Z := ⟨_, rfl⟩
    rw [hZ] at hse
    rw [hZ]
    clear hZ
    by_cases hs0 : bts s = List.replicate 64 0
    case' pos =>
      rw [if_neg (by rintro ⟨_, h⟩; exact h hs0)] at hX
      rw [decide_eq_true hs0] at hse
      have HX := Lib.hid hX
      clear hs0 hX
      go_wp2_with fail
      clear hse
      generalize w2 = wz at *
    case' neg =>
      rw [if_pos ⟨trivial, hs0⟩] at hX
      rw [decide_eq_false hs0] at hse
      have HTH := Lib.hid (takeHead_any s w2 hrs)
      generalize bts s = L at *
      clear hs0
      go_wp2_with fail
      by_cases he : thErr L = 0
      · rw [if_pos he] at hX
        have hr : thRet L = .tuple #[.agg #[.int .u64 (thN L), .int .i64 (thF L), .int .i64 (thP L)], .int .i64 0] := by unfold thRet; rw [if_pos he]; rfl
        rw [hr] at HTH
        subst hX
        clear hr he hse hn8
        refine (HTH.out).mono ?_
        rintro e w3 ⟨rfl, hb3⟩
        have HF3 := Lib.hid (fr_of (S := fun b => b = q) (bj HB2.out hb3))
        have HQ3 := Lib.hid (blk_step HQ2.out hb3)
        clear hb3 HB2 HQ2 HD2 d0 HTH
        have x1 : w3.cell? ⟨q, 1, none⟩ = some (.int .u64 0) := HQ3.out.cell 1
        have x2 : w3.cell? ⟨q, 2, none⟩ = some (.int .i64 0) := HQ3.out.cell 2
        have x3 : w3.cell? ⟨q, 3, none⟩ = some (.int .i64 0) := HQ3.out.cell 3
        have x4 : w3.cell? ⟨q, 4, none⟩ = some (.bool false) := HQ3.out.cell 4
        have r1 := HQ3.out.frozen 1
        have r2 := HQ3.out.frozen 2
        have r3 := HQ3.out.frozen 3
        have r4 := HQ3.out.frozen 4
        go_wp2_with fail
        go_ret
        exact ⟨rfl, ((((HQ3.out.set_ 1 (.int .u64 (thN L))).set_ 2 (.int .i64 (thF L))).set_ 3 (.int .i64 (thP L))).set_ 4 (.bool true)), fr_own (fr_own (fr_own (fr_own HF3.out _) _) _) _⟩
      · rw [if_neg he] at hX
        have hr : thRet L = .tuple #[.agg #[.int .u64 0, .int .i64 0, .int .i64 0], .int .i64 (thErr L)] := by unfold thRet; rw [if_neg he]; rfl
        rw [hr] at HTH
        have heb : ((thErr L : Int) == 0) = false := by simp; omega
        subst hX
        generalize thErr L = E at *
        clear hr he hse hn8
        refine (HTH.out).mono ?_
        rintro e w3 ⟨rfl, hb3⟩
        have HF3 := Lib.hid (fr_of (S := fun b => b = q) (bj HB2.out hb3))
        have HQ3 := Lib.hid (blk_step HQ2.out hb3)
        clear hb3 HB2 HQ2 HD2 d0 HTH
        have x1 : w3.cell? ⟨q, 1, none⟩ = some (.int .u64 0) := HQ3.out.cell 1
        have x2 : w3.cell? ⟨q, 2, none⟩ = some (.int .i64 0) := HQ3.out.cell 2
        have x3 : w3.cell? ⟨q, 3, none⟩ = some (.int .i64 0) := HQ3.out.cell 3
        have x4 : w3.cell? ⟨q, 4, none⟩ = some (.bool false) := HQ3.out.cell 4
        have r1 := HQ3.out.frozen 1
        have r2 := HQ3.out.frozen 2
        have r3 := HQ3.out.frozen 3
        have r4 := HQ3.out.frozen 4
        go_wp2_with fail
        go_ret
        exact ⟨rfl, ((((HQ3.out.set_ 1 (.int .u64 0)).set_ 2 (.int .i64 0)).set_ 3 (.int .i64 0)).set_ 4 (.bool true)), fr_own (fr_own (fr_own (fr_own HF3.out _) _) _) _⟩
  case' neg =>
    have hzb : (z == 0) = false := by simp [hz]
    rw [if_neg (by rintro ⟨h, _⟩; exact hz h)] at hX
    have HX := Lib.hid hX
    clear hX hz
    go_wp2_with fail
    clear hzb
    have HB2 := HB1
    have HQ2 := HQ1
    have HD2 := HD1
    clear HB1 HQ1 HD1
    generalize w1 = wz at *
  all_goals
    have HSZ := Lib.hid (size_any S g d N 0 wz HD2.out)
    obtain ⟨k, hk⟩ : ∃ k : Nat, sizeD d 0 = k := ⟨(sizeD d 0).toNat, by omega⟩
    have hX := HX.out
    rw [hk] at HSZ hX hn8
    clear HX hk
    subst hX
    refine (HSZ.out).mono ?_
    rintro e w3 ⟨rfl, rfl⟩
    have HF3 := Lib.hid (fr_of (S := fun b => b = q) HB2.out)
    have HQ3 := HQ2
    clear HB2 HQ2 HD2 d0 HSZ
    have x3 : wz.cell? ⟨q, 3, none⟩ = some (.int .i64 0) := HQ3.out.cell 3
    have r3 := HQ3.out.frozen 3
    have HM := Lib.hid (Decidable.em ((k : Int) % 8 = 0))
    go_wp2_with fail
  all_goals
    go_ret
    exact ⟨rfl, by rw [← raw_pages]; exact HQ3.out.set_ 3 _, fr_own HF3.out _⟩
/-- the frames that a head tells of: taken one behind another -/
def frT (d : Dk) (N : Nat) : Nat → Nat → (Int × Int) → Option (List Fx × (Int × Int))
  | _, 0, e => some ([], e)
  | i, k + 1, e => if (readD d 1 (1 + (i : Int) * 9) 9).2 ≠ 0 then none else if fErr e N (bts (readD d 1 (1 + (i : Int) * 9) 9).1) ≠ 0 then none
    else (frT d N (i + 1) k (fQ e (bts (readD d 1 (1 + (i : Int) * 9) 9).1))).map fun p => (⟨fW (bts (readD d 1 (1 + (i : Int) * 9) 9).1) 0, fW (bts (readD d 1 (1 + (i : Int) * 9) 9).1) 1, (readD d 1 (1 + (i : Int) * 9) 9).1.extract 64 576⟩ :: p.1, p.2)
def lastC (P : Nat) (fs : List Fx) : Bool := match fs.getLast? with | none => true | some x => decide (x.cm = P)
def framesD (d : Dk) (N F P : Nat) : Option (List Fx × (Int × Int)) := (frT d N 0 F (startP N)).filter fun p => lastC P p.1
/-- in the midst of the frames' taking -/
structure Tf (w : World) (g q N F P : Nat) (hd : Bool) (i : Nat) (A : Option Addr) (c : Nat) (fs : List Fx) (e : Int × Int) (W : World) : Prop where
  fr : Fr (fun b => b = q) w W
  blk : Blk W q 75 (rawC g N F P hd A i c e)
  row : W.ownsRow w.heap.size 61 3 (.slice A i c) i (fxs fs)
  len : fs.length = i
  ok : ∀ x ∈ fs, FxOk x
  fit : Fit e
theorem tf_below {w W W' : World} {g q N F P i c : Nat} {hd : Bool} {A : Option Addr} {fs : List Fx} {e : Int × Int} (h : Tf w g q N F P hd i A c fs e W) (hb : Below W.heap.size W W') : Tf w g q N F P hd i A c fs e W' := ⟨fr_step h.fr hb, blk_step h.blk hb, own_lies h.row hb, h.len, h.ok, h.fit⟩
theorem tf_cells {w W : World} {g q N F P i c : Nat} {hd : Bool} {A : Option Addr} {fs : List Fx} {e : Int × Int} (h : Tf w g q N F P hd i A c fs e W) : W.cell? ⟨q, 0, none⟩ = some (lp g) ∧ W.cell? ⟨q, 1, none⟩ = some (.int .u64 N) ∧ W.cell? ⟨q, 3, none⟩ = some (.int .i64 P) ∧ W.cell? ⟨q, 5, none⟩ = some (.slice A i c) ∧ W.cell? ⟨q, 6, none⟩ = some (.int .u32 e.1) ∧ W.cell? ⟨q, 7, none⟩ = some (.int .u32 e.2) := ⟨h.blk.cell 0, h.blk.cell 1, h.blk.cell 3, h.blk.cell 5, h.blk.cell 6, h.blk.cell 7⟩
theorem dk_tf {w W : World} {S : Nat → Prop} {g q N F P i c Nn : Nat} {d : Dk} {hd : Bool} {A : Option Addr} {fs : List Fx} {e : Int × Int} (h : Tf w g q N F P hd i A c fs e W) (hd0 : DkS w S g d Nn) (hS : ¬ S q) : DkS W S g d Nn := dkS_keep hd0 h.fr (fun b hb e => hS (e ▸ hb))
theorem tf_lg {w W : World} {S : Nat → Prop} {g q N F P i c Nn : Nat} {d : Dk} {hd : Bool} {A : Option Addr} {fs : List Fx} {e : Int × Int} (h : Tf w g q N F P hd i A c fs e W) (hd0 : DkS w S g d Nn) (hS : ¬ S q) (hq : q < w.heap.size) (hN : N < 18446744073709551616) (hF : F ≤ 256) (hP : P ≤ 256) (hi : i ≤ 256) : LgS W (fun b => S b ∨ b = q ∨ (Value.slice A i c).ownBlock = some b) g q d Nn ⟨N, F, P, hd, fs, e, false, false⟩ := by
  have hrow := h.row
  have hb := h.blk
  have hl := h.len
  subst hl
  have hlt := dkS_lt hd0
  refine ⟨S, A, c, { dk := dk_tf h hd0 hS, blk := hb, row := ?_, nq := hS, nz := ?_, sd := fun b hb => .inl hb, sq := .inr (.inl rfl), sz := fun z hz => .inr (.inr hz), lt := ?_, fit := h.fit, ub := ⟨hN, hF, hP, hi⟩, fok := h.ok }⟩
  · refine ⟨hrow.1, ?_⟩
    rcases hrow.2 with hn | ⟨g', cap, cur, hv, hbg, rest⟩
    · exact .inl hn
    · exact .inr ⟨g', cap, cur, hv, Nat.zero_le _, rest⟩
  · intro z hz
    have h1 := (hrow.lt z hz).1
    exact ⟨fun e => by have := hlt z e; omega, by omega⟩
  · intro b hb
    rcases hb with hb | rfl | hb
    · exact Nat.lt_of_lt_of_le (hlt b hb) h.fr.size
    · exact Nat.lt_of_lt_of_le hq h.fr.size
    · exact (hrow.lt b hb).2
/-- frames' and pairs' blocks stay such -/
def StF (W W' : World) : Prop := (∀ k a b c, Blk W k 61 #[a, b, c] → ∃ a' b' c', Blk W' k 61 #[a', b', c']) ∧ (∀ k a b, Blk W k 73 #[a, b] → ∃ a' b', Blk W' k 73 #[a', b'])
theorem st_same (W : World) : StF W W := ⟨fun k a b c h => ⟨a, b, c, h⟩, fun k a b h => ⟨a, b, h⟩⟩
theorem st_below {W W' : World} (hb : Below W.heap.size W W') : StF W W' := ⟨fun k a b c h => ⟨a, b, c, blk_step h hb⟩, fun k a b h => ⟨a, b, blk_step h hb⟩⟩
theorem st_frame {W : World} {k : Nat} {a b c : Value} (h : Blk W k 61 #[a, b, c]) (u v x : Value) : StF W (((W.setCell ⟨k, 0, none⟩ u).setCell ⟨k, 1, none⟩ v).setCell ⟨k, 2, none⟩ x) := by
  refine ⟨fun k' a' b' c' h' => ?_, fun k' a' b' h' => ?_⟩
  · by_cases e : k' = k
    · subst e
      exact ⟨u, v, x, ((h.set_ 0 u).set_ 1 v).set_ 2 x⟩
    · exact ⟨a', b', c', ((h'.far (p := ⟨k, 0, none⟩) e _).far (p := ⟨k, 1, none⟩) e _).far (p := ⟨k, 2, none⟩) e _⟩
  · have e : k' ≠ k := h'.ne_ h (by decide)
    exact ⟨a', b', ((h'.far (p := ⟨k, 0, none⟩) e _).far (p := ⟨k, 1, none⟩) e _).far (p := ⟨k, 2, none⟩) e _⟩
theorem st_pair {W : World} {k : Nat} {a b : Value} (h : Blk W k 73 #[a, b]) (u v : Value) : StF W ((W.setCell ⟨k, 0, none⟩ u).setCell ⟨k, 1, none⟩ v) := by
  refine ⟨fun k' a' b' c' h' => ?_, fun k' a' b' h' => ?_⟩
  · have e : k' ≠ k := h'.ne_ h (by decide)
    exact ⟨a', b', c', (h'.far (p := ⟨k, 0, none⟩) e _).far (p := ⟨k, 1, none⟩) e _⟩
  · by_cases e : k' = k
    · subst e
      exact ⟨u, v, (h.set_ 0 u).set_ 1 v⟩
    · exact ⟨a', b', (h'.far (p := ⟨k, 0, none⟩) e _).far (p := ⟨k, 1, none⟩) e _⟩
theorem tf_push {w W w' : World} {g q N F P i c c' : Nat} {hd : Bool} {A A' : Option Addr} {fs : List Fx} {e : Int × Int} {x : Fx} (h : Tf w g q N F P hd i A c fs e W) (hq : q < w.heap.size) (hrow : w'.ownsRow w.heap.size 61 3 (.slice A' (i + 1) c') (i + 1) (fxs fs ++ fxL x)) (hg : W.grownBy w' (Value.slice A i c).ownBlock) (hx : FxOk x) :
    Blk w' q 75 (rawC g N F P hd A i c e) ∧ Tf w g q N F P hd (i + 1) A' c' (fs ++ [x]) e (w'.setCell ⟨q, 5, none⟩ (.slice A' (i + 1) c')) := by
  have hbq : Blk w' q 75 (rawC g N F P hd A i c e) := (hg.block q h.blk.lt (fun e => by have := (h.row.lt q e.symm).1; omega)).trans h.blk
  refine ⟨hbq, fr_own (fr_grown h.fr hg (fun z hz => .inr (h.row.lt z hz).1)) _, hbq.set_ 5 _, ?_, by rw [List.length_append, h.len]; rfl, ?_, h.fit⟩
  · rw [fxs_append]
    have e1 : fxs [x] = fxL x := by simp [fxs]
    rw [e1]
    exact own_block hrow (fun z hz => Below.heap_setCell _ _ _ _ (show z ≠ q by have := (hrow.lt z hz).1; omega))
  · intro y hy
    rcases List.mem_append.1 hy with hy | hy
    · exact h.ok y hy
    · rw [List.mem_singleton.1 hy]; exact hx
theorem tf_end {w W : World} {g q N F P i c : Nat} {hd : Bool} {A : Option Addr} {fs : List Fx} {e : Int × Int} (h : Tf w g q N F P hd i A c fs e W) (hq : q < w.heap.size) (e' : Int × Int) (he : Fit e') : Tf w g q N F P hd i A c fs e' ((W.setCell ⟨q, 6, none⟩ (.int .u32 e'.1)).setCell ⟨q, 7, none⟩ (.int .u32 e'.2)) :=
  ⟨fr_own (fr_own h.fr _) _, (h.blk.set_ 6 _).set_ 7 _, own_block h.row (fun z hz => by
    have hne : z ≠ q := by have := (h.row.lt z hz).1; omega
    rw [Below.heap_setCell _ _ _ _ hne, Below.heap_setCell _ _ _ _ hne]), h.len, h.ok, he⟩
set_option maxRecDepth 100000 in
set_option maxHeartbeats 32000000 in
theorem takeFrames_any {S : Nat → Prop} {g q N F P Nn : Nat} {hd : Bool} {d : Dk} {w : World} (h : DkS w S g d Nn) (hq : Blk w q 75 (rawC g N F P hd none 0 0 (0, 0))) (hS : ¬ S q) (hN : N < 18446744073709551616) (hF : F ≤ 256) (hP : P ≤ 256) :
    Calls Try.prog 29 #[lp q] w fun e w' => e = .returned (.bool (framesD d N F P).isSome) ∧ Fr (fun b => b = q) w w' ∧ ∀ fs e1, framesD d N F P = some (fs, e1) → ∃ S', LgS w' S' g q d Nn ⟨N, F, P, hd, fs, e1, false, false⟩ ∧ ∀ b, S' b → S b ∨ b = q ∨ w.heap.size ≤ b := by
  have HD := Lib.hid h
  have HS := Lib.hid hS
  have HQ := Lib.hid hq
  have HNL := Lib.hid hN
  have HPB := Lib.hid hP
  have HQW := Lib.hid hq.lt
  have hFI : (F : Int) ≤ 256 := by omega
  obtain ⟨RS, hRS⟩ : ∃ RS, frT d N 0 F (startP N) = RS := ⟨_, rfl⟩
  have HRS := Lib.hid hRS
  obtain ⟨X, hX⟩ : ∃ X, framesD d N F P = X := ⟨_, rfl⟩
  rw [hX]
  have HX := Lib.hid (show RS.filter (fun p => lastC P p.1) = X from by rw [← hX, framesD, hRS])
  have HST := Lib.hid (start_any N w hN)
  have HFS := Lib.hid (fit_start N)
  clear h hS hRS hX hN hP
  have d1 : w.cell? ⟨q, 1, none⟩ = some (.int .u64 N) := hq.cell 1
  clear hq
  go_enter Try.func29, Try.ntmps29
  go_wp2_with fail
  refine (HST.out).mono ?_
  rintro e w1 ⟨rfl, hb1⟩
  have HQ1 := Lib.hid (blk_step HQ.out hb1)
  have HF1 := Lib.hid (fr_of (S := fun b => b = q) hb1)
  clear HST hb1 d1 HQ
  obtain ⟨E0, hE0⟩ : ∃ E0, startP N = E0 := ⟨_, rfl⟩
  rw [hE0] at HFS HRS
  rw [hE0]
  clear hE0
  have x1 : w1.cell? ⟨q, 1, none⟩ = some (.int .u64 N) := HQ1.out.cell 1
  have x2 : w1.cell? ⟨q, 2, none⟩ = some (.int .i64 F) := HQ1.out.cell 2
  have x6 : w1.cell? ⟨q, 6, none⟩ = some (.int .u32 0) := HQ1.out.cell 6
  have x7 : w1.cell? ⟨q, 7, none⟩ = some (.int .u32 0) := HQ1.out.cell 7
  have r6 := HQ1.out.frozen 6
  have r7 := HQ1.out.frozen 7
  have HTF := Lib.hid (show Tf w g q N F P hd 0 none 0 [] E0 ((w1.setCell ⟨q, 6, none⟩ (.int .u32 E0.1)).setCell ⟨q, 7, none⟩ (.int .u32 E0.2)) from ⟨fr_own (fr_own HF1.out _) _, (HQ1.out.set_ 6 _).set_ 7 _, World.ownsRow_nil _ _ _ _, rfl, fun x hx => (by cases hx), HFS.out⟩)
  clear HQ1 HF1 HFS
  go_wp2_with fail
  generalize (w1.setCell ⟨q, 6, none⟩ (.int .u32 E0.1)).setCell ⟨q, 7, none⟩ (.int .u32 E0.2) = W0 at *
  clear x1 x2 x6 x7 r6 r7
  go_loopw [22] (fun t W => ∃ (i : Nat) (A1 : Option Addr) (c1 : Nat) (fs : List Fx) (e : Int × Int), i ≤ F ∧ t = .int .i64 i ∧ Tf w g q N F P hd i A1 c1 fs e W ∧ RS = (frT d N i (F - i) e).map (fun p => (fs ++ p.1, p.2))) (fun t _ => F - (intOf t).toNat)
  case atStart => exact ⟨0, none, 0, [], E0, Nat.zero_le _, rfl, HTF.out, by rw [← HRS.out, Nat.sub_zero]; simp⟩
  case round =>
    clear HTF HRS
    obtain ⟨i, A1, c1, fs, e, hi, rfl, htf, hrs⟩ := hrel
    have HTF := Lib.hid htf
    have HRS := Lib.hid hrs
    clear htf hrs
    by_cases hiF : i < F
    rotate_left
    · obtain rfl : i = F := by omega
      have hRS : RS = some (fs, e) := by rw [HRS.out, Nat.sub_self, frT]; simp
      have HXE := Lib.hid (show X = if lastC P fs then some (fs, e) else none from by rw [← HX.out, hRS]; simp [Option.filter])
      have HLG := Lib.hid (tf_lg HTF.out HD.out HS.out HQW.out HNL.out hF HPB.out (by omega))
      have HFR := Lib.hid HTF.out.fr
      have HSB := Lib.hid (show ∀ b, (S b ∨ b = q ∨ (Value.slice A1 i c1).ownBlock = some b) → S b ∨ b = q ∨ w.heap.size ≤ b from fun b hb => by
        rcases hb with hb | hb | hb
        · exact .inl hb
        · exact .inr (.inl hb)
        · exact .inr (.inr (HTF.out.row.lt b hb).1))
      obtain ⟨-, -, y3, y5, -⟩ := tf_cells HTF.out
      have HQR := Lib.hid HTF.out.blk.lt
      have HROW := Lib.hid HTF.out.row
      have HLEN := Lib.hid HTF.out.len
      clear hRS HRS HX HTF hiF
      go_wp2_with fail
      rcases List.eq_nil_or_concat fs with hnil | ⟨fr, lx, hcc⟩
      · subst hnil
        obtain rfl : i = 0 := HLEN.out.symm
        have hX : X = some ([], e) := by rw [HXE.out]; rfl
        have HXX := Lib.hid hX
        have HC3 := Lib.hid (show ∀ W, Below wr.heap.size wr W → W.cell? ⟨q, 5, none⟩ = some (.slice A1 0 c1) from fun W hb => (hb.cell (p := ⟨q, 5, none⟩) HQR.out).trans y5)
        clear hX HXE y5 y3
        refine wp_region_noPanic ?_
        refine wp_region_any (by kernel_rfl) ?_
        refine facts_sw [0, 1, 2, 3, 4, 5, 6, 7, 8, 9, 10, 11, 12, 13, 14, 15, 16, 17, 18, 19, 20, 21, 22, 23, 24, 25, 26, 27] (fun i => match i with | 1 => [0] | 2 => [1] | 3 => [2] | 4 => [3] | 5 => [4] | 6 => [5] | 7 => [6] | 8 => [7, 6] | 9 => [8, 6] | 10 => [9, 6] | 11 => [6] | 12 => [11, 6] | 13 => [12, 6] | 14 => [13, 6] | 15 => [14, 6] | 16 => [15, 6] | 17 => [10, 16, 6] | 18 => [17, 6] | 19 => [18, 6] | 20 => [6] | 21 => [20, 6] | 22 => [21, 6] | 23 => [22, 6] | 24 => [23, 6] | 25 => [19, 24, 6] | 26 => [6, 25] | 27 => [26] | _ => []) 99 99 (fun i_ v W => match i_ with | 0 => v = lp q | 1 => v = lp q | 2 => v = .pointer (some ⟨q, 5, none⟩) | 3 => v = .slice A1 0 c1 | 4 => v = .int .i64 0 | 5 => v = .bool true | 6 => v = .bool true | 7 => v = undef | 8 => v = undef | 9 => v = undef | 10 => v = undef | 11 => v = undef | 12 => v = undef | 13 => v = undef | 14 => v = undef | 15 => v = undef | 16 => v = undef | 17 => v = undef | 18 => v = undef | 19 => v = undef | 20 => v = undef | 21 => v = undef | 22 => v = undef | 23 => v = undef | 24 => v = undef | 25 => v = undef | 26 => v = .bool true | 27 => v = .bool true | _ => True) (fun W W' => Below W.heap.size W W') (fun _ _ W => Below wr.drew.heap.size wr.drew W) _ _ _ 0 _ #[true, true, true, true, true, true, true, true, true, true, true, true, true, true, true, true, true, true, true, true, true, true, true, true, true, true, true, true] (fun i_ v W W' h hs => match i_, h with | 0, h => h | 1, h => h | 2, h => h | 3, h => h | 4, h => h | 5, h => h | 6, h => h | 7, h => h | 8, h => h | 9, h => h | 10, h => h | 11, h => h | 12, h => h | 13, h => h | 14, h => h | 15, h => h | 16, h => h | 17, h => h | 18, h => h | 19, h => h | 20, h => h | 21, h => h | 22, h => h | 23, h => h | 24, h => h | 25, h => h | 26, h => h | 27, h => h | _ + 28, h => h) (by kernel_rfl) (by rfl) (Below.refl _ _) ?hstep ?hend
        case hstep =>
          intro i_ hi_ b_ c_ hbp hcq hbd hcd x W hd hI K hK
          simp only [List.mem_cons, List.not_mem_nil, or_false] at hi_
          rcases hi_ with rfl | rfl | rfl | rfl | rfl | rfl | rfl | rfl | rfl | rfl | rfl | rfl | rfl | rfl | rfl | rfl | rfl | rfl | rfl | rfl | rfl | rfl | rfl | rfl | rfl | rfl | rfl | rfl
          · generalize hA : putsA _ _ x [0, 1, 2, 3, 4, 5, 6, 7, 8, 9, 10, 11, 12, 13, 14, 15, 16, 17, 18, 19, 20, 21, 22, 23, 24, 25, 26, 27] = A_ at *
            have e0 : A_.tmps[0]? = some (lp q) := by rw [← hA]; exact putsA_at 0 _ (by decide +kernel)
            clear hA hd
            refine wpOp_step rfl (fun K' hK' => ?_)
            go_simp
            exact hK' _ _ (hK _ _ rfl (Below.refl _ _) hI)
          · generalize hA : putsA _ _ x [0, 1, 2, 3, 4, 5, 6, 7, 8, 9, 10, 11, 12, 13, 14, 15, 16, 17, 18, 19, 20, 21, 22, 23, 24, 25, 26, 27] = A_ at *
            have e69 : A_.tmps[69]? = some (x 0) := by rw [← hA]; exact putsA_in (i := 0) 69 (by rfl) (by show (69 : Nat) < 96; decide) _ (by decide +kernel) (by decide)
            have f0 : x 0 = lp q := hd 0 (by decide)
            rw [f0] at e69
            clear hA hd
            refine wpOp_step rfl (fun K' hK' => ?_)
            go_simp
            exact hK' _ _ (hK _ _ rfl (Below.refl _ _) hI)
          · generalize hA : putsA _ _ x [0, 1, 2, 3, 4, 5, 6, 7, 8, 9, 10, 11, 12, 13, 14, 15, 16, 17, 18, 19, 20, 21, 22, 23, 24, 25, 26, 27] = A_ at *
            have e70 : A_.tmps[70]? = some (x 1) := by rw [← hA]; exact putsA_in (i := 1) 70 (by rfl) (by show (70 : Nat) < 96; decide) _ (by decide +kernel) (by decide)
            have f1 : x 1 = lp q := hd 1 (by decide)
            rw [f1] at e70
            clear hA hd
            refine wpOp_step rfl (fun K' hK' => ?_)
            go_simp
            exact hK' _ _ (hK _ _ rfl (Below.refl _ _) hI)
          · generalize hA : putsA _ _ x [0, 1, 2, 3, 4, 5, 6, 7, 8, 9, 10, 11, 12, 13, 14, 15, 16, 17, 18, 19, 20, 21, 22, 23, 24, 25, 26, 27] = A_ at *
            have e71 : A_.tmps[71]? = some (x 2) := by rw [← hA]; exact putsA_in (i := 2) 71 (by rfl) (by show (71 : Nat) < 96; decide) _ (by decide +kernel) (by decide)
            have f2 : x 2 = .pointer (some ⟨q, 5, none⟩) := hd 2 (by decide)
            rw [f2] at e71
            clear hA hd
            have z5 := HC3.out W (undrew hI)
            refine wpOp_step rfl (fun K' hK' => ?_)
            go_simp
            exact hK' _ _ (hK _ _ rfl (Below.refl _ _) hI)
          · generalize hA : putsA _ _ x [0, 1, 2, 3, 4, 5, 6, 7, 8, 9, 10, 11, 12, 13, 14, 15, 16, 17, 18, 19, 20, 21, 22, 23, 24, 25, 26, 27] = A_ at *
            have e72 : A_.tmps[72]? = some (x 3) := by rw [← hA]; exact putsA_in (i := 3) 72 (by rfl) (by show (72 : Nat) < 96; decide) _ (by decide +kernel) (by decide)
            have f3 : x 3 = .slice A1 0 c1 := hd 3 (by decide)
            rw [f3] at e72
            clear hA hd
            refine wpOp_step rfl (fun K' hK' => ?_)
            go_simp
            exact hK' _ _ (hK _ _ rfl (Below.refl _ _) hI)
          · generalize hA : putsA _ _ x [0, 1, 2, 3, 4, 5, 6, 7, 8, 9, 10, 11, 12, 13, 14, 15, 16, 17, 18, 19, 20, 21, 22, 23, 24, 25, 26, 27] = A_ at *
            have e73 : A_.tmps[73]? = some (x 4) := by rw [← hA]; exact putsA_in (i := 4) 73 (by rfl) (by show (73 : Nat) < 96; decide) _ (by decide +kernel) (by decide)
            have f4 : x 4 = .int .i64 0 := hd 4 (by decide)
            rw [f4] at e73
            clear hA hd
            refine wpOp_step rfl (fun K' hK' => ?_)
            go_simp
            exact hK' _ _ (hK _ _ rfl (Below.refl _ _) hI)
          · generalize hA : putsA _ _ x [0, 1, 2, 3, 4, 5, 6, 7, 8, 9, 10, 11, 12, 13, 14, 15, 16, 17, 18, 19, 20, 21, 22, 23, 24, 25, 26, 27] = A_ at *
            have e74 : A_.tmps[74]? = some (x 5) := by rw [← hA]; exact putsA_in (i := 5) 74 (by rfl) (by show (74 : Nat) < 96; decide) _ (by decide +kernel) (by decide)
            have f5 : x 5 = .bool true := hd 5 (by decide)
            rw [f5] at e74
            clear hA hd
            refine wpOp_step rfl (fun K' hK' => ?_)
            go_simp
            exact hK' _ _ (hK _ _ rfl (Below.refl _ _) hI)
          · generalize hA : putsA _ _ x [0, 1, 2, 3, 4, 5, 6, 7, 8, 9, 10, 11, 12, 13, 14, 15, 16, 17, 18, 19, 20, 21, 22, 23, 24, 25, 26, 27] = A_ at *
            have e0 : A_.tmps[0]? = some (lp q) := by rw [← hA]; exact putsA_at 0 _ (by decide +kernel)
            have e75 : A_.tmps[75]? = some (x 6) := by rw [← hA]; exact putsA_in (i := 6) 75 (by rfl) (by show (75 : Nat) < 96; decide) _ (by decide +kernel) (by decide)
            have f6 : x 6 = .bool true := hd 6 (by decide)
            rw [f6] at e75
            clear hA hd
            refine wpOp_step rfl (fun K' hK' => ?_)
            go_simp
            exact hK' _ _ (hK _ _ rfl (Below.refl _ _) hI)
          · generalize hA : putsA _ _ x [0, 1, 2, 3, 4, 5, 6, 7, 8, 9, 10, 11, 12, 13, 14, 15, 16, 17, 18, 19, 20, 21, 22, 23, 24, 25, 26, 27] = A_ at *
            have e76 : A_.tmps[76]? = some (x 7) := by rw [← hA]; exact putsA_in (i := 7) 76 (by rfl) (by show (76 : Nat) < 96; decide) _ (by decide +kernel) (by decide)
            have f7 : x 7 = undef := hd 7 (by decide)
            rw [f7] at e76
            have e75 : A_.tmps[75]? = some (x 6) := by rw [← hA]; exact putsA_in (i := 6) 75 (by rfl) (by show (75 : Nat) < 96; decide) _ (by decide +kernel) (by decide)
            have f6 : x 6 = .bool true := hd 6 (by decide)
            rw [f6] at e75
            clear hA hd
            refine wpOp_step rfl (fun K' hK' => ?_)
            go_simp
            exact hK' _ _ (hK _ _ rfl (Below.refl _ _) hI)
          · generalize hA : putsA _ _ x [0, 1, 2, 3, 4, 5, 6, 7, 8, 9, 10, 11, 12, 13, 14, 15, 16, 17, 18, 19, 20, 21, 22, 23, 24, 25, 26, 27] = A_ at *
            have e77 : A_.tmps[77]? = some (x 8) := by rw [← hA]; exact putsA_in (i := 8) 77 (by rfl) (by show (77 : Nat) < 96; decide) _ (by decide +kernel) (by decide)
            have f8 : x 8 = undef := hd 8 (by decide)
            rw [f8] at e77
            have e75 : A_.tmps[75]? = some (x 6) := by rw [← hA]; exact putsA_in (i := 6) 75 (by rfl) (by show (75 : Nat) < 96; decide) _ (by decide +kernel) (by decide)
            have f6 : x 6 = .bool true := hd 6 (by decide)
            rw [f6] at e75
            clear hA hd
            refine wpOp_step rfl (fun K' hK' => ?_)
            go_simp
            exact hK' _ _ (hK _ _ rfl (Below.refl _ _) hI)
          · generalize hA : putsA _ _ x [0, 1, 2, 3, 4, 5, 6, 7, 8, 9, 10, 11, 12, 13, 14, 15, 16, 17, 18, 19, 20, 21, 22, 23, 24, 25, 26, 27] = A_ at *
            have e78 : A_.tmps[78]? = some (x 9) := by rw [← hA]; exact putsA_in (i := 9) 78 (by rfl) (by show (78 : Nat) < 96; decide) _ (by decide +kernel) (by decide)
            have f9 : x 9 = undef := hd 9 (by decide)
            rw [f9] at e78
            have e75 : A_.tmps[75]? = some (x 6) := by rw [← hA]; exact putsA_in (i := 6) 75 (by rfl) (by show (75 : Nat) < 96; decide) _ (by decide +kernel) (by decide)
            have f6 : x 6 = .bool true := hd 6 (by decide)
            rw [f6] at e75
            clear hA hd
            refine wpOp_step rfl (fun K' hK' => ?_)
            go_simp
            exact hK' _ _ (hK _ _ rfl (Below.refl _ _) hI)
          · generalize hA : putsA _ _ x [0, 1, 2, 3, 4, 5, 6, 7, 8, 9, 10, 11, 12, 13, 14, 15, 16, 17, 18, 19, 20, 21, 22, 23, 24, 25, 26, 27] = A_ at *
            have e0 : A_.tmps[0]? = some (lp q) := by rw [← hA]; exact putsA_at 0 _ (by decide +kernel)
            have e75 : A_.tmps[75]? = some (x 6) := by rw [← hA]; exact putsA_in (i := 6) 75 (by rfl) (by show (75 : Nat) < 96; decide) _ (by decide +kernel) (by decide)
            have f6 : x 6 = .bool true := hd 6 (by decide)
            rw [f6] at e75
            clear hA hd
            refine wpOp_step rfl (fun K' hK' => ?_)
            go_simp
            exact hK' _ _ (hK _ _ rfl (Below.refl _ _) hI)
          · generalize hA : putsA _ _ x [0, 1, 2, 3, 4, 5, 6, 7, 8, 9, 10, 11, 12, 13, 14, 15, 16, 17, 18, 19, 20, 21, 22, 23, 24, 25, 26, 27] = A_ at *
            have e80 : A_.tmps[80]? = some (x 11) := by rw [← hA]; exact putsA_in (i := 11) 80 (by rfl) (by show (80 : Nat) < 96; decide) _ (by decide +kernel) (by decide)
            have f11 : x 11 = undef := hd 11 (by decide)
            rw [f11] at e80
            have e75 : A_.tmps[75]? = some (x 6) := by rw [← hA]; exact putsA_in (i := 6) 75 (by rfl) (by show (75 : Nat) < 96; decide) _ (by decide +kernel) (by decide)
            have f6 : x 6 = .bool true := hd 6 (by decide)
            rw [f6] at e75
            clear hA hd
            refine wpOp_step rfl (fun K' hK' => ?_)
            go_simp
            exact hK' _ _ (hK _ _ rfl (Below.refl _ _) hI)
          · generalize hA : putsA _ _ x [0, 1, 2, 3, 4, 5, 6, 7, 8, 9, 10, 11, 12, 13, 14, 15, 16, 17, 18, 19, 20, 21, 22, 23, 24, 25, 26, 27] = A_ at *
            have e81 : A_.tmps[81]? = some (x 12) := by rw [← hA]; exact putsA_in (i := 12) 81 (by rfl) (by show (81 : Nat) < 96; decide) _ (by decide +kernel) (by decide)
            have f12 : x 12 = undef := hd 12 (by decide)
            rw [f12] at e81
            have e75 : A_.tmps[75]? = some (x 6) := by rw [← hA]; exact putsA_in (i := 6) 75 (by rfl) (by show (75 : Nat) < 96; decide) _ (by decide +kernel) (by decide)
            have f6 : x 6 = .bool true := hd 6 (by decide)
            rw [f6] at e75
            clear hA hd
            refine wpOp_step rfl (fun K' hK' => ?_)
            go_simp
            exact hK' _ _ (hK _ _ rfl (Below.refl _ _) hI)
          · generalize hA : putsA _ _ x [0, 1, 2, 3, 4, 5, 6, 7, 8, 9, 10, 11, 12, 13, 14, 15, 16, 17, 18, 19, 20, 21, 22, 23, 24, 25, 26, 27] = A_ at *
            have e82 : A_.tmps[82]? = some (x 13) := by rw [← hA]; exact putsA_in (i := 13) 82 (by rfl) (by show (82 : Nat) < 96; decide) _ (by decide +kernel) (by decide)
            have f13 : x 13 = undef := hd 13 (by decide)
            rw [f13] at e82
            have e75 : A_.tmps[75]? = some (x 6) := by rw [← hA]; exact putsA_in (i := 6) 75 (by rfl) (by show (75 : Nat) < 96; decide) _ (by decide +kernel) (by decide)
            have f6 : x 6 = .bool true := hd 6 (by decide)
            rw [f6] at e75
            clear hA hd
            refine wpOp_step rfl (fun K' hK' => ?_)
            go_simp
            exact hK' _ _ (hK _ _ rfl (Below.refl _ _) hI)
          · generalize hA : putsA _ _ x [0, 1, 2, 3, 4, 5, 6, 7, 8, 9, 10, 11, 12, 13, 14, 15, 16, 17, 18, 19, 20, 21, 22, 23, 24, 25, 26, 27] = A_ at *
            have e83 : A_.tmps[83]? = some (x 14) := by rw [← hA]; exact putsA_in (i := 14) 83 (by rfl) (by show (83 : Nat) < 96; decide) _ (by decide +kernel) (by decide)
            have f14 : x 14 = undef := hd 14 (by decide)
            rw [f14] at e83
            have e75 : A_.tmps[75]? = some (x 6) := by rw [← hA]; exact putsA_in (i := 6) 75 (by rfl) (by show (75 : Nat) < 96; decide) _ (by decide +kernel) (by decide)
            have f6 : x 6 = .bool true := hd 6 (by decide)
            rw [f6] at e75
            clear hA hd
            refine wpOp_step rfl (fun K' hK' => ?_)
            go_simp
            exact hK' _ _ (hK _ _ rfl (Below.refl _ _) hI)
          · generalize hA : putsA _ _ x [0, 1, 2, 3, 4, 5, 6, 7, 8, 9, 10, 11, 12, 13, 14, 15, 16, 17, 18, 19, 20, 21, 22, 23, 24, 25, 26, 27] = A_ at *
            have e84 : A_.tmps[84]? = some (x 15) := by rw [← hA]; exact putsA_in (i := 15) 84 (by rfl) (by show (84 : Nat) < 96; decide) _ (by decide +kernel) (by decide)
            have f15 : x 15 = undef := hd 15 (by decide)
            rw [f15] at e84
            have e75 : A_.tmps[75]? = some (x 6) := by rw [← hA]; exact putsA_in (i := 6) 75 (by rfl) (by show (75 : Nat) < 96; decide) _ (by decide +kernel) (by decide)
            have f6 : x 6 = .bool true := hd 6 (by decide)
            rw [f6] at e75
            clear hA hd
            refine wpOp_step rfl (fun K' hK' => ?_)
            go_simp
            exact hK' _ _ (hK _ _ rfl (Below.refl _ _) hI)
          · generalize hA : putsA _ _ x [0, 1, 2, 3, 4, 5, 6, 7, 8, 9, 10, 11, 12, 13, 14, 15, 16, 17, 18, 19, 20, 21, 22, 23, 24, 25, 26, 27] = A_ at *
            have e79 : A_.tmps[79]? = some (x 10) := by rw [← hA]; exact putsA_in (i := 10) 79 (by rfl) (by show (79 : Nat) < 96; decide) _ (by decide +kernel) (by decide)
            have f10 : x 10 = undef := hd 10 (by decide)
            rw [f10] at e79
            have e85 : A_.tmps[85]? = some (x 16) := by rw [← hA]; exact putsA_in (i := 16) 85 (by rfl) (by show (85 : Nat) < 96; decide) _ (by decide +kernel) (by decide)
            have f16 : x 16 = undef := hd 16 (by decide)
            rw [f16] at e85
            have e75 : A_.tmps[75]? = some (x 6) := by rw [← hA]; exact putsA_in (i := 6) 75 (by rfl) (by show (75 : Nat) < 96; decide) _ (by decide +kernel) (by decide)
            have f6 : x 6 = .bool true := hd 6 (by decide)
            rw [f6] at e75
            clear hA hd
            refine wpOp_step rfl (fun K' hK' => ?_)
            go_simp
            exact hK' _ _ (hK _ _ rfl (Below.refl _ _) hI)
          · generalize hA : putsA _ _ x [0, 1, 2, 3, 4, 5, 6, 7, 8, 9, 10, 11, 12, 13, 14, 15, 16, 17, 18, 19, 20, 21, 22, 23, 24, 25, 26, 27] = A_ at *
            have e86 : A_.tmps[86]? = some (x 17) := by rw [← hA]; exact putsA_in (i := 17) 86 (by rfl) (by show (86 : Nat) < 96; decide) _ (by decide +kernel) (by decide)
            have f17 : x 17 = undef := hd 17 (by decide)
            rw [f17] at e86
            have e75 : A_.tmps[75]? = some (x 6) := by rw [← hA]; exact putsA_in (i := 6) 75 (by rfl) (by show (75 : Nat) < 96; decide) _ (by decide +kernel) (by decide)
            have f6 : x 6 = .bool true := hd 6 (by decide)
            rw [f6] at e75
            clear hA hd
            refine wpOp_step rfl (fun K' hK' => ?_)
            go_simp
            exact hK' _ _ (hK _ _ rfl (Below.refl _ _) hI)
          · generalize hA : putsA _ _ x [0, 1, 2, 3, 4, 5, 6, 7, 8, 9, 10, 11, 12, 13, 14, 15, 16, 17, 18, 19, 20, 21, 22, 23, 24, 25, 26, 27] = A_ at *
            have e87 : A_.tmps[87]? = some (x 18) := by rw [← hA]; exact putsA_in (i := 18) 87 (by rfl) (by show (87 : Nat) < 96; decide) _ (by decide +kernel) (by decide)
            have f18 : x 18 = undef := hd 18 (by decide)
            rw [f18] at e87
            have e75 : A_.tmps[75]? = some (x 6) := by rw [← hA]; exact putsA_in (i := 6) 75 (by rfl) (by show (75 : Nat) < 96; decide) _ (by decide +kernel) (by decide)
            have f6 : x 6 = .bool true := hd 6 (by decide)
            rw [f6] at e75
            clear hA hd
            refine wpOp_step rfl (fun K' hK' => ?_)
            go_simp
            exact hK' _ _ (hK _ _ rfl (Below.refl _ _) hI)
          · generalize hA : putsA _ _ x [0, 1, 2, 3, 4, 5, 6, 7, 8, 9, 10, 11, 12, 13, 14, 15, 16, 17, 18, 19, 20, 21, 22, 23, 24, 25, 26, 27] = A_ at *
            have e0 : A_.tmps[0]? = some (lp q) := by rw [← hA]; exact putsA_at 0 _ (by decide +kernel)
            have e75 : A_.tmps[75]? = some (x 6) := by rw [← hA]; exact putsA_in (i := 6) 75 (by rfl) (by show (75 : Nat) < 96; decide) _ (by decide +kernel) (by decide)
            have f6 : x 6 = .bool true := hd 6 (by decide)
            rw [f6] at e75
            clear hA hd
            refine wpOp_step rfl (fun K' hK' => ?_)
            go_simp
            exact hK' _ _ (hK _ _ rfl (Below.refl _ _) hI)
          · generalize hA : putsA _ _ x [0, 1, 2, 3, 4, 5, 6, 7, 8, 9, 10, 11, 12, 13, 14, 15, 16, 17, 18, 19, 20, 21, 22, 23, 24, 25, 26, 27] = A_ at *
            have e89 : A_.tmps[89]? = some (x 20) := by rw [← hA]; exact putsA_in (i := 20) 89 (by rfl) (by show (89 : Nat) < 96; decide) _ (by decide +kernel) (by decide)
            have f20 : x 20 = undef := hd 20 (by decide)
            rw [f20] at e89
            have e75 : A_.tmps[75]? = some (x 6) := by rw [← hA]; exact putsA_in (i := 6) 75 (by rfl) (by show (75 : Nat) < 96; decide) _ (by decide +kernel) (by decide)
            have f6 : x 6 = .bool true := hd 6 (by decide)
            rw [f6] at e75
            clear hA hd
            refine wpOp_step rfl (fun K' hK' => ?_)
            go_simp
            exact hK' _ _ (hK _ _ rfl (Below.refl _ _) hI)
          · generalize hA : putsA _ _ x [0, 1, 2, 3, 4, 5, 6, 7, 8, 9, 10, 11, 12, 13, 14, 15, 16, 17, 18, 19, 20, 21, 22, 23, 24, 25, 26, 27] = A_ at *
            have e90 : A_.tmps[90]? = some (x 21) := by rw [← hA]; exact putsA_in (i := 21) 90 (by rfl) (by show (90 : Nat) < 96; decide) _ (by decide +kernel) (by decide)
            have f21 : x 21 = undef := hd 21 (by decide)
            rw [f21] at e90
            have e75 : A_.tmps[75]? = some (x 6) := by rw [← hA]; exact putsA_in (i := 6) 75 (by rfl) (by show (75 : Nat) < 96; decide) _ (by decide +kernel) (by decide)
            have f6 : x 6 = .bool true := hd 6 (by decide)
            rw [f6] at e75
            clear hA hd
            refine wpOp_step rfl (fun K' hK' => ?_)
            go_simp
            exact hK' _ _ (hK _ _ rfl (Below.refl _ _) hI)
          · generalize hA : putsA _ _ x [0, 1, 2, 3, 4, 5, 6, 7, 8, 9, 10, 11, 12, 13, 14, 15, 16, 17, 18, 19, 20, 21, 22, 23, 24, 25, 26, 27] = A_ at *
            have e91 : A_.tmps[91]? = some (x 22) := by rw [← hA]; exact putsA_in (i := 22) 91 (by rfl) (by show (91 : Nat) < 96; decide) _ (by decide +kernel) (by decide)
            have f22 : x 22 = undef := hd 22 (by decide)
            rw [f22] at e91
            have e75 : A_.tmps[75]? = some (x 6) := by rw [← hA]; exact putsA_in (i := 6) 75 (by rfl) (by show (75 : Nat) < 96; decide) _ (by decide +kernel) (by decide)
            have f6 : x 6 = .bool true := hd 6 (by decide)
            rw [f6] at e75
            clear hA hd
            refine wpOp_step rfl (fun K' hK' => ?_)
            go_simp
            exact hK' _ _ (hK _ _ rfl (Below.refl _ _) hI)
          · generalize hA : putsA _ _ x [0, 1, 2, 3, 4, 5, 6, 7, 8, 9, 10, 11, 12, 13, 14, 15, 16, 17, 18, 19, 20, 21, 22, 23, 24, 25, 26, 27] = A_ at *
            have e92 : A_.tmps[92]? = some (x 23) := by rw [← hA]; exact putsA_in (i := 23) 92 (by rfl) (by show (92 : Nat) < 96; decide) _ (by decide +kernel) (by decide)
            have f23 : x 23 = undef := hd 23 (by decide)
            rw [f23] at e92
            have e75 : A_.tmps[75]? = some (x 6) := by rw [← hA]; exact putsA_in (i := 6) 75 (by rfl) (by show (75 : Nat) < 96; decide) _ (by decide +kernel) (by decide)
            have f6 : x 6 = .bool true := hd 6 (by decide)
            rw [f6] at e75
            clear hA hd
            refine wpOp_step rfl (fun K' hK' => ?_)
            go_simp
            exact hK' _ _ (hK _ _ rfl (Below.refl _ _) hI)
          · generalize hA : putsA _ _ x [0, 1, 2, 3, 4, 5, 6, 7, 8, 9, 10, 11, 12, 13, 14, 15, 16, 17, 18, 19, 20, 21, 22, 23, 24, 25, 26, 27] = A_ at *
            have e88 : A_.tmps[88]? = some (x 19) := by rw [← hA]; exact putsA_in (i := 19) 88 (by rfl) (by show (88 : Nat) < 96; decide) _ (by decide +kernel) (by decide)
            have f19 : x 19 = undef := hd 19 (by decide)
            rw [f19] at e88
            have e93 : A_.tmps[93]? = some (x 24) := by rw [← hA]; exact putsA_in (i := 24) 93 (by rfl) (by show (93 : Nat) < 96; decide) _ (by decide +kernel) (by decide)
            have f24 : x 24 = undef := hd 24 (by decide)
            rw [f24] at e93
            have e75 : A_.tmps[75]? = some (x 6) := by rw [← hA]; exact putsA_in (i := 6) 75 (by rfl) (by show (75 : Nat) < 96; decide) _ (by decide +kernel) (by decide)
            have f6 : x 6 = .bool true := hd 6 (by decide)
            rw [f6] at e75
            clear hA hd
            refine wpOp_step rfl (fun K' hK' => ?_)
            go_simp
            exact hK' _ _ (hK _ _ rfl (Below.refl _ _) hI)
          · generalize hA : putsA _ _ x [0, 1, 2, 3, 4, 5, 6, 7, 8, 9, 10, 11, 12, 13, 14, 15, 16, 17, 18, 19, 20, 21, 22, 23, 24, 25, 26, 27] = A_ at *
            have e75 : A_.tmps[75]? = some (x 6) := by rw [← hA]; exact putsA_in (i := 6) 75 (by rfl) (by show (75 : Nat) < 96; decide) _ (by decide +kernel) (by decide)
            have f6 : x 6 = .bool true := hd 6 (by decide)
            rw [f6] at e75
            have e94 : A_.tmps[94]? = some (x 25) := by rw [← hA]; exact putsA_in (i := 25) 94 (by rfl) (by show (94 : Nat) < 96; decide) _ (by decide +kernel) (by decide)
            have f25 : x 25 = undef := hd 25 (by decide)
            rw [f25] at e94
            clear hA hd
            refine wpOp_step rfl (fun K' hK' => ?_)
            go_simp
            exact hK' _ _ (hK _ _ rfl (Below.refl _ _) hI)
          · generalize hA : putsA _ _ x [0, 1, 2, 3, 4, 5, 6, 7, 8, 9, 10, 11, 12, 13, 14, 15, 16, 17, 18, 19, 20, 21, 22, 23, 24, 25, 26, 27] = A_ at *
            have e95 : A_.tmps[95]? = some (x 26) := by rw [← hA]; exact putsA_in (i := 26) 95 (by rfl) (by show (95 : Nat) < 96; decide) _ (by decide +kernel) (by decide)
            have f26 : x 26 = .bool true := hd 26 (by decide)
            rw [f26] at e95
            clear hA hd
            refine wpOp_step rfl (fun K' hK' => ?_)
            go_simp
            exact hK' _ _ (hK _ _ rfl (Below.refl _ _) hI)
        case hend =>
          intro x W b_ c_ hf hpf hqf hI
          have f0 : x 0 = lp q := hf 0 (by decide)
          have f1 : x 1 = lp q := hf 1 (by decide)
          have f2 : x 2 = .pointer (some ⟨q, 5, none⟩) := hf 2 (by decide)
          have f3 : x 3 = .slice A1 0 c1 := hf 3 (by decide)
          have f4 : x 4 = .int .i64 0 := hf 4 (by decide)
          have f5 : x 5 = .bool true := hf 5 (by decide)
          have f6 : x 6 = .bool true := hf 6 (by decide)
          have f7 : x 7 = undef := hf 7 (by decide)
          have f8 : x 8 = undef := hf 8 (by decide)
          have f9 : x 9 = undef := hf 9 (by decide)
          have f10 : x 10 = undef := hf 10 (by decide)
          have f11 : x 11 = undef := hf 11 (by decide)
          have f12 : x 12 = undef := hf 12 (by decide)
          have f13 : x 13 = undef := hf 13 (by decide)
          have f14 : x 14 = undef := hf 14 (by decide)
          have f15 : x 15 = undef := hf 15 (by decide)
          have f16 : x 16 = undef := hf 16 (by decide)
          have f17 : x 17 = undef := hf 17 (by decide)
          have f18 : x 18 = undef := hf 18 (by decide)
          have f19 : x 19 = undef := hf 19 (by decide)
          have f20 : x 20 = undef := hf 20 (by decide)
          have f21 : x 21 = undef := hf 21 (by decide)
          have f22 : x 22 = undef := hf 22 (by decide)
          have f23 : x 23 = undef := hf 23 (by decide)
          have f24 : x 24 = undef := hf 24 (by decide)
          have f25 : x 25 = undef := hf 25 (by decide)
          have f26 : x 26 = .bool true := hf 26 (by decide)
          have f27 : x 27 = .bool true := hf 27 (by decide)
          rw [putsA_lit _ _ [0, 1, 2, 3, 4, 5, 6, 7, 8, 9, 10, 11, 12, 13, 14, 15, 16, 17, 18, 19, 20, 21, 22, 23, 24, 25, 26, 27] ((2, 27) :: (69, 0) :: (70, 1) :: (71, 2) :: (72, 3) :: (73, 4) :: (74, 5) :: (75, 6) :: (76, 7) :: (77, 8) :: (78, 9) :: (79, 10) :: (80, 11) :: (81, 12) :: (82, 13) :: (83, 14) :: (84, 15) :: (85, 16) :: (86, 17) :: (87, 18) :: (88, 19) :: (89, 20) :: (90, 21) :: (91, 22) :: (92, 23) :: (93, 24) :: (94, 25) :: (95, 26) :: []) (by kernel_rfl)]
          simp only [setAll, ↓reduceIte, Nat.reduceAdd, Nat.reduceEqDiff]
          rw [f0, f1, f2, f3, f4, f5, f6, f7, f8, f9, f10, f11, f12, f13, f14, f15, f16, f17, f18, f19, f20, f21, f22, f23, f24, f25, f26, f27]
          clear hf hpf hqf f0 f1 f2 f3 f4 f5 f6 f7 f8 f9 f10 f11 f12 f13 f14 f15 f16 f17 f18 f19 f20 f21 f22 f23 f24 f25 f26 f27
          refine wpAny_done (by kernel_rfl) ?_ _
          refine NoPanic.normal ?_
          have HBW := Lib.hid (undrew hI)
          clear hI x
          go_wp2_with fail
          go_ret
          refine ⟨by rw [HXX.out]; rfl, fr_step HFR.out HBW.out, fun fs1 e1 h => ?_⟩
          rw [HXX.out] at h
          cases h
          exact ⟨_, lgS_below HLG.out HBW.out, HSB.out⟩
      · have hcc : fs = fr ++ [lx] := by rw [hcc, List.concat_eq_append]
        subst hcc
        have hlen : i = fr.length + 1 := by rw [← HLEN.out, List.length_append]; rfl
        obtain ⟨gb, rfl, c0, c1', c2⟩ := own_fx HROW.out HLEN.out.symm (i := fr.length) (x := lx) (by rw [List.getElem?_append_right (Nat.le_refl _), Nat.sub_self]; rfl)
        have hlast : lastC P (fr ++ [lx]) = decide (lx.cm = P) := by unfold lastC; rw [List.getLast?_append]; rfl
        have HXE2 := Lib.hid (show X = if decide (lx.cm = P) = true then some (fr ++ [lx], e) else none from by rw [HXE.out, hlast])
        have hne : ((i : Int) == 0) = false := by simp; omega
        have hii : (i : Int) - 1 = (fr.length : Int) := by omega
        have hw1 : IntKind.i64.wrap ((i : Int) - 1) = (fr.length : Int) := by rw [IntKind.wrap_i64]; omega
        have hl0 : (0 : Int) ≤ (fr.length : Int) := by omega
        have hl1 : (fr.length : Int) < (i : Int) := by omega
        have HC3 := Lib.hid (show ∀ W, Below wr.heap.size wr W → W.cell? ⟨q, 5, none⟩ = some (.slice (some ⟨gb, 0, none⟩) i c1) ∧ W.cell? ⟨q, 3, none⟩ = some (.int .i64 P) ∧ W.cell? ⟨gb, fr.length * 3 + 1, none⟩ = some (.int .i64 lx.cm) from fun W hb => ⟨(hb.cell (p := ⟨q, 5, none⟩) HQR.out).trans y5, (hb.cell (p := ⟨q, 3, none⟩) HQR.out).trans y3, (hb.cell (p := ⟨gb, fr.length * 3 + 1, none⟩) (HROW.out.lt gb rfl).2).trans c1'⟩)
        clear hlast HXE c0 c1' c2 y5 y3
        obtain ⟨m, hm⟩ : ∃ m, fr.length = m := ⟨_, rfl⟩
        rw [hm] at hii hw1 hl0 hl1 HC3
        clear hm hlen
        have hwm : IntKind.i64.wrap (m : Int) = (m : Int) := by rw [IntKind.wrap_i64]; omega
        by_cases hcp : lx.cm = P
        · have hcb : ((lx.cm : Int) == (P : Int)) = true := by simp; omega
          have HXX := Lib.hid (show X = some (fr ++ [lx], e) from by rw [HXE2.out, decide_eq_true hcp]; rfl)
          clear HXE2 hcp
          refine wp_region_noPanic ?_
          refine wp_region_any (by kernel_rfl) ?_
          refine facts_sw [0, 1, 2, 3, 4, 5, 6, 7, 8, 9, 10, 11, 12, 13, 14, 15, 16, 17, 18, 19, 20, 21, 22, 23, 24, 25, 26, 27] (fun i => match i with | 1 => [0] | 2 => [1] | 3 => [2] | 4 => [3] | 5 => [4] | 6 => [5] | 7 => [6] | 8 => [7, 6] | 9 => [8, 6] | 10 => [9, 6] | 11 => [6] | 12 => [11, 6] | 13 => [12, 6] | 14 => [13, 6] | 15 => [14, 6] | 16 => [15, 6] | 17 => [10, 16, 6] | 18 => [17, 6] | 19 => [18, 6] | 20 => [6] | 21 => [20, 6] | 22 => [21, 6] | 23 => [22, 6] | 24 => [23, 6] | 25 => [19, 24, 6] | 26 => [6, 25] | 27 => [26] | _ => []) 99 99 (fun i_ v W => match i_ with | 0 => v = lp q | 1 => v = lp q | 2 => v = .pointer (some ⟨q, 5, none⟩) | 3 => v = .slice (some ⟨gb, 0, none⟩) i c1 | 4 => v = .int .i64 (i : Int) | 5 => v = .bool false | 6 => v = .bool false | 7 => v = lp q | 8 => v = lp q | 9 => v = .pointer (some ⟨q, 5, none⟩) | 10 => v = .slice (some ⟨gb, 0, none⟩) i c1 | 11 => v = lp q | 12 => v = lp q | 13 => v = .pointer (some ⟨q, 5, none⟩) | 14 => v = .slice (some ⟨gb, 0, none⟩) i c1 | 15 => v = .int .i64 (i : Int) | 16 => v = .int .i64 (m : Int) | 17 => v = .pointer (some ⟨gb, m * 3, none⟩) | 18 => v = .pointer (some ⟨gb, m * 3 + 1, none⟩) | 19 => v = .int .i64 lx.cm | 20 => v = lp q | 21 => v = lp q | 22 => v = .pointer (some ⟨q, 1, none⟩) | 23 => v = .pointer (some ⟨q, 3, none⟩) | 24 => v = .int .i64 P | 25 => v = .bool true | 26 => v = .bool true | 27 => v = .bool true | _ => True) (fun W W' => Below W.heap.size W W') (fun _ _ W => Below wr.drew.heap.size wr.drew W) _ _ _ 0 _ #[true, true, true, true, true, true, true, true, true, true, true, true, true, true, true, true, true, true, true, true, true, true, true, true, true, true, true, true] (fun i_ v W W' h hs => match i_, h with | 0, h => h | 1, h => h | 2, h => h | 3, h => h | 4, h => h | 5, h => h | 6, h => h | 7, h => h | 8, h => h | 9, h => h | 10, h => h | 11, h => h | 12, h => h | 13, h => h | 14, h => h | 15, h => h | 16, h => h | 17, h => h | 18, h => h | 19, h => h | 20, h => h | 21, h => h | 22, h => h | 23, h => h | 24, h => h | 25, h => h | 26, h => h | 27, h => h | _ + 28, h => h) (by kernel_rfl) (by rfl) (Below.refl _ _) ?hstep ?hend
          case hstep =>
            intro i_ hi_ b_ c_ hbp hcq hbd hcd x W hd hI K hK
            simp only [List.mem_cons, List.not_mem_nil, or_false] at hi_
            rcases hi_ with rfl | rfl | rfl | rfl | rfl | rfl | rfl | rfl | rfl | rfl | rfl | rfl | rfl | rfl | rfl | rfl | rfl | rfl | rfl | rfl | rfl | rfl | rfl | rfl | rfl | rfl | rfl | rfl
            · generalize hA : putsA _ _ x [0, 1, 2, 3, 4, 5, 6, 7, 8, 9, 10, 11, 12, 13, 14, 15, 16, 17, 18, 19, 20, 21, 22, 23, 24, 25, 26, 27] = A_ at *
              have e0 : A_.tmps[0]? = some (lp q) := by rw [← hA]; exact putsA_at 0 _ (by decide +kernel)
              clear hA hd
              refine wpOp_step rfl (fun K' hK' => ?_)
              go_simp
              exact hK' _ _ (hK _ _ rfl (Below.refl _ _) hI)
            · generalize hA : putsA _ _ x [0, 1, 2, 3, 4, 5, 6, 7, 8, 9, 10, 11, 12, 13, 14, 15, 16, 17, 18, 19, 20, 21, 22, 23, 24, 25, 26, 27] = A_ at *
              have e69 : A_.tmps[69]? = some (x 0) := by rw [← hA]; exact putsA_in (i := 0) 69 (by rfl) (by show (69 : Nat) < 96; decide) _ (by decide +kernel) (by decide)
              have f0 : x 0 = lp q := hd 0 (by decide)
              rw [f0] at e69
              clear hA hd
              refine wpOp_step rfl (fun K' hK' => ?_)
              go_simp
              exact hK' _ _ (hK _ _ rfl (Below.refl _ _) hI)
            · generalize hA : putsA _ _ x [0, 1, 2, 3, 4, 5, 6, 7, 8, 9, 10, 11, 12, 13, 14, 15, 16, 17, 18, 19, 20, 21, 22, 23, 24, 25, 26, 27] = A_ at *
              have e70 : A_.tmps[70]? = some (x 1) := by rw [← hA]; exact putsA_in (i := 1) 70 (by rfl) (by show (70 : Nat) < 96; decide) _ (by decide +kernel) (by decide)
              have f1 : x 1 = lp q := hd 1 (by decide)
              rw [f1] at e70
              clear hA hd
              refine wpOp_step rfl (fun K' hK' => ?_)
              go_simp
              exact hK' _ _ (hK _ _ rfl (Below.refl _ _) hI)
            · generalize hA : putsA _ _ x [0, 1, 2, 3, 4, 5, 6, 7, 8, 9, 10, 11, 12, 13, 14, 15, 16, 17, 18, 19, 20, 21, 22, 23, 24, 25, 26, 27] = A_ at *
              have e71 : A_.tmps[71]? = some (x 2) := by rw [← hA]; exact putsA_in (i := 2) 71 (by rfl) (by show (71 : Nat) < 96; decide) _ (by decide +kernel) (by decide)
              have f2 : x 2 = .pointer (some ⟨q, 5, none⟩) := hd 2 (by decide)
              rw [f2] at e71
              clear hA hd
              obtain ⟨z5, z3, zc⟩ := HC3.out W (undrew hI)
              refine wpOp_step rfl (fun K' hK' => ?_)
              go_simp
              exact hK' _ _ (hK _ _ rfl (Below.refl _ _) hI)
            · generalize hA : putsA _ _ x [0, 1, 2, 3, 4, 5, 6, 7, 8, 9, 10, 11, 12, 13, 14, 15, 16, 17, 18, 19, 20, 21, 22, 23, 24, 25, 26, 27] = A_ at *
              have e72 : A_.tmps[72]? = some (x 3) := by rw [← hA]; exact putsA_in (i := 3) 72 (by rfl) (by show (72 : Nat) < 96; decide) _ (by decide +kernel) (by decide)
              have f3 : x 3 = .slice (some ⟨gb, 0, none⟩) i c1 := hd 3 (by decide)
              rw [f3] at e72
              clear hA hd
              refine wpOp_step rfl (fun K' hK' => ?_)
              go_simp
              exact hK' _ _ (hK _ _ rfl (Below.refl _ _) hI)
            · generalize hA : putsA _ _ x [0, 1, 2, 3, 4, 5, 6, 7, 8, 9, 10, 11, 12, 13, 14, 15, 16, 17, 18, 19, 20, 21, 22, 23, 24, 25, 26, 27] = A_ at *
              have e73 : A_.tmps[73]? = some (x 4) := by rw [← hA]; exact putsA_in (i := 4) 73 (by rfl) (by show (73 : Nat) < 96; decide) _ (by decide +kernel) (by decide)
              have f4 : x 4 = .int .i64 (i : Int) := hd 4 (by decide)
              rw [f4] at e73
              clear hA hd
              have hnb := hne
              refine wpOp_step rfl (fun K' hK' => ?_)
              go_simp
              exact hK' _ _ (hK _ _ rfl (Below.refl _ _) hI)
            · generalize hA : putsA _ _ x [0, 1, 2, 3, 4, 5, 6, 7, 8, 9, 10, 11, 12, 13, 14, 15, 16, 17, 18, 19, 20, 21, 22, 23, 24, 25, 26, 27] = A_ at *
              have e74 : A_.tmps[74]? = some (x 5) := by rw [← hA]; exact putsA_in (i := 5) 74 (by rfl) (by show (74 : Nat) < 96; decide) _ (by decide +kernel) (by decide)
              have f5 : x 5 = .bool false := hd 5 (by decide)
              rw [f5] at e74
              clear hA hd
              refine wpOp_step rfl (fun K' hK' => ?_)
              go_simp
              exact hK' _ _ (hK _ _ rfl (Below.refl _ _) hI)
            · generalize hA : putsA _ _ x [0, 1, 2, 3, 4, 5, 6, 7, 8, 9, 10, 11, 12, 13, 14, 15, 16, 17, 18, 19, 20, 21, 22, 23, 24, 25, 26, 27] = A_ at *
              have e0 : A_.tmps[0]? = some (lp q) := by rw [← hA]; exact putsA_at 0 _ (by decide +kernel)
              have e75 : A_.tmps[75]? = some (x 6) := by rw [← hA]; exact putsA_in (i := 6) 75 (by rfl) (by show (75 : Nat) < 96; decide) _ (by decide +kernel) (by decide)
              have f6 : x 6 = .bool false := hd 6 (by decide)
              rw [f6] at e75
              clear hA hd
              refine wpOp_step rfl (fun K' hK' => ?_)
              go_simp
              exact hK' _ _ (hK _ _ rfl (Below.refl _ _) hI)
            · generalize hA : putsA _ _ x [0, 1, 2, 3, 4, 5, 6, 7, 8, 9, 10, 11, 12, 13, 14, 15, 16, 17, 18, 19, 20, 21, 22, 23, 24, 25, 26, 27] = A_ at *
              have e76 : A_.tmps[76]? = some (x 7) := by rw [← hA]; exact putsA_in (i := 7) 76 (by rfl) (by show (76 : Nat) < 96; decide) _ (by decide +kernel) (by decide)
              have f7 : x 7 = lp q := hd 7 (by decide)
              rw [f7] at e76
              have e75 : A_.tmps[75]? = some (x 6) := by rw [← hA]; exact putsA_in (i := 6) 75 (by rfl) (by show (75 : Nat) < 96; decide) _ (by decide +kernel) (by decide)
              have f6 : x 6 = .bool false := hd 6 (by decide)
              rw [f6] at e75
              clear hA hd
              refine wpOp_step rfl (fun K' hK' => ?_)
              go_simp
              exact hK' _ _ (hK _ _ rfl (Below.refl _ _) hI)
            · generalize hA : putsA _ _ x [0, 1, 2, 3, 4, 5, 6, 7, 8, 9, 10, 11, 12, 13, 14, 15, 16, 17, 18, 19, 20, 21, 22, 23, 24, 25, 26, 27] = A_ at *
              have e77 : A_.tmps[77]? = some (x 8) := by rw [← hA]; exact putsA_in (i := 8) 77 (by rfl) (by show (77 : Nat) < 96; decide) _ (by decide +kernel) (by decide)
              have f8 : x 8 = lp q := hd 8 (by decide)
              rw [f8] at e77
              have e75 : A_.tmps[75]? = some (x 6) := by rw [← hA]; exact putsA_in (i := 6) 75 (by rfl) (by show (75 : Nat) < 96; decide) _ (by decide +kernel) (by decide)
              have f6 : x 6 = .bool false := hd 6 (by decide)
              rw [f6] at e75
              clear hA hd
              refine wpOp_step rfl (fun K' hK' => ?_)
              go_simp
              exact hK' _ _ (hK _ _ rfl (Below.refl _ _) hI)
            · generalize hA : putsA _ _ x [0, 1, 2, 3, 4, 5, 6, 7, 8, 9, 10, 11, 12, 13, 14, 15, 16, 17, 18, 19, 20, 21, 22, 23, 24, 25, 26, 27] = A_ at *
              have e78 : A_.tmps[78]? = some (x 9) := by rw [← hA]; exact putsA_in (i := 9) 78 (by rfl) (by show (78 : Nat) < 96; decide) _ (by decide +kernel) (by decide)
              have f9 : x 9 = .pointer (some ⟨q, 5, none⟩) := hd 9 (by decide)
              rw [f9] at e78
              have e75 : A_.tmps[75]? = some (x 6) := by rw [← hA]; exact putsA_in (i := 6) 75 (by rfl) (by show (75 : Nat) < 96; decide) _ (by decide +kernel) (by decide)
              have f6 : x 6 = .bool false := hd 6 (by decide)
              rw [f6] at e75
              clear hA hd
              obtain ⟨z5, z3, zc⟩ := HC3.out W (undrew hI)
              refine wpOp_step rfl (fun K' hK' => ?_)
              go_simp
              exact hK' _ _ (hK _ _ rfl (Below.refl _ _) hI)
            · generalize hA : putsA _ _ x [0, 1, 2, 3, 4, 5, 6, 7, 8, 9, 10, 11, 12, 13, 14, 15, 16, 17, 18, 19, 20, 21, 22, 23, 24, 25, 26, 27] = A_ at *
              have e0 : A_.tmps[0]? = some (lp q) := by rw [← hA]; exact putsA_at 0 _ (by decide +kernel)
              have e75 : A_.tmps[75]? = some (x 6) := by rw [← hA]; exact putsA_in (i := 6) 75 (by rfl) (by show (75 : Nat) < 96; decide) _ (by decide +kernel) (by decide)
              have f6 : x 6 = .bool false := hd 6 (by decide)
              rw [f6] at e75
              clear hA hd
              refine wpOp_step rfl (fun K' hK' => ?_)
              go_simp
              exact hK' _ _ (hK _ _ rfl (Below.refl _ _) hI)
            · generalize hA : putsA _ _ x [0, 1, 2, 3, 4, 5, 6, 7, 8, 9, 10, 11, 12, 13, 14, 15, 16, 17, 18, 19, 20, 21, 22, 23, 24, 25, 26, 27] = A_ at *
              have e80 : A_.tmps[80]? = some (x 11) := by rw [← hA]; exact putsA_in (i := 11) 80 (by rfl) (by show (80 : Nat) < 96; decide) _ (by decide +kernel) (by decide)
              have f11 : x 11 = lp q := hd 11 (by decide)
              rw [f11] at e80
              have e75 : A_.tmps[75]? = some (x 6) := by rw [← hA]; exact putsA_in (i := 6) 75 (by rfl) (by show (75 : Nat) < 96; decide) _ (by decide +kernel) (by decide)
              have f6 : x 6 = .bool false := hd 6 (by decide)
              rw [f6] at e75
              clear hA hd
              refine wpOp_step rfl (fun K' hK' => ?_)
              go_simp
              exact hK' _ _ (hK _ _ rfl (Below.refl _ _) hI)
            · generalize hA : putsA _ _ x [0, 1, 2, 3, 4, 5, 6, 7, 8, 9, 10, 11, 12, 13, 14, 15, 16, 17, 18, 19, 20, 21, 22, 23, 24, 25, 26, 27] = A_ at *
              have e81 : A_.tmps[81]? = some (x 12) := by rw [← hA]; exact putsA_in (i := 12) 81 (by rfl) (by show (81 : Nat) < 96; decide) _ (by decide +kernel) (by decide)
              have f12 : x 12 = lp q := hd 12 (by decide)
              rw [f12] at e81
              have e75 : A_.tmps[75]? = some (x 6) := by rw [← hA]; exact putsA_in (i := 6) 75 (by rfl) (by show (75 : Nat) < 96; decide) _ (by decide +kernel) (by decide)
              have f6 : x 6 = .bool false := hd 6 (by decide)
              rw [f6] at e75
              clear hA hd
              refine wpOp_step rfl (fun K' hK' => ?_)
              go_simp
              exact hK' _ _ (hK _ _ rfl (Below.refl _ _) hI)
            · generalize hA : putsA _ _ x [0, 1, 2, 3, 4, 5, 6, 7, 8, 9, 10, 11, 12, 13, 14, 15, 16, 17, 18, 19, 20, 21, 22, 23, 24, 25, 26, 27] = A_ at *
              have e82 : A_.tmps[82]? = some (x 13) := by rw [← hA]; exact putsA_in (i := 13) 82 (by rfl) (by show (82 : Nat) < 96; decide) _ (by decide +kernel) (by decide)
              have f13 : x 13 = .pointer (some ⟨q, 5, none⟩) := hd 13 (by decide)
              rw [f13] at e82
              have e75 : A_.tmps[75]? = some (x 6) := by rw [← hA]; exact putsA_in (i := 6) 75 (by rfl) (by show (75 : Nat) < 96; decide) _ (by decide +kernel) (by decide)
              have f6 : x 6 = .bool false := hd 6 (by decide)
              rw [f6] at e75
              clear hA hd
              obtain ⟨z5, z3, zc⟩ := HC3.out W (undrew hI)
              refine wpOp_step rfl (fun K' hK' => ?_)
              go_simp
              exact hK' _ _ (hK _ _ rfl (Below.refl _ _) hI)
            · generalize hA : putsA _ _ x [0, 1, 2, 3, 4, 5, 6, 7, 8, 9, 10, 11, 12, 13, 14, 15, 16, 17, 18, 19, 20, 21, 22, 23, 24, 25, 26, 27] = A_ at *
              have e83 : A_.tmps[83]? = some (x 14) := by rw [← hA]; exact putsA_in (i := 14) 83 (by rfl) (by show (83 : Nat) < 96; decide) _ (by decide +kernel) (by decide)
              have f14 : x 14 = .slice (some ⟨gb, 0, none⟩) i c1 := hd 14 (by decide)
              rw [f14] at e83
              have e75 : A_.tmps[75]? = some (x 6) := by rw [← hA]; exact putsA_in (i := 6) 75 (by rfl) (by show (75 : Nat) < 96; decide) _ (by decide +kernel) (by decide)
              have f6 : x 6 = .bool false := hd 6 (by decide)
              rw [f6] at e75
              clear hA hd
              refine wpOp_step rfl (fun K' hK' => ?_)
              go_simp
              exact hK' _ _ (hK _ _ rfl (Below.refl _ _) hI)
            · generalize hA : putsA _ _ x [0, 1, 2, 3, 4, 5, 6, 7, 8, 9, 10, 11, 12, 13, 14, 15, 16, 17, 18, 19, 20, 21, 22, 23, 24, 25, 26, 27] = A_ at *
              have e84 : A_.tmps[84]? = some (x 15) := by rw [← hA]; exact putsA_in (i := 15) 84 (by rfl) (by show (84 : Nat) < 96; decide) _ (by decide +kernel) (by decide)
              have f15 : x 15 = .int .i64 (i : Int) := hd 15 (by decide)
              rw [f15] at e84
              have e75 : A_.tmps[75]? = some (x 6) := by rw [← hA]; exact putsA_in (i := 6) 75 (by rfl) (by show (75 : Nat) < 96; decide) _ (by decide +kernel) (by decide)
              have f6 : x 6 = .bool false := hd 6 (by decide)
              rw [f6] at e75
              clear hA hd
              refine wpOp_step rfl (fun K' hK' => ?_)
              go_simp
              exact hK' _ _ (hK _ _ (by first | rfl | exact congrArg (Value.int .i64) hw1 | exact congrArg (Value.int .i64) hwm) (Below.refl _ _) hI)
            · generalize hA : putsA _ _ x [0, 1, 2, 3, 4, 5, 6, 7, 8, 9, 10, 11, 12, 13, 14, 15, 16, 17, 18, 19, 20, 21, 22, 23, 24, 25, 26, 27] = A_ at *
              have e79 : A_.tmps[79]? = some (x 10) := by rw [← hA]; exact putsA_in (i := 10) 79 (by rfl) (by show (79 : Nat) < 96; decide) _ (by decide +kernel) (by decide)
              have f10 : x 10 = .slice (some ⟨gb, 0, none⟩) i c1 := hd 10 (by decide)
              rw [f10] at e79
              have e85 : A_.tmps[85]? = some (x 16) := by rw [← hA]; exact putsA_in (i := 16) 85 (by rfl) (by show (85 : Nat) < 96; decide) _ (by decide +kernel) (by decide)
              have f16 : x 16 = .int .i64 (m : Int) := hd 16 (by decide)
              rw [f16] at e85
              have e75 : A_.tmps[75]? = some (x 6) := by rw [← hA]; exact putsA_in (i := 6) 75 (by rfl) (by show (75 : Nat) < 96; decide) _ (by decide +kernel) (by decide)
              have f6 : x 6 = .bool false := hd 6 (by decide)
              rw [f6] at e75
              clear hA hd
              refine wpOp_step rfl (fun K' hK' => ?_)
              go_simp
              exact hK' _ _ (hK _ _ rfl (Below.refl _ _) hI)
            · generalize hA : putsA _ _ x [0, 1, 2, 3, 4, 5, 6, 7, 8, 9, 10, 11, 12, 13, 14, 15, 16, 17, 18, 19, 20, 21, 22, 23, 24, 25, 26, 27] = A_ at *
              have e86 : A_.tmps[86]? = some (x 17) := by rw [← hA]; exact putsA_in (i := 17) 86 (by rfl) (by show (86 : Nat) < 96; decide) _ (by decide +kernel) (by decide)
              have f17 : x 17 = .pointer (some ⟨gb, m * 3, none⟩) := hd 17 (by decide)
              rw [f17] at e86
              have e75 : A_.tmps[75]? = some (x 6) := by rw [← hA]; exact putsA_in (i := 6) 75 (by rfl) (by show (75 : Nat) < 96; decide) _ (by decide +kernel) (by decide)
              have f6 : x 6 = .bool false := hd 6 (by decide)
              rw [f6] at e75
              clear hA hd
              refine wpOp_step rfl (fun K' hK' => ?_)
              go_simp
              exact hK' _ _ (hK _ _ rfl (Below.refl _ _) hI)
            · generalize hA : putsA _ _ x [0, 1, 2, 3, 4, 5, 6, 7, 8, 9, 10, 11, 12, 13, 14, 15, 16, 17, 18, 19, 20, 21, 22, 23, 24, 25, 26, 27] = A_ at *
              have e87 : A_.tmps[87]? = some (x 18) := by rw [← hA]; exact putsA_in (i := 18) 87 (by rfl) (by show (87 : Nat) < 96; decide) _ (by decide +kernel) (by decide)
              have f18 : x 18 = .pointer (some ⟨gb, m * 3 + 1, none⟩) := hd 18 (by decide)
              rw [f18] at e87
              have e75 : A_.tmps[75]? = some (x 6) := by rw [← hA]; exact putsA_in (i := 6) 75 (by rfl) (by show (75 : Nat) < 96; decide) _ (by decide +kernel) (by decide)
              have f6 : x 6 = .bool false := hd 6 (by decide)
              rw [f6] at e75
              clear hA hd
              obtain ⟨z5, z3, zc⟩ := HC3.out W (undrew hI)
              refine wpOp_step rfl (fun K' hK' => ?_)
              go_simp
              exact hK' _ _ (hK _ _ rfl (Below.refl _ _) hI)
            · generalize hA : putsA _ _ x [0, 1, 2, 3, 4, 5, 6, 7, 8, 9, 10, 11, 12, 13, 14, 15, 16, 17, 18, 19, 20, 21, 22, 23, 24, 25, 26, 27] = A_ at *
              have e0 : A_.tmps[0]? = some (lp q) := by rw [← hA]; exact putsA_at 0 _ (by decide +kernel)
              have e75 : A_.tmps[75]? = some (x 6) := by rw [← hA]; exact putsA_in (i := 6) 75 (by rfl) (by show (75 : Nat) < 96; decide) _ (by decide +kernel) (by decide)
              have f6 : x 6 = .bool false := hd 6 (by decide)
              rw [f6] at e75
              clear hA hd
              refine wpOp_step rfl (fun K' hK' => ?_)
              go_simp
              exact hK' _ _ (hK _ _ rfl (Below.refl _ _) hI)
            · generalize hA : putsA _ _ x [0, 1, 2, 3, 4, 5, 6, 7, 8, 9, 10, 11, 12, 13, 14, 15, 16, 17, 18, 19, 20, 21, 22, 23, 24, 25, 26, 27] = A_ at *
              have e89 : A_.tmps[89]? = some (x 20) := by rw [← hA]; exact putsA_in (i := 20) 89 (by rfl) (by show (89 : Nat) < 96; decide) _ (by decide +kernel) (by decide)
              have f20 : x 20 = lp q := hd 20 (by decide)
              rw [f20] at e89
              have e75 : A_.tmps[75]? = some (x 6) := by rw [← hA]; exact putsA_in (i := 6) 75 (by rfl) (by show (75 : Nat) < 96; decide) _ (by decide +kernel) (by decide)
              have f6 : x 6 = .bool false := hd 6 (by decide)
              rw [f6] at e75
              clear hA hd
              refine wpOp_step rfl (fun K' hK' => ?_)
              go_simp
              exact hK' _ _ (hK _ _ rfl (Below.refl _ _) hI)
            · generalize hA : putsA _ _ x [0, 1, 2, 3, 4, 5, 6, 7, 8, 9, 10, 11, 12, 13, 14, 15, 16, 17, 18, 19, 20, 21, 22, 23, 24, 25, 26, 27] = A_ at *
              have e90 : A_.tmps[90]? = some (x 21) := by rw [← hA]; exact putsA_in (i := 21) 90 (by rfl) (by show (90 : Nat) < 96; decide) _ (by decide +kernel) (by decide)
              have f21 : x 21 = lp q := hd 21 (by decide)
              rw [f21] at e90
              have e75 : A_.tmps[75]? = some (x 6) := by rw [← hA]; exact putsA_in (i := 6) 75 (by rfl) (by show (75 : Nat) < 96; decide) _ (by decide +kernel) (by decide)
              have f6 : x 6 = .bool false := hd 6 (by decide)
              rw [f6] at e75
              clear hA hd
              refine wpOp_step rfl (fun K' hK' => ?_)
              go_simp
              exact hK' _ _ (hK _ _ rfl (Below.refl _ _) hI)
            · generalize hA : putsA _ _ x [0, 1, 2, 3, 4, 5, 6, 7, 8, 9, 10, 11, 12, 13, 14, 15, 16, 17, 18, 19, 20, 21, 22, 23, 24, 25, 26, 27] = A_ at *
              have e91 : A_.tmps[91]? = some (x 22) := by rw [← hA]; exact putsA_in (i := 22) 91 (by rfl) (by show (91 : Nat) < 96; decide) _ (by decide +kernel) (by decide)
              have f22 : x 22 = .pointer (some ⟨q, 1, none⟩) := hd 22 (by decide)
              rw [f22] at e91
              have e75 : A_.tmps[75]? = some (x 6) := by rw [← hA]; exact putsA_in (i := 6) 75 (by rfl) (by show (75 : Nat) < 96; decide) _ (by decide +kernel) (by decide)
              have f6 : x 6 = .bool false := hd 6 (by decide)
              rw [f6] at e75
              clear hA hd
              refine wpOp_step rfl (fun K' hK' => ?_)
              go_simp
              exact hK' _ _ (hK _ _ rfl (Below.refl _ _) hI)
            · generalize hA : putsA _ _ x [0, 1, 2, 3, 4, 5, 6, 7, 8, 9, 10, 11, 12, 13, 14, 15, 16, 17, 18, 19, 20, 21, 22, 23, 24, 25, 26, 27] = A_ at *
              have e92 : A_.tmps[92]? = some (x 23) := by rw [← hA]; exact putsA_in (i := 23) 92 (by rfl) (by show (92 : Nat) < 96; decide) _ (by decide +kernel) (by decide)
              have f23 : x 23 = .pointer (some ⟨q, 3, none⟩) := hd 23 (by decide)
              rw [f23] at e92
              have e75 : A_.tmps[75]? = some (x 6) := by rw [← hA]; exact putsA_in (i := 6) 75 (by rfl) (by show (75 : Nat) < 96; decide) _ (by decide +kernel) (by decide)
              have f6 : x 6 = .bool false := hd 6 (by decide)
              rw [f6] at e75
              clear hA hd
              obtain ⟨z5, z3, zc⟩ := HC3.out W (undrew hI)
              refine wpOp_step rfl (fun K' hK' => ?_)
              go_simp
              exact hK' _ _ (hK _ _ rfl (Below.refl _ _) hI)
            · generalize hA : putsA _ _ x [0, 1, 2, 3, 4, 5, 6, 7, 8, 9, 10, 11, 12, 13, 14, 15, 16, 17, 18, 19, 20, 21, 22, 23, 24, 25, 26, 27] = A_ at *
              have e88 : A_.tmps[88]? = some (x 19) := by rw [← hA]; exact putsA_in (i := 19) 88 (by rfl) (by show (88 : Nat) < 96; decide) _ (by decide +kernel) (by decide)
              have f19 : x 19 = .int .i64 lx.cm := hd 19 (by decide)
              rw [f19] at e88
              have e93 : A_.tmps[93]? = some (x 24) := by rw [← hA]; exact putsA_in (i := 24) 93 (by rfl) (by show (93 : Nat) < 96; decide) _ (by decide +kernel) (by decide)
              have f24 : x 24 = .int .i64 P := hd 24 (by decide)
              rw [f24] at e93
              have e75 : A_.tmps[75]? = some (x 6) := by rw [← hA]; exact putsA_in (i := 6) 75 (by rfl) (by show (75 : Nat) < 96; decide) _ (by decide +kernel) (by decide)
              have f6 : x 6 = .bool false := hd 6 (by decide)
              rw [f6] at e75
              clear hA hd
              have hcc := hcb
              refine wpOp_step rfl (fun K' hK' => ?_)
              go_simp
              exact hK' _ _ (hK _ _ rfl (Below.refl _ _) hI)
            · generalize hA : putsA _ _ x [0, 1, 2, 3, 4, 5, 6, 7, 8, 9, 10, 11, 12, 13, 14, 15, 16, 17, 18, 19, 20, 21, 22, 23, 24, 25, 26, 27] = A_ at *
              have e75 : A_.tmps[75]? = some (x 6) := by rw [← hA]; exact putsA_in (i := 6) 75 (by rfl) (by show (75 : Nat) < 96; decide) _ (by decide +kernel) (by decide)
              have f6 : x 6 = .bool false := hd 6 (by decide)
              rw [f6] at e75
              have e94 : A_.tmps[94]? = some (x 25) := by rw [← hA]; exact putsA_in (i := 25) 94 (by rfl) (by show (94 : Nat) < 96; decide) _ (by decide +kernel) (by decide)
              have f25 : x 25 = .bool true := hd 25 (by decide)
              rw [f25] at e94
              clear hA hd
              refine wpOp_step rfl (fun K' hK' => ?_)
              go_simp
              exact hK' _ _ (hK _ _ rfl (Below.refl _ _) hI)
            · generalize hA : putsA _ _ x [0, 1, 2, 3, 4, 5, 6, 7, 8, 9, 10, 11, 12, 13, 14, 15, 16, 17, 18, 19, 20, 21, 22, 23, 24, 25, 26, 27] = A_ at *
              have e95 : A_.tmps[95]? = some (x 26) := by rw [← hA]; exact putsA_in (i := 26) 95 (by rfl) (by show (95 : Nat) < 96; decide) _ (by decide +kernel) (by decide)
              have f26 : x 26 = .bool true := hd 26 (by decide)
              rw [f26] at e95
              clear hA hd
              refine wpOp_step rfl (fun K' hK' => ?_)
              go_simp
              exact hK' _ _ (hK _ _ rfl (Below.refl _ _) hI)
          case hend =>
            intro x W b_ c_ hf hpf hqf hI
            have f0 : x 0 = lp q := hf 0 (by decide)
            have f1 : x 1 = lp q := hf 1 (by decide)
            have f2 : x 2 = .pointer (some ⟨q, 5, none⟩) := hf 2 (by decide)
            have f3 : x 3 = .slice (some ⟨gb, 0, none⟩) i c1 := hf 3 (by decide)
            have f4 : x 4 = .int .i64 (i : Int) := hf 4 (by decide)
            have f5 : x 5 = .bool false := hf 5 (by decide)
            have f6 : x 6 = .bool false := hf 6 (by decide)
            have f7 : x 7 = lp q := hf 7 (by decide)
            have f8 : x 8 = lp q := hf 8 (by decide)
            have f9 : x 9 = .pointer (some ⟨q, 5, none⟩) := hf 9 (by decide)
            have f10 : x 10 = .slice (some ⟨gb, 0, none⟩) i c1 := hf 10 (by decide)
            have f11 : x 11 = lp q := hf 11 (by decide)
            have f12 : x 12 = lp q := hf 12 (by decide)
            have f13 : x 13 = .pointer (some ⟨q, 5, none⟩) := hf 13 (by decide)
            have f14 : x 14 = .slice (some ⟨gb, 0, none⟩) i c1 := hf 14 (by decide)
            have f15 : x 15 = .int .i64 (i : Int) := hf 15 (by decide)
            have f16 : x 16 = .int .i64 (m : Int) := hf 16 (by decide)
            have f17 : x 17 = .pointer (some ⟨gb, m * 3, none⟩) := hf 17 (by decide)
            have f18 : x 18 = .pointer (some ⟨gb, m * 3 + 1, none⟩) := hf 18 (by decide)
            have f19 : x 19 = .int .i64 lx.cm := hf 19 (by decide)
            have f20 : x 20 = lp q := hf 20 (by decide)
            have f21 : x 21 = lp q := hf 21 (by decide)
            have f22 : x 22 = .pointer (some ⟨q, 1, none⟩) := hf 22 (by decide)
            have f23 : x 23 = .pointer (some ⟨q, 3, none⟩) := hf 23 (by decide)
            have f24 : x 24 = .int .i64 P := hf 24 (by decide)
            have f25 : x 25 = .bool true := hf 25 (by decide)
            have f26 : x 26 = .bool true := hf 26 (by decide)
            have f27 : x 27 = .bool true := hf 27 (by decide)
            rw [putsA_lit _ _ [0, 1, 2, 3, 4, 5, 6, 7, 8, 9, 10, 11, 12, 13, 14, 15, 16, 17, 18, 19, 20, 21, 22, 23, 24, 25, 26, 27] ((2, 27) :: (69, 0) :: (70, 1) :: (71, 2) :: (72, 3) :: (73, 4) :: (74, 5) :: (75, 6) :: (76, 7) :: (77, 8) :: (78, 9) :: (79, 10) :: (80, 11) :: (81, 12) :: (82, 13) :: (83, 14) :: (84, 15) :: (85, 16) :: (86, 17) :: (87, 18) :: (88, 19) :: (89, 20) :: (90, 21) :: (91, 22) :: (92, 23) :: (93, 24) :: (94, 25) :: (95, 26) :: []) (by kernel_rfl)]
            simp only [setAll, ↓reduceIte, Nat.reduceAdd, Nat.reduceEqDiff]
            rw [f0, f1, f2, f3, f4, f5, f6, f7, f8, f9, f10, f11, f12, f13, f14, f15, f16, f17, f18, f19, f20, f21, f22, f23, f24, f25, f26, f27]
            clear hf hpf hqf f0 f1 f2 f3 f4 f5 f6 f7 f8 f9 f10 f11 f12 f13 f14 f15 f16 f17 f18 f19 f20 f21 f22 f23 f24 f25 f26 f27
            refine wpAny_done (by kernel_rfl) ?_ _
            refine NoPanic.normal ?_
            have HBW := Lib.hid (undrew hI)
            clear hI x
            go_wp2_with fail
            go_ret
            refine ⟨by rw [HXX.out]; rfl, fr_step HFR.out HBW.out, fun fs1 e1 h => ?_⟩
            rw [HXX.out] at h
            cases h
            exact ⟨_, lgS_below HLG.out HBW.out, HSB.out⟩
        · have hcb : ((lx.cm : Int) == (P : Int)) = false := by simp; omega
          have HXX := Lib.hid (show X = none from by rw [HXE2.out, decide_eq_false hcp]; rfl)
          clear HXE2 hcp
          refine wp_region_noPanic ?_
          refine wp_region_any (by kernel_rfl) ?_
          refine facts_sw [0, 1, 2, 3, 4, 5, 6, 7, 8, 9, 10, 11, 12, 13, 14, 15, 16, 17, 18, 19, 20, 21, 22, 23, 24, 25, 26, 27] (fun i => match i with | 1 => [0] | 2 => [1] | 3 => [2] | 4 => [3] | 5 => [4] | 6 => [5] | 7 => [6] | 8 => [7, 6] | 9 => [8, 6] | 10 => [9, 6] | 11 => [6] | 12 => [11, 6] | 13 => [12, 6] | 14 => [13, 6] | 15 => [14, 6] | 16 => [15, 6] | 17 => [10, 16, 6] | 18 => [17, 6] | 19 => [18, 6] | 20 => [6] | 21 => [20, 6] | 22 => [21, 6] | 23 => [22, 6] | 24 => [23, 6] | 25 => [19, 24, 6] | 26 => [6, 25] | 27 => [26] | _ => []) 99 99 (fun i_ v W => match i_ with | 0 => v = lp q | 1 => v = lp q | 2 => v = .pointer (some ⟨q, 5, none⟩) | 3 => v = .slice (some ⟨gb, 0, none⟩) i c1 | 4 => v = .int .i64 (i : Int) | 5 => v = .bool false | 6 => v = .bool false | 7 => v = lp q | 8 => v = lp q | 9 => v = .pointer (some ⟨q, 5, none⟩) | 10 => v = .slice (some ⟨gb, 0, none⟩) i c1 | 11 => v = lp q | 12 => v = lp q | 13 => v = .pointer (some ⟨q, 5, none⟩) | 14 => v = .slice (some ⟨gb, 0, none⟩) i c1 | 15 => v = .int .i64 (i : Int) | 16 => v = .int .i64 (m : Int) | 17 => v = .pointer (some ⟨gb, m * 3, none⟩) | 18 => v = .pointer (some ⟨gb, m * 3 + 1, none⟩) | 19 => v = .int .i64 lx.cm | 20 => v = lp q | 21 => v = lp q | 22 => v = .pointer (some ⟨q, 1, none⟩) | 23 => v = .pointer (some ⟨q, 3, none⟩) | 24 => v = .int .i64 P | 25 => v = .bool false | 26 => v = .bool false | 27 => v = .bool false | _ => True) (fun W W' => Below W.heap.size W W') (fun _ _ W => Below wr.drew.heap.size wr.drew W) _ _ _ 0 _ #[true, true, true, true, true, true, true, true, true, true, true, true, true, true, true, true, true, true, true, true, true, true, true, true, true, true, true, true] (fun i_ v W W' h hs => match i_, h with | 0, h => h | 1, h => h | 2, h => h | 3, h => h | 4, h => h | 5, h => h | 6, h => h | 7, h => h | 8, h => h | 9, h => h | 10, h => h | 11, h => h | 12, h => h | 13, h => h | 14, h => h | 15, h => h | 16, h => h | 17, h => h | 18, h => h | 19, h => h | 20, h => h | 21, h => h | 22, h => h | 23, h => h | 24, h => h | 25, h => h | 26, h => h | 27, h => h | _ + 28, h => h) (by kernel_rfl) (by rfl) (Below.refl _ _) ?hstep ?hend
          case hstep =>
            intro i_ hi_ b_ c_ hbp hcq hbd hcd x W hd hI K hK
            simp only [List.mem_cons, List.not_mem_nil, or_false] at hi_
            rcases hi_ with rfl | rfl | rfl | rfl | rfl | rfl | rfl | rfl | rfl | rfl | rfl | rfl | rfl | rfl | rfl | rfl | rfl | rfl | rfl | rfl | rfl | rfl | rfl | rfl | rfl | rfl | rfl | rfl
            · generalize hA : putsA _ _ x [0, 1, 2, 3, 4, 5, 6, 7, 8, 9, 10, 11, 12, 13, 14, 15, 16, 17, 18, 19, 20, 21, 22, 23, 24, 25, 26, 27] = A_ at *
              have e0 : A_.tmps[0]? = some (lp q) := by rw [← hA]; exact putsA_at 0 _ (by decide +kernel)
              clear hA hd
              refine wpOp_step rfl (fun K' hK' => ?_)
              go_simp
              exact hK' _ _ (hK _ _ rfl (Below.refl _ _) hI)
            · generalize hA : putsA _ _ x [0, 1, 2, 3, 4, 5, 6, 7, 8, 9, 10, 11, 12, 13, 14, 15, 16, 17, 18, 19, 20, 21, 22, 23, 24, 25, 26, 27] = A_ at *
              have e69 : A_.tmps[69]? = some (x 0) := by rw [← hA]; exact putsA_in (i := 0) 69 (by rfl) (by show (69 : Nat) < 96; decide) _ (by decide +kernel) (by decide)
              have f0 : x 0 = lp q := hd 0 (by decide)
              rw [f0] at e69
              clear hA hd
              refine wpOp_step rfl (fun K' hK' => ?_)
              go_simp
              exact hK' _ _ (hK _ _ rfl (Below.refl _ _) hI)
            · generalize hA : putsA _ _ x [0, 1, 2, 3, 4, 5, 6, 7, 8, 9, 10, 11, 12, 13, 14, 15, 16, 17, 18, 19, 20, 21, 22, 23, 24, 25, 26, 27] = A_ at *
              have e70 : A_.tmps[70]? = some (x 1) := by rw [← hA]; exact putsA_in (i := 1) 70 (by rfl) (by show (70 : Nat) < 96; decide) _ (by decide +kernel) (by decide)
              have f1 : x 1 = lp q := hd 1 (by decide)
              rw [f1] at e70
              clear hA hd
              refine wpOp_step rfl (fun K' hK' => ?_)
              go_simp
              exact hK' _ _ (hK _ _ rfl (Below.refl _ _) hI)
            · generalize hA : putsA _ _ x [0, 1, 2, 3, 4, 5, 6, 7, 8, 9, 10, 11, 12, 13, 14, 15, 16, 17, 18, 19, 20, 21, 22, 23, 24, 25, 26, 27] = A_ at *
              have e71 : A_.tmps[71]? = some (x 2) := by rw [← hA]; exact putsA_in (i := 2) 71 (by rfl) (by show (71 : Nat) < 96; decide) _ (by decide +kernel) (by decide)
              have f2 : x 2 = .pointer (some ⟨q, 5, none⟩) := hd 2 (by decide)
              rw [f2] at e71
              clear hA hd
              obtain ⟨z5, z3, zc⟩ := HC3.out W (undrew hI)
              refine wpOp_step rfl (fun K' hK' => ?_)
              go_simp
              exact hK' _ _ (hK _ _ rfl (Below.refl _ _) hI)
            · generalize hA : putsA _ _ x [0, 1, 2, 3, 4, 5, 6, 7, 8, 9, 10, 11, 12, 13, 14, 15, 16, 17, 18, 19, 20, 21, 22, 23, 24, 25, 26, 27] = A_ at *
              have e72 : A_.tmps[72]? = some (x 3) := by rw [← hA]; exact putsA_in (i := 3) 72 (by rfl) (by show (72 : Nat) < 96; decide) _ (by decide +kernel) (by decide)
              have f3 : x 3 = .slice (some ⟨gb, 0, none⟩) i c1 := hd 3 (by decide)
              rw [f3] at e72
              clear hA hd
              refine wpOp_step rfl (fun K' hK' => ?_)
              go_simp
              exact hK' _ _ (hK _ _ rfl (Below.refl _ _) hI)
            · generalize hA : putsA _ _ x [0, 1, 2, 3, 4, 5, 6, 7, 8, 9, 10, 11, 12, 13, 14, 15, 16, 17, 18, 19, 20, 21, 22, 23, 24, 25, 26, 27] = A_ at *
              have e73 : A_.tmps[73]? = some (x 4) := by rw [← hA]; exact putsA_in (i := 4) 73 (by rfl) (by show (73 : Nat) < 96; decide) _ (by decide +kernel) (by decide)
              have f4 : x 4 = .int .i64 (i : Int) := hd 4 (by decide)
              rw [f4] at e73
              clear hA hd
              have hnb := hne
              refine wpOp_step rfl (fun K' hK' => ?_)
              go_simp
              exact hK' _ _ (hK _ _ rfl (Below.refl _ _) hI)
            · generalize hA : putsA _ _ x [0, 1, 2, 3, 4, 5, 6, 7, 8, 9, 10, 11, 12, 13, 14, 15, 16, 17, 18, 19, 20, 21, 22, 23, 24, 25, 26, 27] = A_ at *
              have e74 : A_.tmps[74]? = some (x 5) := by rw [← hA]; exact putsA_in (i := 5) 74 (by rfl) (by show (74 : Nat) < 96; decide) _ (by decide +kernel) (by decide)
              have f5 : x 5 = .bool false := hd 5 (by decide)
              rw [f5] at e74
              clear hA hd
              refine wpOp_step rfl (fun K' hK' => ?_)
              go_simp
              exact hK' _ _ (hK _ _ rfl (Below.refl _ _) hI)
            · generalize hA : putsA _ _ x [0, 1, 2, 3, 4, 5, 6, 7, 8, 9, 10, 11, 12, 13, 14, 15, 16, 17, 18, 19, 20, 21, 22, 23, 24, 25, 26, 27] = A_ at *
              have e0 : A_.tmps[0]? = some (lp q) := by rw [← hA]; exact putsA_at 0 _ (by decide +kernel)
              have e75 : A_.tmps[75]? = some (x 6) := by rw [← hA]; exact putsA_in (i := 6) 75 (by rfl) (by show (75 : Nat) < 96; decide) _ (by decide +kernel) (by decide)
              have f6 : x 6 = .bool false := hd 6 (by decide)
              rw [f6] at e75
              clear hA hd
              refine wpOp_step rfl (fun K' hK' => ?_)
              go_simp
              exact hK' _ _ (hK _ _ rfl (Below.refl _ _) hI)
            · generalize hA : putsA _ _ x [0, 1, 2, 3, 4, 5, 6, 7, 8, 9, 10, 11, 12, 13, 14, 15, 16, 17, 18, 19, 20, 21, 22, 23, 24, 25, 26, 27] = A_ at *
              have e76 : A_.tmps[76]? = some (x 7) := by rw [← hA]; exact putsA_in (i := 7) 76 (by rfl) (by show (76 : Nat) < 96; decide) _ (by decide +kernel) (by decide)
              have f7 : x 7 = lp q := hd 7 (by decide)
              rw [f7] at e76
              have e75 : A_.tmps[75]? = some (x 6) := by rw [← hA]; exact putsA_in (i := 6) 75 (by rfl) (by show (75 : Nat) < 96; decide) _ (by decide +kernel) (by decide)
              have f6 : x 6 = .bool false := hd 6 (by decide)
              rw [f6] at e75
              clear hA hd
              refine wpOp_step rfl (fun K' hK' => ?_)
              go_simp
              exact hK' _ _ (hK _ _ rfl (Below.refl _ _) hI)
            · generalize hA : putsA _ _ x [0, 1, 2, 3, 4, 5, 6, 7, 8, 9, 10, 11, 12, 13, 14, 15, 16, 17, 18, 19, 20, 21, 22, 23, 24, 25, 26, 27] = A_ at *
              have e77 : A_.tmps[77]? = some (x 8) := by rw [← hA]; exact putsA_in (i := 8) 77 (by rfl) (by show (77 : Nat) < 96; decide) _ (by decide +kernel) (by decide)
              have f8 : x 8 = lp q := hd 8 (by decide)
              rw [f8] at e77
              have e75 : A_.tmps[75]? = some (x 6) := by rw [← hA]; exact putsA_in (i := 6) 75 (by rfl) (by show (75 : Nat) < 96; decide) _ (by decide +kernel) (by decide)
              have f6 : x 6 = .bool false := hd 6 (by decide)
              rw [f6] at e75
              clear hA hd
              refine wpOp_step rfl (fun K' hK' => ?_)
              go_simp
              exact hK' _ _ (hK _ _ rfl (Below.refl _ _) hI)
            · generalize hA : putsA _ _ x [0, 1, 2, 3, 4, 5, 6, 7, 8, 9, 10, 11, 12, 13, 14, 15, 16, 17, 18, 19, 20, 21, 22, 23, 24, 25, 26, 27] = A_ at *
              have e78 : A_.tmps[78]? = some (x 9) := by rw [← hA]; exact putsA_in (i := 9) 78 (by rfl) (by show (78 : Nat) < 96; decide) _ (by decide +kernel) (by decide)
              have f9 : x 9 = .pointer (some ⟨q, 5, none⟩) := hd 9 (by decide)
              rw [f9] at e78
              have e75 : A_.tmps[75]? = some (x 6) := by rw [← hA]; exact putsA_in (i := 6) 75 (by rfl) (by show (75 : Nat) < 96; decide) _ (by decide +kernel) (by decide)
              have f6 : x 6 = .bool false := hd 6 (by decide)
              rw [f6] at e75
              clear hA hd
              obtain ⟨z5, z3, zc⟩ := HC3.out W (undrew hI)
              refine wpOp_step rfl (fun K' hK' => ?_)
              go_simp
              exact hK' _ _ (hK _ _ rfl (Below.refl _ _) hI)
            · generalize hA : putsA _ _ x [0, 1, 2, 3, 4, 5, 6, 7, 8, 9, 10, 11, 12, 13, 14, 15, 16, 17, 18, 19, 20, 21, 22, 23, 24, 25, 26, 27] = A_ at *
              have e0 : A_.tmps[0]? = some (lp q) := by rw [← hA]; exact putsA_at 0 _ (by decide +kernel)
              have e75 : A_.tmps[75]? = some (x 6) := by rw [← hA]; exact putsA_in (i := 6) 75 (by rfl) (by show (75 : Nat) < 96; decide) _ (by decide +kernel) (by decide)
              have f6 : x 6 = .bool false := hd 6 (by decide)
              rw [f6] at e75
              clear hA hd
              refine wpOp_step rfl (fun K' hK' => ?_)
              go_simp
              exact hK' _ _ (hK _ _ rfl (Below.refl _ _) hI)
            · generalize hA : putsA _ _ x [0, 1, 2, 3, 4, 5, 6, 7, 8, 9, 10, 11, 12, 13, 14, 15, 16, 17, 18, 19, 20, 21, 22, 23, 24, 25, 26, 27] = A_ at *
              have e80 : A_.tmps[80]? = some (x 11) := by rw [← hA]; exact putsA_in (i := 11) 80 (by rfl) (by show (80 : Nat) < 96; decide) _ (by decide +kernel) (by decide)
              have f11 : x 11 = lp q := hd 11 (by decide)
              rw [f11] at e80
              have e75 : A_.tmps[75]? = some (x 6) := by rw [← hA]; exact putsA_in (i := 6) 75 (by rfl) (by show (75 : Nat) < 96; decide) _ (by decide +kernel) (by decide)
              have f6 : x 6 = .bool false := hd 6 (by decide)
              rw [f6] at e75
              clear hA hd
              refine wpOp_step rfl (fun K' hK' => ?_)
              go_simp
              exact hK' _ _ (hK _ _ rfl (Below.refl _ _) hI)
            · generalize hA : putsA _ _ x [0, 1, 2, 3, 4, 5, 6, 7, 8, 9, 10, 11, 12, 13, 14, 15, 16, 17, 18, 19, 20, 21, 22, 23, 24, 25, 26, 27] = A_ at *
              have e81 : A_.tmps[81]? = some (x 12) := by rw [← hA]; exact putsA_in (i := 12) 81 (by rfl) (by show (81 : Nat) < 96; decide) _ (by decide +kernel) (by decide)
              have f12 : x 12 = lp q := hd 12 (by decide)
              rw [f12] at e81
              have e75 : A_.tmps[75]? = some (x 6) := by rw [← hA]; exact putsA_in (i := 6) 75 (by rfl) (by show (75 : Nat) < 96; decide) _ (by decide +kernel) (by decide)
              have f6 : x 6 = .bool false := hd 6 (by decide)
              rw [f6] at e75
              clear hA hd
              refine wpOp_step rfl (fun K' hK' => ?_)
              go_simp
              exact hK' _ _ (hK _ _ rfl (Below.refl _ _) hI)
            · generalize hA : putsA _ _ x [0, 1, 2, 3, 4, 5, 6, 7, 8, 9, 10, 11, 12, 13, 14, 15, 16, 17, 18, 19, 20, 21, 22, 23, 24, 25, 26, 27] = A_ at *
              have e82 : A_.tmps[82]? = some (x 13) := by rw [← hA]; exact putsA_in (i := 13) 82 (by rfl) (by show (82 : Nat) < 96; decide) _ (by decide +kernel) (by decide)
              have f13 : x 13 = .pointer (some ⟨q, 5, none⟩) := hd 13 (by decide)
              rw [f13] at e82
              have e75 : A_.tmps[75]? = some (x 6) := by rw [← hA]; exact putsA_in (i := 6) 75 (by rfl) (by show (75 : Nat) < 96; decide) _ (by decide +kernel) (by decide)
              have f6 : x 6 = .bool false := hd 6 (by decide)
              rw [f6] at e75
              clear hA hd
              obtain ⟨z5, z3, zc⟩ := HC3.out W (undrew hI)
              refine wpOp_step rfl (fun K' hK' => ?_)
              go_simp
              exact hK' _ _ (hK _ _ rfl (Below.refl _ _) hI)
            · generalize hA : putsA _ _ x [0, 1, 2, 3, 4, 5, 6, 7, 8, 9, 10, 11, 12, 13, 14, 15, 16, 17, 18, 19, 20, 21, 22, 23, 24, 25, 26, 27] = A_ at *
              have e83 : A_.tmps[83]? = some (x 14) := by rw [← hA]; exact putsA_in (i := 14) 83 (by rfl) (by show (83 : Nat) < 96; decide) _ (by decide +kernel) (by decide)
              have f14 : x 14 = .slice (some ⟨gb, 0, none⟩) i c1 := hd 14 (by decide)
              rw [f14] at e83
              have e75 : A_.tmps[75]? = some (x 6) := by rw [← hA]; exact putsA_in (i := 6) 75 (by rfl) (by show (75 : Nat) < 96; decide) _ (by decide +kernel) (by decide)
              have f6 : x 6 = .bool false := hd 6 (by decide)
              rw [f6] at e75
              clear hA hd
              refine wpOp_step rfl (fun K' hK' => ?_)
              go_simp
              exact hK' _ _ (hK _ _ rfl (Below.refl _ _) hI)
            · generalize hA : putsA _ _ x [0, 1, 2, 3, 4, 5, 6, 7, 8, 9, 10, 11, 12, 13, 14, 15, 16, 17, 18, 19, 20, 21, 22, 23, 24, 25, 26, 27] = A_ at *
              have e84 : A_.tmps[84]? = some (x 15) := by rw [← hA]; exact putsA_in (i := 15) 84 (by rfl) (by show (84 : Nat) < 96; decide) _ (by decide +kernel) (by decide)
              have f15 : x 15 = .int .i64 (i : Int) := hd 15 (by decide)
              rw [f15] at e84
              have e75 : A_.tmps[75]? = some (x 6) := by rw [← hA]; exact putsA_in (i := 6) 75 (by rfl) (by show (75 : Nat) < 96; decide) _ (by decide +kernel) (by decide)
              have f6 : x 6 = .bool false := hd 6 (by decide)
              rw [f6] at e75
              clear hA hd
              refine wpOp_step rfl (fun K' hK' => ?_)
              go_simp
              exact hK' _ _ (hK _ _ (by first | rfl | exact congrArg (Value.int .i64) hw1 | exact congrArg (Value.int .i64) hwm) (Below.refl _ _) hI)
            · generalize hA : putsA _ _ x [0, 1, 2, 3, 4, 5, 6, 7, 8, 9, 10, 11, 12, 13, 14, 15, 16, 17, 18, 19, 20, 21, 22, 23, 24, 25, 26, 27] = A_ at *
              have e79 : A_.tmps[79]? = some (x 10) := by rw [← hA]; exact putsA_in (i := 10) 79 (by rfl) (by show (79 : Nat) < 96; decide) _ (by decide +kernel) (by decide)
              have f10 : x 10 = .slice (some ⟨gb, 0, none⟩) i c1 := hd 10 (by decide)
              rw [f10] at e79
              have e85 : A_.tmps[85]? = some (x 16) := by rw [← hA]; exact putsA_in (i := 16) 85 (by rfl) (by show (85 : Nat) < 96; decide) _ (by decide +kernel) (by decide)
              have f16 : x 16 = .int .i64 (m : Int) := hd 16 (by decide)
              rw [f16] at e85
              have e75 : A_.tmps[75]? = some (x 6) := by rw [← hA]; exact putsA_in (i := 6) 75 (by rfl) (by show (75 : Nat) < 96; decide) _ (by decide +kernel) (by decide)
              have f6 : x 6 = .bool false := hd 6 (by decide)
              rw [f6] at e75
              clear hA hd
              refine wpOp_step rfl (fun K' hK' => ?_)
              go_simp
              exact hK' _ _ (hK _ _ rfl (Below.refl _ _) hI)
            · generalize hA : putsA _ _ x [0, 1, 2, 3, 4, 5, 6, 7, 8, 9, 10, 11, 12, 13, 14, 15, 16, 17, 18, 19, 20, 21, 22, 23, 24, 25, 26, 27] = A_ at *
              have e86 : A_.tmps[86]? = some (x 17) := by rw [← hA]; exact putsA_in (i := 17) 86 (by rfl) (by show (86 : Nat) < 96; decide) _ (by decide +kernel) (by decide)
              have f17 : x 17 = .pointer (some ⟨gb, m * 3, none⟩) := hd 17 (by decide)
              rw [f17] at e86
              have e75 : A_.tmps[75]? = some (x 6) := by rw [← hA]; exact putsA_in (i := 6) 75 (by rfl) (by show (75 : Nat) < 96; decide) _ (by decide +kernel) (by decide)
              have f6 : x 6 = .bool false := hd 6 (by decide)
              rw [f6] at e75
              clear hA hd
              refine wpOp_step rfl (fun K' hK' => ?_)
              go_simp
              exact hK' _ _ (hK _ _ rfl (Below.refl _ _) hI)
            · generalize hA : putsA _ _ x [0, 1, 2, 3, 4, 5, 6, 7, 8, 9, 10, 11, 12, 13, 14, 15, 16, 17, 18, 19, 20, 21, 22, 23, 24, 25, 26, 27] = A_ at *
              have e87 : A_.tmps[87]? = some (x 18) := by rw [← hA]; exact putsA_in (i := 18) 87 (by rfl) (by show (87 : Nat) < 96; decide) _ (by decide +kernel) (by decide)
              have f18 : x 18 = .pointer (some ⟨gb, m * 3 + 1, none⟩) := hd 18 (by decide)
              rw [f18] at e87
              have e75 : A_.tmps[75]? = some (x 6) := by rw [← hA]; exact putsA_in (i := 6) 75 (by rfl) (by show (75 : Nat) < 96; decide) _ (by decide +kernel) (by decide)
              have f6 : x 6 = .bool false := hd 6 (by decide)
              rw [f6] at e75
              clear hA hd
              obtain ⟨z5, z3, zc⟩ := HC3.out W (undrew hI)
              refine wpOp_step rfl (fun K' hK' => ?_)
              go_simp
              exact hK' _ _ (hK _ _ rfl (Below.refl _ _) hI)
            · generalize hA : putsA _ _ x [0, 1, 2, 3, 4, 5, 6, 7, 8, 9, 10, 11, 12, 13, 14, 15, 16, 17, 18, 19, 20, 21, 22, 23, 24, 25, 26, 27] = A_ at *
              have e0 : A_.tmps[0]? = some (lp q) := by rw [← hA]; exact putsA_at 0 _ (by decide +kernel)
              have e75 : A_.tmps[75]? = some (x 6) := by rw [← hA]; exact putsA_in (i := 6) 75 (by rfl) (by show (75 : Nat) < 96; decide) _ (by decide +kernel) (by decide)
              have f6 : x 6 = .bool false := hd 6 (by decide)
              rw [f6] at e75
              clear hA hd
              refine wpOp_step rfl (fun K' hK' => ?_)
              go_simp
              exact hK' _ _ (hK _ _ rfl (Below.refl _ _) hI)
            · generalize hA : putsA _ _ x [0, 1, 2, 3, 4, 5, 6, 7, 8, 9, 10, 11, 12, 13, 14, 15, 16, 17, 18, 19, 20, 21, 22, 23, 24, 25, 26, 27] = A_ at *
              have e89 : A_.tmps[89]? = some (x 20) := by rw [← hA]; exact putsA_in (i := 20) 89 (by rfl) (by show (89 : Nat) < 96; decide) _ (by decide +kernel) (by decide)
              have f20 : x 20 = lp q := hd 20 (by decide)
              rw [f20] at e89
              have e75 : A_.tmps[75]? = some (x 6) := by rw [← hA]; exact putsA_in (i := 6) 75 (by rfl) (by show (75 : Nat) < 96; decide) _ (by decide +kernel) (by decide)
              have f6 : x 6 = .bool false := hd 6 (by decide)
              rw [f6] at e75
              clear hA hd
              refine wpOp_step rfl (fun K' hK' => ?_)
              go_simp
              exact hK' _ _ (hK _ _ rfl (Below.refl _ _) hI)
            · generalize hA : putsA _ _ x [0, 1, 2, 3, 4, 5, 6, 7, 8, 9, 10, 11, 12, 13, 14, 15, 16, 17, 18, 19, 20, 21, 22, 23, 24, 25, 26, 27] = A_ at *
              have e90 : A_.tmps[90]? = some (x 21) := by rw [← hA]; exact putsA_in (i := 21) 90 (by rfl) (by show (90 : Nat) < 96; decide) _ (by decide +kernel) (by decide)
              have f21 : x 21 = lp q := hd 21 (by decide)
              rw [f21] at e90
              have e75 : A_.tmps[75]? = some (x 6) := by rw [← hA]; exact putsA_in (i := 6) 75 (by rfl) (by show (75 : Nat) < 96; decide) _ (by decide +kernel) (by decide)
              have f6 : x 6 = .bool false := hd 6 (by decide)
              rw [f6] at e75
              clear hA hd
              refine wpOp_step rfl (fun K' hK' => ?_)
              go_simp
              exact hK' _ _ (hK _ _ rfl (Below.refl _ _) hI)
            · generalize hA : putsA _ _ x [0, 1, 2, 3, 4, 5, 6, 7, 8, 9, 10, 11, 12, 13, 14, 15, 16, 17, 18, 19, 20, 21, 22, 23, 24, 25, 26, 27] = A_ at *
              have e91 : A_.tmps[91]? = some (x 22) := by rw [← hA]; exact putsA_in (i := 22) 91 (by rfl) (by show (91 : Nat) < 96; decide) _ (by decide +kernel) (by decide)
              have f22 : x 22 = .pointer (some ⟨q, 1, none⟩) := hd 22 (by decide)
              rw [f22] at e91
              have e75 : A_.tmps[75]? = some (x 6) := by rw [← hA]; exact putsA_in (i := 6) 75 (by rfl) (by show (75 : Nat) < 96; decide) _ (by decide +kernel) (by decide)
              have f6 : x 6 = .bool false := hd 6 (by decide)
              rw [f6] at e75
              clear hA hd
              refine wpOp_step rfl (fun K' hK' => ?_)
              go_simp
              exact hK' _ _ (hK _ _ rfl (Below.refl _ _) hI)
            · generalize hA : putsA _ _ x [0, 1, 2, 3, 4, 5, 6, 7, 8, 9, 10, 11, 12, 13, 14, 15, 16, 17, 18, 19, 20, 21, 22, 23, 24, 25, 26, 27] = A_ at *
              have e92 : A_.tmps[92]? = some (x 23) := by rw [← hA]; exact putsA_in (i := 23) 92 (by rfl) (by show (92 : Nat) < 96; decide) _ (by decide +kernel) (by decide)
              have f23 : x 23 = .pointer (some ⟨q, 3, none⟩) := hd 23 (by decide)
              rw [f23] at e92
              have e75 : A_.tmps[75]? = some (x 6) := by rw [← hA]; exact putsA_in (i := 6) 75 (by rfl) (by show (75 : Nat) < 96; decide) _ (by decide +kernel) (by decide)
              have f6 : x 6 = .bool false := hd 6 (by decide)
              rw [f6] at e75
              clear hA hd
              obtain ⟨z5, z3, zc⟩ := HC3.out W (undrew hI)
              refine wpOp_step rfl (fun K' hK' => ?_)
              go_simp
              exact hK' _ _ (hK _ _ rfl (Below.refl _ _) hI)
            · generalize hA : putsA _ _ x [0, 1, 2, 3, 4, 5, 6, 7, 8, 9, 10, 11, 12, 13, 14, 15, 16, 17, 18, 19, 20, 21, 22, 23, 24, 25, 26, 27] = A_ at *
              have e88 : A_.tmps[88]? = some (x 19) := by rw [← hA]; exact putsA_in (i := 19) 88 (by rfl) (by show (88 : Nat) < 96; decide) _ (by decide +kernel) (by decide)
              have f19 : x 19 = .int .i64 lx.cm := hd 19 (by decide)
              rw [f19] at e88
              have e93 : A_.tmps[93]? = some (x 24) := by rw [← hA]; exact putsA_in (i := 24) 93 (by rfl) (by show (93 : Nat) < 96; decide) _ (by decide +kernel) (by decide)
              have f24 : x 24 = .int .i64 P := hd 24 (by decide)
              rw [f24] at e93
              have e75 : A_.tmps[75]? = some (x 6) := by rw [← hA]; exact putsA_in (i := 6) 75 (by rfl) (by show (75 : Nat) < 96; decide) _ (by decide +kernel) (by decide)
              have f6 : x 6 = .bool false := hd 6 (by decide)
              rw [f6] at e75
              clear hA hd
              have hcc := hcb
              refine wpOp_step rfl (fun K' hK' => ?_)
              go_simp
              exact hK' _ _ (hK _ _ rfl (Below.refl _ _) hI)
            · generalize hA : putsA _ _ x [0, 1, 2, 3, 4, 5, 6, 7, 8, 9, 10, 11, 12, 13, 14, 15, 16, 17, 18, 19, 20, 21, 22, 23, 24, 25, 26, 27] = A_ at *
              have e75 : A_.tmps[75]? = some (x 6) := by rw [← hA]; exact putsA_in (i := 6) 75 (by rfl) (by show (75 : Nat) < 96; decide) _ (by decide +kernel) (by decide)
              have f6 : x 6 = .bool false := hd 6 (by decide)
              rw [f6] at e75
              have e94 : A_.tmps[94]? = some (x 25) := by rw [← hA]; exact putsA_in (i := 25) 94 (by rfl) (by show (94 : Nat) < 96; decide) _ (by decide +kernel) (by decide)
              have f25 : x 25 = .bool false := hd 25 (by decide)
              rw [f25] at e94
              clear hA hd
              refine wpOp_step rfl (fun K' hK' => ?_)
              go_simp
              exact hK' _ _ (hK _ _ rfl (Below.refl _ _) hI)
            · generalize hA : putsA _ _ x [0, 1, 2, 3, 4, 5, 6, 7, 8, 9, 10, 11, 12, 13, 14, 15, 16, 17, 18, 19, 20, 21, 22, 23, 24, 25, 26, 27] = A_ at *
              have e95 : A_.tmps[95]? = some (x 26) := by rw [← hA]; exact putsA_in (i := 26) 95 (by rfl) (by show (95 : Nat) < 96; decide) _ (by decide +kernel) (by decide)
              have f26 : x 26 = .bool false := hd 26 (by decide)
              rw [f26] at e95
              clear hA hd
              refine wpOp_step rfl (fun K' hK' => ?_)
              go_simp
              exact hK' _ _ (hK _ _ rfl (Below.refl _ _) hI)
          case hend =>
            intro x W b_ c_ hf hpf hqf hI
            have f0 : x 0 = lp q := hf 0 (by decide)
            have f1 : x 1 = lp q := hf 1 (by decide)
            have f2 : x 2 = .pointer (some ⟨q, 5, none⟩) := hf 2 (by decide)
            have f3 : x 3 = .slice (some ⟨gb, 0, none⟩) i c1 := hf 3 (by decide)
            have f4 : x 4 = .int .i64 (i : Int) := hf 4 (by decide)
            have f5 : x 5 = .bool false := hf 5 (by decide)
            have f6 : x 6 = .bool false := hf 6 (by decide)
            have f7 : x 7 = lp q := hf 7 (by decide)
            have f8 : x 8 = lp q := hf 8 (by decide)
            have f9 : x 9 = .pointer (some ⟨q, 5, none⟩) := hf 9 (by decide)
            have f10 : x 10 = .slice (some ⟨gb, 0, none⟩) i c1 := hf 10 (by decide)
            have f11 : x 11 = lp q := hf 11 (by decide)
            have f12 : x 12 = lp q := hf 12 (by decide)
            have f13 : x 13 = .pointer (some ⟨q, 5, none⟩) := hf 13 (by decide)
            have f14 : x 14 = .slice (some ⟨gb, 0, none⟩) i c1 := hf 14 (by decide)
            have f15 : x 15 = .int .i64 (i : Int) := hf 15 (by decide)
            have f16 : x 16 = .int .i64 (m : Int) := hf 16 (by decide)
            have f17 : x 17 = .pointer (some ⟨gb, m * 3, none⟩) := hf 17 (by decide)
            have f18 : x 18 = .pointer (some ⟨gb, m * 3 + 1, none⟩) := hf 18 (by decide)
            have f19 : x 19 = .int .i64 lx.cm := hf 19 (by decide)
            have f20 : x 20 = lp q := hf 20 (by decide)
            have f21 : x 21 = lp q := hf 21 (by decide)
            have f22 : x 22 = .pointer (some ⟨q, 1, none⟩) := hf 22 (by decide)
            have f23 : x 23 = .pointer (some ⟨q, 3, none⟩) := hf 23 (by decide)
            have f24 : x 24 = .int .i64 P := hf 24 (by decide)
            have f25 : x 25 = .bool false := hf 25 (by decide)
            have f26 : x 26 = .bool false := hf 26 (by decide)
            have f27 : x 27 = .bool false := hf 27 (by decide)
            rw [putsA_lit _ _ [0, 1, 2, 3, 4, 5, 6, 7, 8, 9, 10, 11, 12, 13, 14, 15, 16, 17, 18, 19, 20, 21, 22, 23, 24, 25, 26, 27] ((2, 27) :: (69, 0) :: (70, 1) :: (71, 2) :: (72, 3) :: (73, 4) :: (74, 5) :: (75, 6) :: (76, 7) :: (77, 8) :: (78, 9) :: (79, 10) :: (80, 11) :: (81, 12) :: (82, 13) :: (83, 14) :: (84, 15) :: (85, 16) :: (86, 17) :: (87, 18) :: (88, 19) :: (89, 20) :: (90, 21) :: (91, 22) :: (92, 23) :: (93, 24) :: (94, 25) :: (95, 26) :: []) (by kernel_rfl)]
            simp only [setAll, ↓reduceIte, Nat.reduceAdd, Nat.reduceEqDiff]
            rw [f0, f1, f2, f3, f4, f5, f6, f7, f8, f9, f10, f11, f12, f13, f14, f15, f16, f17, f18, f19, f20, f21, f22, f23, f24, f25, f26, f27]
            clear hf hpf hqf f0 f1 f2 f3 f4 f5 f6 f7 f8 f9 f10 f11 f12 f13 f14 f15 f16 f17 f18 f19 f20 f21 f22 f23 f24 f25 f26 f27
            refine wpAny_done (by kernel_rfl) ?_ _
            refine NoPanic.normal ?_
            have HBW := Lib.hid (undrew hI)
            clear hI x
            go_wp2_with fail
            go_ret
            refine ⟨by rw [HXX.out]; rfl, fr_step HFR.out HBW.out, fun fs1 e1 h => ?_⟩
            rw [HXX.out] at h
            cases h
    · have hiI : (i : Int) < F := by omega
      have hFi : F - i = (F - (i + 1)) + 1 := by omega
      have hrs := HRS.out
      rw [hFi, frT] at hrs
      have HRD := Lib.hid (fun W (hb : Below wr.drew.heap.size wr.drew W) => read_any S g d Nn 1 (1 + (i : Int) * 9) 9 (by omega) W (dk_tf (tf_below HTF.out (undrew hb)) HD.out HS.out))
      have hsz : (readD d 1 (1 + (i : Int) * 9) 9).1.size ≤ 140737488351232 := readD_sz HD.out _ _ _
      generalize readD d 1 (1 + (i : Int) * 9) 9 = RD at *
      obtain ⟨s, z⟩ := RD
      simp only at HRD hrs hsz
      have HRS2 := Lib.hid hrs
      clear hrs HRS hFi
      go_wp2_with fail
      refine wp_region_noPanic ?_
      refine wp_region_any (by kernel_rfl) ?_
      refine facts_sw [0, 1, 2, 3, 4, 5, 6, 7, 8, 9, 10, 11] (fun i => match i with | 1 => [0] | 2 => [1] | 3 => [2] | 5 => [4] | 6 => [3, 5] | 7 => [6] | 8 => [7] | 9 => [7] | 10 => [8] | 11 => [9] | _ => []) 99 99 (fun i_ v W => match i_ with | 0 => v = lp q | 1 => v = lp q | 2 => v = lp q | 3 => v = lp g | 4 => v = .int .i64 (i : Int) | 5 => v = .int .i64 (1 + (i : Int) * 9) | 6 => v = .tuple #[.string s, .int .i64 z] | 7 => v = .tuple #[.string s, .int .i64 z] | 8 => v = .string s | 9 => v = .int .i64 z | 10 => v = .string s | 11 => v = .int .i64 z | _ => True) (fun W W' => Below W.heap.size W W') (fun _ _ W => Below wr.drew.heap.size wr.drew W) _ _ _ 0 _ #[true, true, true, true, true, true, true, true, true, true, true, true] (fun i_ v W W' h hs => match i_, h with | 0, h => h | 1, h => h | 2, h => h | 3, h => h | 4, h => h | 5, h => h | 6, h => h | 7, h => h | 8, h => h | 9, h => h | 10, h => h | 11, h => h | _ + 12, h => h) (by kernel_rfl) (by rfl) (Below.refl _ _) ?hstep ?hend
      case hstep =>
        intro i_ hi_ b_ c_ hbp hcq hbd hcd x W hd hI K hK
        simp only [List.mem_cons, List.not_mem_nil, or_false] at hi_
        rcases hi_ with rfl | rfl | rfl | rfl | rfl | rfl | rfl | rfl | rfl | rfl | rfl | rfl
        · generalize hA : putsA _ _ x [0, 1, 2, 3, 4, 5, 6, 7, 8, 9, 10, 11] = A_ at *
          have e0 : A_.tmps[0]? = some (lp q) := by rw [← hA]; exact putsA_at 0 _ (by decide +kernel)
          clear hA hd
          refine wpOp_step rfl (fun K' hK' => ?_)
          go_simp
          exact hK' _ _ (hK _ _ rfl (Below.refl _ _) hI)
        · generalize hA : putsA _ _ x [0, 1, 2, 3, 4, 5, 6, 7, 8, 9, 10, 11] = A_ at *
          have e26 : A_.tmps[26]? = some (x 0) := by rw [← hA]; exact putsA_in (i := 0) 26 (by rfl) (by show (26 : Nat) < 96; decide) _ (by decide +kernel) (by decide)
          have f0 : x 0 = lp q := hd 0 (by decide)
          rw [f0] at e26
          clear hA hd
          refine wpOp_step rfl (fun K' hK' => ?_)
          go_simp
          exact hK' _ _ (hK _ _ rfl (Below.refl _ _) hI)
        · generalize hA : putsA _ _ x [0, 1, 2, 3, 4, 5, 6, 7, 8, 9, 10, 11] = A_ at *
          have e27 : A_.tmps[27]? = some (x 1) := by rw [← hA]; exact putsA_in (i := 1) 27 (by rfl) (by show (27 : Nat) < 96; decide) _ (by decide +kernel) (by decide)
          have f1 : x 1 = lp q := hd 1 (by decide)
          rw [f1] at e27
          clear hA hd
          refine wpOp_step rfl (fun K' hK' => ?_)
          go_simp
          exact hK' _ _ (hK _ _ rfl (Below.refl _ _) hI)
        · generalize hA : putsA _ _ x [0, 1, 2, 3, 4, 5, 6, 7, 8, 9, 10, 11] = A_ at *
          have e28 : A_.tmps[28]? = some (x 2) := by rw [← hA]; exact putsA_in (i := 2) 28 (by rfl) (by show (28 : Nat) < 96; decide) _ (by decide +kernel) (by decide)
          have f2 : x 2 = lp q := hd 2 (by decide)
          rw [f2] at e28
          clear hA hd
          obtain ⟨z0, -⟩ := tf_cells (tf_below HTF.out (undrew hI))
          refine wpOp_step rfl (fun K' hK' => ?_)
          go_simp
          exact hK' _ _ (hK _ _ rfl (Below.refl _ _) hI)
        · generalize hA : putsA _ _ x [0, 1, 2, 3, 4, 5, 6, 7, 8, 9, 10, 11] = A_ at *
          have e3 : A_.tmps[3]? = some (.int .i64 (i : Int)) := by rw [← hA]; exact putsA_at 3 _ (by decide +kernel)
          clear hA hd
          refine wpOp_step rfl (fun K' hK' => ?_)
          go_simp
          exact hK' _ _ (hK _ _ rfl (Below.refl _ _) hI)
        · generalize hA : putsA _ _ x [0, 1, 2, 3, 4, 5, 6, 7, 8, 9, 10, 11] = A_ at *
          have e30 : A_.tmps[30]? = some (x 4) := by rw [← hA]; exact putsA_in (i := 4) 30 (by rfl) (by show (30 : Nat) < 96; decide) _ (by decide +kernel) (by decide)
          have f4 : x 4 = .int .i64 (i : Int) := hd 4 (by decide)
          rw [f4] at e30
          clear hA hd
          refine wpOp_step rfl (fun K' hK' => ?_)
          go_simp
          refine (frameAt_any (i : Int) W (by omega) (by omega)).mono ?_
          rintro e' w6 ⟨rfl, rfl⟩
          exact hK' _ _ (hK _ _ rfl (Below.refl _ _) hI)
        · generalize hA : putsA _ _ x [0, 1, 2, 3, 4, 5, 6, 7, 8, 9, 10, 11] = A_ at *
          have e29 : A_.tmps[29]? = some (x 3) := by rw [← hA]; exact putsA_in (i := 3) 29 (by rfl) (by show (29 : Nat) < 96; decide) _ (by decide +kernel) (by decide)
          have f3 : x 3 = lp g := hd 3 (by decide)
          rw [f3] at e29
          have e31 : A_.tmps[31]? = some (x 5) := by rw [← hA]; exact putsA_in (i := 5) 31 (by rfl) (by show (31 : Nat) < 96; decide) _ (by decide +kernel) (by decide)
          have f5 : x 5 = .int .i64 (1 + (i : Int) * 9) := hd 5 (by decide)
          rw [f5] at e31
          clear hA hd
          refine wpOp_step rfl (fun K' hK' => ?_)
          go_simp
          refine (HRD.out W hI).mono ?_
          rintro e' w6 ⟨rfl, hb6⟩
          exact hK' _ _ (hK _ _ rfl hb6 (bj hI hb6))
        · generalize hA : putsA _ _ x [0, 1, 2, 3, 4, 5, 6, 7, 8, 9, 10, 11] = A_ at *
          have e32 : A_.tmps[32]? = some (x 6) := by rw [← hA]; exact putsA_in (i := 6) 32 (by rfl) (by show (32 : Nat) < 96; decide) _ (by decide +kernel) (by decide)
          have f6 : x 6 = .tuple #[.string s, .int .i64 z] := hd 6 (by decide)
          rw [f6] at e32
          clear hA hd
          refine wpOp_step rfl (fun K' hK' => ?_)
          go_simp
          exact hK' _ _ (hK _ _ rfl (Below.refl _ _) hI)
        · generalize hA : putsA _ _ x [0, 1, 2, 3, 4, 5, 6, 7, 8, 9, 10, 11] = A_ at *
          have e25 : A_.tmps[25]? = some (x 7) := by rw [← hA]; exact putsA_in (i := 7) 25 (by rfl) (by show (25 : Nat) < 96; decide) _ (by decide +kernel) (by decide)
          have f7 : x 7 = .tuple #[.string s, .int .i64 z] := hd 7 (by decide)
          rw [f7] at e25
          clear hA hd
          refine wpOp_step rfl (fun K' hK' => ?_)
          go_simp
          exact hK' _ _ (hK _ _ rfl (Below.refl _ _) hI)
        · generalize hA : putsA _ _ x [0, 1, 2, 3, 4, 5, 6, 7, 8, 9, 10, 11] = A_ at *
          have e25 : A_.tmps[25]? = some (x 7) := by rw [← hA]; exact putsA_in (i := 7) 25 (by rfl) (by show (25 : Nat) < 96; decide) _ (by decide +kernel) (by decide)
          have f7 : x 7 = .tuple #[.string s, .int .i64 z] := hd 7 (by decide)
          rw [f7] at e25
          clear hA hd
          refine wpOp_step rfl (fun K' hK' => ?_)
          go_simp
          exact hK' _ _ (hK _ _ rfl (Below.refl _ _) hI)
        · generalize hA : putsA _ _ x [0, 1, 2, 3, 4, 5, 6, 7, 8, 9, 10, 11] = A_ at *
          have e33 : A_.tmps[33]? = some (x 8) := by rw [← hA]; exact putsA_in (i := 8) 33 (by rfl) (by show (33 : Nat) < 96; decide) _ (by decide +kernel) (by decide)
          have f8 : x 8 = .string s := hd 8 (by decide)
          rw [f8] at e33
          clear hA hd
          refine wpOp_step rfl (fun K' hK' => ?_)
          go_simp
          exact hK' _ _ (hK _ _ rfl (Below.refl _ _) hI)
        · generalize hA : putsA _ _ x [0, 1, 2, 3, 4, 5, 6, 7, 8, 9, 10, 11] = A_ at *
          have e34 : A_.tmps[34]? = some (x 9) := by rw [← hA]; exact putsA_in (i := 9) 34 (by rfl) (by show (34 : Nat) < 96; decide) _ (by decide +kernel) (by decide)
          have f9 : x 9 = .int .i64 z := hd 9 (by decide)
          rw [f9] at e34
          clear hA hd
          refine wpOp_step rfl (fun K' hK' => ?_)
          go_simp
          exact hK' _ _ (hK _ _ rfl (Below.refl _ _) hI)
      case hend =>
        intro x W b_ c_ hf hpf hqf hI
        have f0 : x 0 = lp q := hf 0 (by decide)
        have f1 : x 1 = lp q := hf 1 (by decide)
        have f2 : x 2 = lp q := hf 2 (by decide)
        have f3 : x 3 = lp g := hf 3 (by decide)
        have f4 : x 4 = .int .i64 (i : Int) := hf 4 (by decide)
        have f5 : x 5 = .int .i64 (1 + (i : Int) * 9) := hf 5 (by decide)
        have f6 : x 6 = .tuple #[.string s, .int .i64 z] := hf 6 (by decide)
        have f7 : x 7 = .tuple #[.string s, .int .i64 z] := hf 7 (by decide)
        have f8 : x 8 = .string s := hf 8 (by decide)
        have f9 : x 9 = .int .i64 z := hf 9 (by decide)
        have f10 : x 10 = .string s := hf 10 (by decide)
        have f11 : x 11 = .int .i64 z := hf 11 (by decide)
        rw [putsA_lit _ _ [0, 1, 2, 3, 4, 5, 6, 7, 8, 9, 10, 11] ((4, 10) :: (5, 11) :: (25, 7) :: (26, 0) :: (27, 1) :: (28, 2) :: (29, 3) :: (30, 4) :: (31, 5) :: (32, 6) :: (33, 8) :: (34, 9) :: []) (by kernel_rfl)]
        simp only [setAll, ↓reduceIte, Nat.reduceAdd, Nat.reduceEqDiff]
        rw [f0, f1, f2, f3, f4, f5, f6, f7, f8, f9, f10, f11]
        clear hf hpf hqf f0 f1 f2 f3 f4 f5 f6 f7 f8 f9 f10 f11
        refine wpAny_done (by kernel_rfl) ?_ _
        refine NoPanic.normal ?_
        have HT2 := Lib.hid (tf_below HTF.out (undrew hI))
        clear hI x HTF HRD
        by_cases hz : z = 0
        rotate_left
        · have hzb : (z != 0) = true := by simp [hz]
          have hRS : RS = none := by rw [HRS2.out, if_pos hz]; rfl
          have hXN : X = none := by rw [← HX.out, hRS]; rfl
          subst hXN
          clear HX HRS2 hRS hz
          go_wp2_with fail
          go_ret
          exact ⟨rfl, HT2.out.fr, fun fs e1 h => (by cases h)⟩
        · subst hz
          have hrs := HRS2.out
          rw [if_neg (by simp)] at hrs
          clear HRS2
          have HTK := Lib.hid (fun W => take_any e.1 e.2 N s W HT2.out.fit hsz)
          have hfq : Fit (fQ e (bts s)) := fit_addL (fit_addL HT2.out.fit)
          have hszB := bts_length s
          by_cases he : fErr e N (bts s) = 0
          rotate_left
          · rw [if_pos he] at hrs
            have hRS : RS = none := by rw [hrs]; rfl
            have hXN : X = none := by rw [← HX.out, hRS]; rfl
            subst hXN
            have hr : tfRet e N s = takeZero (fErr e N (bts s)) := by unfold tfRet; rw [if_neg he]
            have HE := Lib.hid he
            have htk2 : ∀ W, Calls Try.prog 56 #[.agg #[.int .u32 e.1, .int .u32 e.2], .int .u64 N, .string s] W fun e' w' => e' = .returned (.tuple #[.agg #[.int .i64 0, .int .i64 0, .string ⟨#[]⟩], .agg #[.int .u32 0, .int .u32 0], .int .i64 (fErr e N (bts s))]) ∧ Below W.heap.size W w' := fun W => by
              have h := HTK.out W
              rw [show ((e.1, e.2) : Int × Int) = e from rfl, hr] at h
              exact h
            generalize fErr e N (bts s) = er at *
            have HTK2 := Lib.hid htk2
            clear htk2 HTK hr hrs hRS HX he hfq hszB
            go_wp2_with fail
            generalize W = W9 at *
            refine wp_region_noPanic ?_
            refine wp_region_any (by kernel_rfl) ?_
            refine facts_sx [0, 1, 2, 3, 4, 5, 6, 7, 8, 9, 10, 11, 12, 13, 14, 15, 16, 17, 18, 19] (fun i => match i with | 1 => [0] | 2 => [1] | 3 => [2] | 5 => [4] | 6 => [5] | 7 => [6] | 8 => [7] | 10 => [3, 8, 9] | 11 => [10] | 12 => [11] | 13 => [11] | 14 => [11] | 17 => [15, 12] | 18 => [16, 13] | 19 => [14] | _ => []) 17 18 (fun i v W => match i with | 0 => v = lp q | 1 => v = lp q | 2 => v = .pointer (some ⟨q, 6, none⟩) | 3 => v = .agg #[.int .u32 e.1, .int .u32 e.2] | 4 => v = lp q | 5 => v = lp q | 6 => v = .pointer (some ⟨q, 1, none⟩) | 7 => v = .pointer (some ⟨q, 1, none⟩) | 8 => v = .int .u64 N | 9 => v = .string s | 10 => v = .tuple #[.agg #[.int .i64 0, .int .i64 0, .string ⟨#[]⟩], .agg #[.int .u32 0, .int .u32 0], .int .i64 (er : Int)] | 11 => v = .tuple #[.agg #[.int .i64 0, .int .i64 0, .string ⟨#[]⟩], .agg #[.int .u32 0, .int .u32 0], .int .i64 (er : Int)] | 12 => v = .agg #[.int .i64 0, .int .i64 0, .string ⟨#[]⟩] | 13 => v = .agg #[.int .u32 0, .int .u32 0] | 14 => v = .int .i64 (er : Int) | 15 => ∃ k a b c, v = .pointer (some ⟨k, 0, none⟩) ∧ W9.heap.size ≤ k ∧ Blk W k 61 #[a, b, c] | 16 => ∃ k a b, v = .pointer (some ⟨k, 0, none⟩) ∧ W9.heap.size ≤ k ∧ Blk W k 73 #[a, b] | 19 => v = .int .i64 (er : Int) | _ => True) StF (fun b c x W => Below W9.heap.size W9 W ∧ (b = false → ∃ k, x 15 = .pointer (some ⟨k, 0, none⟩) ∧ W9.heap.size ≤ k ∧ Blk W k 61 #[.int .i64 0, .int .i64 0, .string ⟨#[]⟩]) ∧ (c = false → ∃ k, x 16 = .pointer (some ⟨k, 0, none⟩) ∧ W9.heap.size ≤ k ∧ Blk W k 73 #[.int .u32 0, .int .u32 0])) _ _ _ 0 _ #[true, true, true, true, true, true, true, true, true, true, true, true, true, true, true, true, true, true, true, true] (fun i_ v W W' h hs => match i_, h with | 0, h => h | 1, h => h | 2, h => h | 3, h => h | 4, h => h | 5, h => h | 6, h => h | 7, h => h | 8, h => h | 9, h => h | 10, h => h | 11, h => h | 12, h => h | 13, h => h | 14, h => h | 15, ⟨k, a, b, c, h1, h2, h3⟩ => (hs.1 k a b c h3).elim fun a' h => h.elim fun b' h => h.elim fun c' h => ⟨k, a', b', c', h1, h2, h⟩ | 16, ⟨k, a, b, h1, h2, h3⟩ => (hs.2 k a b h3).elim fun a' h => h.elim fun b' h => ⟨k, a', b', h1, h2, h⟩ | 17, h => h | 18, h => h | 19, h => h | _ + 20, h => h) (by kernel_rfl) (by rfl) (fun x => ⟨(Below.refl _ _).drew, fun h => (by cases h), fun h => (by cases h)⟩) ?hstep ?hend
            case hstep =>
              intro i_ hi_ b_ c_ hbp hcq hbd hcd hbe hce x W hd hI K hK
              simp only [List.mem_cons, List.not_mem_nil, or_false] at hi_
              rcases hi_ with rfl | rfl | rfl | rfl | rfl | rfl | rfl | rfl | rfl | rfl | rfl | rfl | rfl | rfl | rfl | rfl | rfl | rfl | rfl | rfl
              · generalize hA : putsA _ _ x [0, 1, 2, 3, 4, 5, 6, 7, 8, 9, 10, 11, 12, 13, 14, 15, 16, 17, 18, 19] = A_ at *
                have e0 : A_.tmps[0]? = some (lp q) := by rw [← hA]; exact putsA_at 0 _ (by decide +kernel)
                clear hA hd
                refine wpOp_step rfl (fun K' hK' => ?_)
                go_simp
                exact hK' _ _ (hK _ _ rfl (st_same W) hI)
              · generalize hA : putsA _ _ x [0, 1, 2, 3, 4, 5, 6, 7, 8, 9, 10, 11, 12, 13, 14, 15, 16, 17, 18, 19] = A_ at *
                have e38 : A_.tmps[38]? = some (x 0) := by rw [← hA]; exact putsA_in (i := 0) 38 (by rfl) (by show (38 : Nat) < 96; decide) _ (by decide +kernel) (by decide)
                have f0 : x 0 = lp q := hd 0 (by decide)
                rw [f0] at e38
                clear hA hd
                refine wpOp_step rfl (fun K' hK' => ?_)
                go_simp
                exact hK' _ _ (hK _ _ rfl (st_same W) hI)
              · generalize hA : putsA _ _ x [0, 1, 2, 3, 4, 5, 6, 7, 8, 9, 10, 11, 12, 13, 14, 15, 16, 17, 18, 19] = A_ at *
                have e39 : A_.tmps[39]? = some (x 1) := by rw [← hA]; exact putsA_in (i := 1) 39 (by rfl) (by show (39 : Nat) < 96; decide) _ (by decide +kernel) (by decide)
                have f1 : x 1 = lp q := hd 1 (by decide)
                rw [f1] at e39
                clear hA hd
                refine wpOp_step rfl (fun K' hK' => ?_)
                go_simp
                exact hK' _ _ (hK _ _ rfl (st_same W) hI)
              · generalize hA : putsA _ _ x [0, 1, 2, 3, 4, 5, 6, 7, 8, 9, 10, 11, 12, 13, 14, 15, 16, 17, 18, 19] = A_ at *
                have e40 : A_.tmps[40]? = some (x 2) := by rw [← hA]; exact putsA_in (i := 2) 40 (by rfl) (by show (40 : Nat) < 96; decide) _ (by decide +kernel) (by decide)
                have f2 : x 2 = .pointer (some ⟨q, 6, none⟩) := hd 2 (by decide)
                rw [f2] at e40
                clear hA hd
                obtain ⟨-, -, -, -, z6, z7⟩ := tf_cells (tf_below HT2.out hI.1)
                refine wpOp_step rfl (fun K' hK' => ?_)
                go_simp
                exact hK' _ _ (hK _ _ rfl (st_same W) hI)
              · generalize hA : putsA _ _ x [0, 1, 2, 3, 4, 5, 6, 7, 8, 9, 10, 11, 12, 13, 14, 15, 16, 17, 18, 19] = A_ at *
                have e0 : A_.tmps[0]? = some (lp q) := by rw [← hA]; exact putsA_at 0 _ (by decide +kernel)
                clear hA hd
                refine wpOp_step rfl (fun K' hK' => ?_)
                go_simp
                exact hK' _ _ (hK _ _ rfl (st_same W) hI)
              · generalize hA : putsA _ _ x [0, 1, 2, 3, 4, 5, 6, 7, 8, 9, 10, 11, 12, 13, 14, 15, 16, 17, 18, 19] = A_ at *
                have e42 : A_.tmps[42]? = some (x 4) := by rw [← hA]; exact putsA_in (i := 4) 42 (by rfl) (by show (42 : Nat) < 96; decide) _ (by decide +kernel) (by decide)
                have f4 : x 4 = lp q := hd 4 (by decide)
                rw [f4] at e42
                clear hA hd
                refine wpOp_step rfl (fun K' hK' => ?_)
                go_simp
                exact hK' _ _ (hK _ _ rfl (st_same W) hI)
              · generalize hA : putsA _ _ x [0, 1, 2, 3, 4, 5, 6, 7, 8, 9, 10, 11, 12, 13, 14, 15, 16, 17, 18, 19] = A_ at *
                have e43 : A_.tmps[43]? = some (x 5) := by rw [← hA]; exact putsA_in (i := 5) 43 (by rfl) (by show (43 : Nat) < 96; decide) _ (by decide +kernel) (by decide)
                have f5 : x 5 = lp q := hd 5 (by decide)
                rw [f5] at e43
                clear hA hd
                refine wpOp_step rfl (fun K' hK' => ?_)
                go_simp
                exact hK' _ _ (hK _ _ rfl (st_same W) hI)
              · generalize hA : putsA _ _ x [0, 1, 2, 3, 4, 5, 6, 7, 8, 9, 10, 11, 12, 13, 14, 15, 16, 17, 18, 19] = A_ at *
                have e44 : A_.tmps[44]? = some (x 6) := by rw [← hA]; exact putsA_in (i := 6) 44 (by rfl) (by show (44 : Nat) < 96; decide) _ (by decide +kernel) (by decide)
                have f6 : x 6 = .pointer (some ⟨q, 1, none⟩) := hd 6 (by decide)
                rw [f6] at e44
                clear hA hd
                refine wpOp_step rfl (fun K' hK' => ?_)
                go_simp
                exact hK' _ _ (hK _ _ rfl (st_same W) hI)
              · generalize hA : putsA _ _ x [0, 1, 2, 3, 4, 5, 6, 7, 8, 9, 10, 11, 12, 13, 14, 15, 16, 17, 18, 19] = A_ at *
                have e45 : A_.tmps[45]? = some (x 7) := by rw [← hA]; exact putsA_in (i := 7) 45 (by rfl) (by show (45 : Nat) < 96; decide) _ (by decide +kernel) (by decide)
                have f7 : x 7 = .pointer (some ⟨q, 1, none⟩) := hd 7 (by decide)
                rw [f7] at e45
                clear hA hd
                obtain ⟨-, z1, -⟩ := tf_cells (tf_below HT2.out hI.1)
                refine wpOp_step rfl (fun K' hK' => ?_)
                go_simp
                exact hK' _ _ (hK _ _ rfl (st_same W) hI)
              · generalize hA : putsA _ _ x [0, 1, 2, 3, 4, 5, 6, 7, 8, 9, 10, 11, 12, 13, 14, 15, 16, 17, 18, 19] = A_ at *
                have e4 : A_.tmps[4]? = some (.string s) := by rw [← hA]; exact putsA_at 4 _ (by decide +kernel)
                clear hA hd
                refine wpOp_step rfl (fun K' hK' => ?_)
                go_simp
                exact hK' _ _ (hK _ _ rfl (st_same W) hI)
              · generalize hA : putsA _ _ x [0, 1, 2, 3, 4, 5, 6, 7, 8, 9, 10, 11, 12, 13, 14, 15, 16, 17, 18, 19] = A_ at *
                have e41 : A_.tmps[41]? = some (x 3) := by rw [← hA]; exact putsA_in (i := 3) 41 (by rfl) (by show (41 : Nat) < 96; decide) _ (by decide +kernel) (by decide)
                have f3 : x 3 = .agg #[.int .u32 e.1, .int .u32 e.2] := hd 3 (by decide)
                rw [f3] at e41
                have e46 : A_.tmps[46]? = some (x 8) := by rw [← hA]; exact putsA_in (i := 8) 46 (by rfl) (by show (46 : Nat) < 96; decide) _ (by decide +kernel) (by decide)
                have f8 : x 8 = .int .u64 N := hd 8 (by decide)
                rw [f8] at e46
                have e47 : A_.tmps[47]? = some (x 9) := by rw [← hA]; exact putsA_in (i := 9) 47 (by rfl) (by show (47 : Nat) < 96; decide) _ (by decide +kernel) (by decide)
                have f9 : x 9 = .string s := hd 9 (by decide)
                rw [f9] at e47
                clear hA hd
                refine wpOp_step rfl (fun K' hK' => ?_)
                go_simp
                refine (HTK2.out W).mono ?_
                rintro e' w6 ⟨rfl, hb6⟩
                exact hK' _ _ (hK _ _ rfl (st_below hb6) ⟨bj hI.1 hb6, fun h => (hI.2.1 h).elim fun k h => ⟨k, h.1, h.2.1, blk_step h.2.2 hb6⟩, fun h => (hI.2.2 h).elim fun k h => ⟨k, h.1, h.2.1, blk_step h.2.2 hb6⟩⟩)
              · generalize hA : putsA _ _ x [0, 1, 2, 3, 4, 5, 6, 7, 8, 9, 10, 11, 12, 13, 14, 15, 16, 17, 18, 19] = A_ at *
                have e48 : A_.tmps[48]? = some (x 10) := by rw [← hA]; exact putsA_in (i := 10) 48 (by rfl) (by show (48 : Nat) < 96; decide) _ (by decide +kernel) (by decide)
                have f10 : x 10 = .tuple #[.agg #[.int .i64 0, .int .i64 0, .string ⟨#[]⟩], .agg #[.int .u32 0, .int .u32 0], .int .i64 (er : Int)] := hd 10 (by decide)
                rw [f10] at e48
                clear hA hd
                refine wpOp_step rfl (fun K' hK' => ?_)
                go_simp
                exact hK' _ _ (hK _ _ rfl (st_same W) hI)
              · generalize hA : putsA _ _ x [0, 1, 2, 3, 4, 5, 6, 7, 8, 9, 10, 11, 12, 13, 14, 15, 16, 17, 18, 19] = A_ at *
                have e37 : A_.tmps[37]? = some (x 11) := by rw [← hA]; exact putsA_in (i := 11) 37 (by rfl) (by show (37 : Nat) < 96; decide) _ (by decide +kernel) (by decide)
                have f11 : x 11 = .tuple #[.agg #[.int .i64 0, .int .i64 0, .string ⟨#[]⟩], .agg #[.int .u32 0, .int .u32 0], .int .i64 (er : Int)] := hd 11 (by decide)
                rw [f11] at e37
                clear hA hd
                refine wpOp_step rfl (fun K' hK' => ?_)
                go_simp
                exact hK' _ _ (hK _ _ rfl (st_same W) hI)
              · generalize hA : putsA _ _ x [0, 1, 2, 3, 4, 5, 6, 7, 8, 9, 10, 11, 12, 13, 14, 15, 16, 17, 18, 19] = A_ at *
                have e37 : A_.tmps[37]? = some (x 11) := by rw [← hA]; exact putsA_in (i := 11) 37 (by rfl) (by show (37 : Nat) < 96; decide) _ (by decide +kernel) (by decide)
                have f11 : x 11 = .tuple #[.agg #[.int .i64 0, .int .i64 0, .string ⟨#[]⟩], .agg #[.int .u32 0, .int .u32 0], .int .i64 (er : Int)] := hd 11 (by decide)
                rw [f11] at e37
                clear hA hd
                refine wpOp_step rfl (fun K' hK' => ?_)
                go_simp
                exact hK' _ _ (hK _ _ rfl (st_same W) hI)
              · generalize hA : putsA _ _ x [0, 1, 2, 3, 4, 5, 6, 7, 8, 9, 10, 11, 12, 13, 14, 15, 16, 17, 18, 19] = A_ at *
                have e37 : A_.tmps[37]? = some (x 11) := by rw [← hA]; exact putsA_in (i := 11) 37 (by rfl) (by show (37 : Nat) < 96; decide) _ (by decide +kernel) (by decide)
                have f11 : x 11 = .tuple #[.agg #[.int .i64 0, .int .i64 0, .string ⟨#[]⟩], .agg #[.int .u32 0, .int .u32 0], .int .i64 (er : Int)] := hd 11 (by decide)
                rw [f11] at e37
                clear hA hd
                refine wpOp_step rfl (fun K' hK' => ?_)
                go_simp
                exact hK' _ _ (hK _ _ rfl (st_same W) hI)
              · generalize hA : putsA _ _ x [0, 1, 2, 3, 4, 5, 6, 7, 8, 9, 10, 11, 12, 13, 14, 15, 16, 17, 18, 19] = A_ at *
                clear hA hd
                obtain rfl := hbe (by decide) (by decide)
                refine wpOp_step rfl (fun K' hK' => ?_)
                go_simp
                have hb6 := allocB (w := W) (o := .cells #[.int .i64 0, .int .i64 0, .string ⟨#[]⟩] 61)
                exact hK' _ _ (hK _ _ ⟨W.heap.size, _, _, _, rfl, hI.1.size, Blk.new _ _ _⟩ (st_below hb6) ⟨bj hI.1 hb6, fun h => (by cases h), fun h => (hI.2.2 h).elim fun k h => ⟨k, h.1, h.2.1, blk_step h.2.2 hb6⟩⟩)
              · generalize hA : putsA _ _ x [0, 1, 2, 3, 4, 5, 6, 7, 8, 9, 10, 11, 12, 13, 14, 15, 16, 17, 18, 19] = A_ at *
                clear hA hd
                obtain rfl := hce (by decide) (by decide)
                refine wpOp_step rfl (fun K' hK' => ?_)
                go_simp
                have hb6 := allocB (w := W) (o := .cells #[.int .u32 0, .int .u32 0] 73)
                exact hK' _ _ (hK _ _ ⟨W.heap.size, _, _, rfl, hI.1.size, Blk.new _ _ _⟩ (st_below hb6) ⟨bj hI.1 hb6, fun h => (hI.2.1 h).elim fun k h => ⟨k, h.1, h.2.1, blk_step h.2.2 hb6⟩, fun h => (by cases h)⟩)
              · generalize hA : putsA _ _ x [0, 1, 2, 3, 4, 5, 6, 7, 8, 9, 10, 11, 12, 13, 14, 15, 16, 17, 18, 19] = A_ at *
                have e6 : A_.tmps[6]? = some (x 15) := by rw [← hA]; exact putsA_in (i := 15) 6 (by rfl) (by show (6 : Nat) < 96; decide) _ (by decide +kernel) (by decide)
                obtain ⟨k15, a15, b15, c15, f15, hk15, hb15⟩ := hd 15 (by decide)
                replace f15 : x 15 = .pointer (some ⟨k15, 0, none⟩) := f15
                rw [f15] at e6
                have e49 : A_.tmps[49]? = some (x 12) := by rw [← hA]; exact putsA_in (i := 12) 49 (by rfl) (by show (49 : Nat) < 96; decide) _ (by decide +kernel) (by decide)
                have f12 : x 12 = .agg #[.int .i64 0, .int .i64 0, .string ⟨#[]⟩] := hd 12 (by decide)
                rw [f12] at e49
                clear hA hd
                obtain ⟨z0, z1, z2⟩ := trip_at hb15
                have r0 := hb15.frozen 0
                have r1 := hb15.frozen 1
                have r2 := hb15.frozen 2
                refine wpOp_step rfl (fun K' hK' => ?_)
                go_simp
                exact hK' _ _ (hK undef _ trivial (st_frame hb15 _ _ _) ⟨((hI.1.setCell (p := ⟨k15, 0, none⟩) hk15 _).setCell (p := ⟨k15, 1, none⟩) hk15 _).setCell (p := ⟨k15, 2, none⟩) hk15 _, fun _ => ⟨k15, f15, hk15, ((hb15.set_ 0 _).set_ 1 _).set_ 2 _⟩, fun h => (hI.2.2 h).elim fun k h => ⟨k, h.1, h.2.1, ((h.2.2.far (p := ⟨k15, 0, none⟩) (h.2.2.ne_ hb15 (by decide)) _).far (p := ⟨k15, 1, none⟩) (h.2.2.ne_ hb15 (by decide)) _).far (p := ⟨k15, 2, none⟩) (h.2.2.ne_ hb15 (by decide)) _⟩⟩)
              · generalize hA : putsA _ _ x [0, 1, 2, 3, 4, 5, 6, 7, 8, 9, 10, 11, 12, 13, 14, 15, 16, 17, 18, 19] = A_ at *
                have e7 : A_.tmps[7]? = some (x 16) := by rw [← hA]; exact putsA_in (i := 16) 7 (by rfl) (by show (7 : Nat) < 96; decide) _ (by decide +kernel) (by decide)
                obtain ⟨k16, a16, b16, f16, hk16, hb16⟩ := hd 16 (by decide)
                replace f16 : x 16 = .pointer (some ⟨k16, 0, none⟩) := f16
                rw [f16] at e7
                have e50 : A_.tmps[50]? = some (x 13) := by rw [← hA]; exact putsA_in (i := 13) 50 (by rfl) (by show (50 : Nat) < 96; decide) _ (by decide +kernel) (by decide)
                have f13 : x 13 = .agg #[.int .u32 0, .int .u32 0] := hd 13 (by decide)
                rw [f13] at e50
                clear hA hd
                obtain ⟨z0, z1⟩ := pair_at hb16
                have r0 := hb16.frozen 0
                have r1 := hb16.frozen 1
                refine wpOp_step rfl (fun K' hK' => ?_)
                go_simp
                exact hK' _ _ (hK undef _ trivial (st_pair hb16 _ _) ⟨(hI.1.setCell (p := ⟨k16, 0, none⟩) hk16 _).setCell (p := ⟨k16, 1, none⟩) hk16 _, fun h => (hI.2.1 h).elim fun k h => ⟨k, h.1, h.2.1, (h.2.2.far (p := ⟨k16, 0, none⟩) (h.2.2.ne_ hb16 (by decide)) _).far (p := ⟨k16, 1, none⟩) (h.2.2.ne_ hb16 (by decide)) _⟩, fun _ => ⟨k16, f16, hk16, (hb16.set_ 0 _).set_ 1 _⟩⟩)
              · generalize hA : putsA _ _ x [0, 1, 2, 3, 4, 5, 6, 7, 8, 9, 10, 11, 12, 13, 14, 15, 16, 17, 18, 19] = A_ at *
                have e51 : A_.tmps[51]? = some (x 14) := by rw [← hA]; exact putsA_in (i := 14) 51 (by rfl) (by show (51 : Nat) < 96; decide) _ (by decide +kernel) (by decide)
                have f14 : x 14 = .int .i64 (er : Int) := hd 14 (by decide)
                rw [f14] at e51
                clear hA hd
                refine wpOp_step rfl (fun K' hK' => ?_)
                go_simp
                exact hK' _ _ (hK _ _ rfl (st_same W) hI)
            case hend =>
              intro x W b_ c_ hf hpf hqf hI
              have f0 : x 0 = lp q := hf 0 (by decide)
              have f1 : x 1 = lp q := hf 1 (by decide)
              have f2 : x 2 = .pointer (some ⟨q, 6, none⟩) := hf 2 (by decide)
              have f3 : x 3 = .agg #[.int .u32 e.1, .int .u32 e.2] := hf 3 (by decide)
              have f4 : x 4 = lp q := hf 4 (by decide)
              have f5 : x 5 = lp q := hf 5 (by decide)
              have f6 : x 6 = .pointer (some ⟨q, 1, none⟩) := hf 6 (by decide)
              have f7 : x 7 = .pointer (some ⟨q, 1, none⟩) := hf 7 (by decide)
              have f8 : x 8 = .int .u64 N := hf 8 (by decide)
              have f9 : x 9 = .string s := hf 9 (by decide)
              have f10 : x 10 = .tuple #[.agg #[.int .i64 0, .int .i64 0, .string ⟨#[]⟩], .agg #[.int .u32 0, .int .u32 0], .int .i64 (er : Int)] := hf 10 (by decide)
              have f11 : x 11 = .tuple #[.agg #[.int .i64 0, .int .i64 0, .string ⟨#[]⟩], .agg #[.int .u32 0, .int .u32 0], .int .i64 (er : Int)] := hf 11 (by decide)
              have f12 : x 12 = .agg #[.int .i64 0, .int .i64 0, .string ⟨#[]⟩] := hf 12 (by decide)
              have f13 : x 13 = .agg #[.int .u32 0, .int .u32 0] := hf 13 (by decide)
              have f14 : x 14 = .int .i64 (er : Int) := hf 14 (by decide)
              obtain ⟨k15, a15, b15, c15, f15, hk15, hb15⟩ := hf 15 (by decide)
              replace f15 : x 15 = .pointer (some ⟨k15, 0, none⟩) := f15
              obtain ⟨k16, a16, b16, f16, hk16, hb16⟩ := hf 16 (by decide)
              replace f16 : x 16 = .pointer (some ⟨k16, 0, none⟩) := f16
              have f19 : x 19 = .int .i64 (er : Int) := hf 19 (by decide)
              rw [putsA_lit _ _ [0, 1, 2, 3, 4, 5, 6, 7, 8, 9, 10, 11, 12, 13, 14, 15, 16, 17, 18, 19] ((5, 19) :: (6, 15) :: (7, 16) :: (37, 11) :: (38, 0) :: (39, 1) :: (40, 2) :: (41, 3) :: (42, 4) :: (43, 5) :: (44, 6) :: (45, 7) :: (46, 8) :: (47, 9) :: (48, 10) :: (49, 12) :: (50, 13) :: (51, 14) :: []) (by kernel_rfl)]
              simp only [setAll, ↓reduceIte, Nat.reduceAdd, Nat.reduceEqDiff]
              rw [f0, f1, f2, f3, f4, f5, f6, f7, f8, f9, f10, f11, f12, f13, f14, f15, f16, f19]
              obtain rfl : b_ = false := hpf (by decide)
              obtain rfl : c_ = false := hqf (by decide)
              obtain ⟨m15, g15, h15, hc15⟩ := hI.2.1 rfl
              obtain ⟨m16, g16, h16, hc16⟩ := hI.2.2 rfl
              rw [f15] at g15
              rw [f16] at g16
              obtain rfl : k15 = m15 := by simpa using g15
              obtain rfl : k16 = m16 := by simpa using g16
              clear hf hpf hqf f0 f1 f2 f3 f4 f5 f6 f7 f8 f9 f10 f11 f12 f13 f14 f15 f16 f19
              refine wpAny_done (by kernel_rfl) ?_ _
              refine NoPanic.normal ?_
              have HFR := Lib.hid (fr_step HT2.out.fr hI.1)
              clear hI x hb15 hb16 hc15 hc16 g15 g16
              have heb : ((er : Int) != 0) = true := by have := HE.out; simp; omega
              go_wp2_with fail
              go_ret
              exact ⟨rfl, HFR.out, fun fs e1 h => (by cases h)⟩
          · rw [if_neg (by simpa using he)] at hrs
            obtain ⟨h576, -, hp0, hp1, hc1, -⟩ := f_ok he
            have hr : tfRet e N s = .tuple #[.agg #[.int .i64 (fW (bts s) 0), .int .i64 (fW (bts s) 1), .string (s.extract 64 576)], .agg #[.int .u32 (fQ e (bts s)).1, .int .u32 (fQ e (bts s)).2], .int .i64 0] := by unfold tfRet; rw [if_pos he]
            have hxo : FxOk ⟨fW (bts s) 0, fW (bts s) 1, s.extract 64 576⟩ := ⟨hp0, hp1, hc1, by show (s.extract 64 576).size = 512; rw [ByteArray.size_extract]; omega⟩
            have htk2 : ∀ W, Calls Try.prog 56 #[.agg #[.int .u32 e.1, .int .u32 e.2], .int .u64 N, .string s] W fun e' w' => e' = .returned (.tuple #[.agg #[.int .i64 (fW (bts s) 0), .int .i64 (fW (bts s) 1), .string (s.extract 64 576)], .agg #[.int .u32 (fQ e (bts s)).1, .int .u32 (fQ e (bts s)).2], .int .i64 0]) ∧ Below W.heap.size W w' := fun W => by
              have h := HTK.out W
              rw [show ((e.1, e.2) : Int × Int) = e from rfl, hr] at h
              exact h
            have HRS3 := Lib.hid hrs
            have HFQ := Lib.hid hfq
            have HXO := Lib.hid hxo
            clear HTK hr hrs he h576 hp0 hp1 hc1 hszB hfq hxo
            generalize fW (bts s) 0 = pg at *
            generalize fW (bts s) 1 = cm at *
            generalize s.extract 64 576 = dt at *
            generalize fQ e (bts s) = Q at *
            obtain ⟨Q1, Q2⟩ := Q
            simp only at htk2
            have HTK2 := Lib.hid htk2
            clear htk2
            go_wp2_with fail
            generalize W = W9 at *
            refine wp_region_noPanic ?_
            refine wp_region_any (by kernel_rfl) ?_
            refine facts_sx [0, 1, 2, 3, 4, 5, 6, 7, 8, 9, 10, 11, 12, 13, 14, 15, 16, 17, 18, 19] (fun i => match i with | 1 => [0] | 2 => [1] | 3 => [2] | 5 => [4] | 6 => [5] | 7 => [6] | 8 => [7] | 10 => [3, 8, 9] | 11 => [10] | 12 => [11] | 13 => [11] | 14 => [11] | 17 => [15, 12] | 18 => [16, 13] | 19 => [14] | _ => []) 17 18 (fun i v W => match i with | 0 => v = lp q | 1 => v = lp q | 2 => v = .pointer (some ⟨q, 6, none⟩) | 3 => v = .agg #[.int .u32 e.1, .int .u32 e.2] | 4 => v = lp q | 5 => v = lp q | 6 => v = .pointer (some ⟨q, 1, none⟩) | 7 => v = .pointer (some ⟨q, 1, none⟩) | 8 => v = .int .u64 N | 9 => v = .string s | 10 => v = .tuple #[.agg #[.int .i64 pg, .int .i64 cm, .string dt], .agg #[.int .u32 Q1, .int .u32 Q2], .int .i64 0] | 11 => v = .tuple #[.agg #[.int .i64 pg, .int .i64 cm, .string dt], .agg #[.int .u32 Q1, .int .u32 Q2], .int .i64 0] | 12 => v = .agg #[.int .i64 pg, .int .i64 cm, .string dt] | 13 => v = .agg #[.int .u32 Q1, .int .u32 Q2] | 14 => v = .int .i64 0 | 15 => ∃ k a b c, v = .pointer (some ⟨k, 0, none⟩) ∧ W9.heap.size ≤ k ∧ Blk W k 61 #[a, b, c] | 16 => ∃ k a b, v = .pointer (some ⟨k, 0, none⟩) ∧ W9.heap.size ≤ k ∧ Blk W k 73 #[a, b] | 19 => v = .int .i64 0 | _ => True) StF (fun b c x W => Below W9.heap.size W9 W ∧ (b = false → ∃ k, x 15 = .pointer (some ⟨k, 0, none⟩) ∧ W9.heap.size ≤ k ∧ Blk W k 61 #[.int .i64 pg, .int .i64 cm, .string dt]) ∧ (c = false → ∃ k, x 16 = .pointer (some ⟨k, 0, none⟩) ∧ W9.heap.size ≤ k ∧ Blk W k 73 #[.int .u32 Q1, .int .u32 Q2])) _ _ _ 0 _ #[true, true, true, true, true, true, true, true, true, true, true, true, true, true, true, true, true, true, true, true] (fun i_ v W W' h hs => match i_, h with | 0, h => h | 1, h => h | 2, h => h | 3, h => h | 4, h => h | 5, h => h | 6, h => h | 7, h => h | 8, h => h | 9, h => h | 10, h => h | 11, h => h | 12, h => h | 13, h => h | 14, h => h | 15, ⟨k, a, b, c, h1, h2, h3⟩ => (hs.1 k a b c h3).elim fun a' h => h.elim fun b' h => h.elim fun c' h => ⟨k, a', b', c', h1, h2, h⟩ | 16, ⟨k, a, b, h1, h2, h3⟩ => (hs.2 k a b h3).elim fun a' h => h.elim fun b' h => ⟨k, a', b', h1, h2, h⟩ | 17, h => h | 18, h => h | 19, h => h | _ + 20, h => h) (by kernel_rfl) (by rfl) (fun x => ⟨(Below.refl _ _).drew, fun h => (by cases h), fun h => (by cases h)⟩) ?hstep ?hend
            case hstep =>
              intro i_ hi_ b_ c_ hbp hcq hbd hcd hbe hce x W hd hI K hK
              simp only [List.mem_cons, List.not_mem_nil, or_false] at hi_
              rcases hi_ with rfl | rfl | rfl | rfl | rfl | rfl | rfl | rfl | rfl | rfl | rfl | rfl | rfl | rfl | rfl | rfl | rfl | rfl | rfl | rfl
              · generalize hA : putsA _ _ x [0, 1, 2, 3, 4, 5, 6, 7, 8, 9, 10, 11, 12, 13, 14, 15, 16, 17, 18, 19] = A_ at *
                have e0 : A_.tmps[0]? = some (lp q) := by rw [← hA]; exact putsA_at 0 _ (by decide +kernel)
                clear hA hd
                refine wpOp_step rfl (fun K' hK' => ?_)
                go_simp
                exact hK' _ _ (hK _ _ rfl (st_same W) hI)
              · generalize hA : putsA _ _ x [0, 1, 2, 3, 4, 5, 6, 7, 8, 9, 10, 11, 12, 13, 14, 15, 16, 17, 18, 19] = A_ at *
                have e38 : A_.tmps[38]? = some (x 0) := by rw [← hA]; exact putsA_in (i := 0) 38 (by rfl) (by show (38 : Nat) < 96; decide) _ (by decide +kernel) (by decide)
                have f0 : x 0 = lp q := hd 0 (by decide)
                rw [f0] at e38
                clear hA hd
                refine wpOp_step rfl (fun K' hK' => ?_)
                go_simp
                exact hK' _ _ (hK _ _ rfl (st_same W) hI)
              · generalize hA : putsA _ _ x [0, 1, 2, 3, 4, 5, 6, 7, 8, 9, 10, 11, 12, 13, 14, 15, 16, 17, 18, 19] = A_ at *
                have e39 : A_.tmps[39]? = some (x 1) := by rw [← hA]; exact putsA_in (i := 1) 39 (by rfl) (by show (39 : Nat) < 96; decide) _ (by decide +kernel) (by decide)
                have f1 : x 1 = lp q := hd 1 (by decide)
                rw [f1] at e39
                clear hA hd
                refine wpOp_step rfl (fun K' hK' => ?_)
                go_simp
                exact hK' _ _ (hK _ _ rfl (st_same W) hI)
              · generalize hA : putsA _ _ x [0, 1, 2, 3, 4, 5, 6, 7, 8, 9, 10, 11, 12, 13, 14, 15, 16, 17, 18, 19] = A_ at *
                have e40 : A_.tmps[40]? = some (x 2) := by rw [← hA]; exact putsA_in (i := 2) 40 (by rfl) (by show (40 : Nat) < 96; decide) _ (by decide +kernel) (by decide)
                have f2 : x 2 = .pointer (some ⟨q, 6, none⟩) := hd 2 (by decide)
                rw [f2] at e40
                clear hA hd
                obtain ⟨-, -, -, -, z6, z7⟩ := tf_cells (tf_below HT2.out hI.1)
                refine wpOp_step rfl (fun K' hK' => ?_)
                go_simp
                exact hK' _ _ (hK _ _ rfl (st_same W) hI)
              · generalize hA : putsA _ _ x [0, 1, 2, 3, 4, 5, 6, 7, 8, 9, 10, 11, 12, 13, 14, 15, 16, 17, 18, 19] = A_ at *
                have e0 : A_.tmps[0]? = some (lp q) := by rw [← hA]; exact putsA_at 0 _ (by decide +kernel)
                clear hA hd
                refine wpOp_step rfl (fun K' hK' => ?_)
                go_simp
                exact hK' _ _ (hK _ _ rfl (st_same W) hI)
              · generalize hA : putsA _ _ x [0, 1, 2, 3, 4, 5, 6, 7, 8, 9, 10, 11, 12, 13, 14, 15, 16, 17, 18, 19] = A_ at *
                have e42 : A_.tmps[42]? = some (x 4) := by rw [← hA]; exact putsA_in (i := 4) 42 (by rfl) (by show (42 : Nat) < 96; decide) _ (by decide +kernel) (by decide)
                have f4 : x 4 = lp q := hd 4 (by decide)
                rw [f4] at e42
                clear hA hd
                refine wpOp_step rfl (fun K' hK' => ?_)
                go_simp
                exact hK' _ _ (hK _ _ rfl (st_same W) hI)
              · generalize hA : putsA _ _ x [0, 1, 2, 3, 4, 5, 6, 7, 8, 9, 10, 11, 12, 13, 14, 15, 16, 17, 18, 19] = A_ at *
                have e43 : A_.tmps[43]? = some (x 5) := by rw [← hA]; exact putsA_in (i := 5) 43 (by rfl) (by show (43 : Nat) < 96; decide) _ (by decide +kernel) (by decide)
                have f5 : x 5 = lp q := hd 5 (by decide)
                rw [f5] at e43
                clear hA hd
                refine wpOp_step rfl (fun K' hK' => ?_)
                go_simp
                exact hK' _ _ (hK _ _ rfl (st_same W) hI)
              · generalize hA : putsA _ _ x [0, 1, 2, 3, 4, 5, 6, 7, 8, 9, 10, 11, 12, 13, 14, 15, 16, 17, 18, 19] = A_ at *
                have e44 : A_.tmps[44]? = some (x 6) := by rw [← hA]; exact putsA_in (i := 6) 44 (by rfl) (by show (44 : Nat) < 96; decide) _ (by decide +kernel) (by decide)
                have f6 : x 6 = .pointer (some ⟨q, 1, none⟩) := hd 6 (by decide)
                rw [f6] at e44
                clear hA hd
                refine wpOp_step rfl (fun K' hK' => ?_)
                go_simp
                exact hK' _ _ (hK _ _ rfl (st_same W) hI)
              · generalize hA : putsA _ _ x [0, 1, 2, 3, 4, 5, 6, 7, 8, 9, 10, 11, 12, 13, 14, 15, 16, 17, 18, 19] = A_ at *
                have e45 : A_.tmps[45]? = some (x 7) := by rw [← hA]; exact putsA_in (i := 7) 45 (by rfl) (by show (45 : Nat) < 96; decide) _ (by decide +kernel) (by decide)
                have f7 : x 7 = .pointer (some ⟨q, 1, none⟩) := hd 7 (by decide)
                rw [f7] at e45
                clear hA hd
                obtain ⟨-, z1, -⟩ := tf_cells (tf_below HT2.out hI.1)
                refine wpOp_step rfl (fun K' hK' => ?_)
                go_simp
                exact hK' _ _ (hK _ _ rfl (st_same W) hI)
              · generalize hA : putsA _ _ x [0, 1, 2, 3, 4, 5, 6, 7, 8, 9, 10, 11, 12, 13, 14, 15, 16, 17, 18, 19] = A_ at *
                have e4 : A_.tmps[4]? = some (.string s) := by rw [← hA]; exact putsA_at 4 _ (by decide +kernel)
                clear hA hd
                refine wpOp_step rfl (fun K' hK' => ?_)
                go_simp
                exact hK' _ _ (hK _ _ rfl (st_same W) hI)
              · generalize hA : putsA _ _ x [0, 1, 2, 3, 4, 5, 6, 7, 8, 9, 10, 11, 12, 13, 14, 15, 16, 17, 18, 19] = A_ at *
                have e41 : A_.tmps[41]? = some (x 3) := by rw [← hA]; exact putsA_in (i := 3) 41 (by rfl) (by show (41 : Nat) < 96; decide) _ (by decide +kernel) (by decide)
                have f3 : x 3 = .agg #[.int .u32 e.1, .int .u32 e.2] := hd 3 (by decide)
                rw [f3] at e41
                have e46 : A_.tmps[46]? = some (x 8) := by rw [← hA]; exact putsA_in (i := 8) 46 (by rfl) (by show (46 : Nat) < 96; decide) _ (by decide +kernel) (by decide)
                have f8 : x 8 = .int .u64 N := hd 8 (by decide)
                rw [f8] at e46
                have e47 : A_.tmps[47]? = some (x 9) := by rw [← hA]; exact putsA_in (i := 9) 47 (by rfl) (by show (47 : Nat) < 96; decide) _ (by decide +kernel) (by decide)
                have f9 : x 9 = .string s := hd 9 (by decide)
                rw [f9] at e47
                clear hA hd
                refine wpOp_step rfl (fun K' hK' => ?_)
                go_simp
                refine (HTK2.out W).mono ?_
                rintro e' w6 ⟨rfl, hb6⟩
                exact hK' _ _ (hK _ _ rfl (st_below hb6) ⟨bj hI.1 hb6, fun h => (hI.2.1 h).elim fun k h => ⟨k, h.1, h.2.1, blk_step h.2.2 hb6⟩, fun h => (hI.2.2 h).elim fun k h => ⟨k, h.1, h.2.1, blk_step h.2.2 hb6⟩⟩)
              · generalize hA : putsA _ _ x [0, 1, 2, 3, 4, 5, 6, 7, 8, 9, 10, 11, 12, 13, 14, 15, 16, 17, 18, 19] = A_ at *
                have e48 : A_.tmps[48]? = some (x 10) := by rw [← hA]; exact putsA_in (i := 10) 48 (by rfl) (by show (48 : Nat) < 96; decide) _ (by decide +kernel) (by decide)
                have f10 : x 10 = .tuple #[.agg #[.int .i64 pg, .int .i64 cm, .string dt], .agg #[.int .u32 Q1, .int .u32 Q2], .int .i64 0] := hd 10 (by decide)
                rw [f10] at e48
                clear hA hd
                refine wpOp_step rfl (fun K' hK' => ?_)
                go_simp
                exact hK' _ _ (hK _ _ rfl (st_same W) hI)
              · generalize hA : putsA _ _ x [0, 1, 2, 3, 4, 5, 6, 7, 8, 9, 10, 11, 12, 13, 14, 15, 16, 17, 18, 19] = A_ at *
                have e37 : A_.tmps[37]? = some (x 11) := by rw [← hA]; exact putsA_in (i := 11) 37 (by rfl) (by show (37 : Nat) < 96; decide) _ (by decide +kernel) (by decide)
                have f11 : x 11 = .tuple #[.agg #[.int .i64 pg, .int .i64 cm, .string dt], .agg #[.int .u32 Q1, .int .u32 Q2], .int .i64 0] := hd 11 (by decide)
                rw [f11] at e37
                clear hA hd
                refine wpOp_step rfl (fun K' hK' => ?_)
                go_simp
                exact hK' _ _ (hK _ _ rfl (st_same W) hI)
              · generalize hA : putsA _ _ x [0, 1, 2, 3, 4, 5, 6, 7, 8, 9, 10, 11, 12, 13, 14, 15, 16, 17, 18, 19] = A_ at *
                have e37 : A_.tmps[37]? = some (x 11) := by rw [← hA]; exact putsA_in (i := 11) 37 (by rfl) (by show (37 : Nat) < 96; decide) _ (by decide +kernel) (by decide)
                have f11 : x 11 = .tuple #[.agg #[.int .i64 pg, .int .i64 cm, .string dt], .agg #[.int .u32 Q1, .int .u32 Q2], .int .i64 0] := hd 11 (by decide)
                rw [f11] at e37
                clear hA hd
                refine wpOp_step rfl (fun K' hK' => ?_)
                go_simp
                exact hK' _ _ (hK _ _ rfl (st_same W) hI)
              · generalize hA : putsA _ _ x [0, 1, 2, 3, 4, 5, 6, 7, 8, 9, 10, 11, 12, 13, 14, 15, 16, 17, 18, 19] = A_ at *
                have e37 : A_.tmps[37]? = some (x 11) := by rw [← hA]; exact putsA_in (i := 11) 37 (by rfl) (by show (37 : Nat) < 96; decide) _ (by decide +kernel) (by decide)
                have f11 : x 11 = .tuple #[.agg #[.int .i64 pg, .int .i64 cm, .string dt], .agg #[.int .u32 Q1, .int .u32 Q2], .int .i64 0] := hd 11 (by decide)
                rw [f11] at e37
                clear hA hd
                refine wpOp_step rfl (fun K' hK' => ?_)
                go_simp
                exact hK' _ _ (hK _ _ rfl (st_same W) hI)
              · generalize hA : putsA _ _ x [0, 1, 2, 3, 4, 5, 6, 7, 8, 9, 10, 11, 12, 13, 14, 15, 16, 17, 18, 19] = A_ at *
                clear hA hd
                obtain rfl := hbe (by decide) (by decide)
                refine wpOp_step rfl (fun K' hK' => ?_)
                go_simp
                have hb6 := allocB (w := W) (o := .cells #[.int .i64 0, .int .i64 0, .string ⟨#[]⟩] 61)
                exact hK' _ _ (hK _ _ ⟨W.heap.size, _, _, _, rfl, hI.1.size, Blk.new _ _ _⟩ (st_below hb6) ⟨bj hI.1 hb6, fun h => (by cases h), fun h => (hI.2.2 h).elim fun k h => ⟨k, h.1, h.2.1, blk_step h.2.2 hb6⟩⟩)
              · generalize hA : putsA _ _ x [0, 1, 2, 3, 4, 5, 6, 7, 8, 9, 10, 11, 12, 13, 14, 15, 16, 17, 18, 19] = A_ at *
                clear hA hd
                obtain rfl := hce (by decide) (by decide)
                refine wpOp_step rfl (fun K' hK' => ?_)
                go_simp
                have hb6 := allocB (w := W) (o := .cells #[.int .u32 0, .int .u32 0] 73)
                exact hK' _ _ (hK _ _ ⟨W.heap.size, _, _, rfl, hI.1.size, Blk.new _ _ _⟩ (st_below hb6) ⟨bj hI.1 hb6, fun h => (hI.2.1 h).elim fun k h => ⟨k, h.1, h.2.1, blk_step h.2.2 hb6⟩, fun h => (by cases h)⟩)
              · generalize hA : putsA _ _ x [0, 1, 2, 3, 4, 5, 6, 7, 8, 9, 10, 11, 12, 13, 14, 15, 16, 17, 18, 19] = A_ at *
                have e6 : A_.tmps[6]? = some (x 15) := by rw [← hA]; exact putsA_in (i := 15) 6 (by rfl) (by show (6 : Nat) < 96; decide) _ (by decide +kernel) (by decide)
                obtain ⟨k15, a15, b15, c15, f15, hk15, hb15⟩ := hd 15 (by decide)
                replace f15 : x 15 = .pointer (some ⟨k15, 0, none⟩) := f15
                rw [f15] at e6
                have e49 : A_.tmps[49]? = some (x 12) := by rw [← hA]; exact putsA_in (i := 12) 49 (by rfl) (by show (49 : Nat) < 96; decide) _ (by decide +kernel) (by decide)
                have f12 : x 12 = .agg #[.int .i64 pg, .int .i64 cm, .string dt] := hd 12 (by decide)
                rw [f12] at e49
                clear hA hd
                obtain ⟨z0, z1, z2⟩ := trip_at hb15
                have r0 := hb15.frozen 0
                have r1 := hb15.frozen 1
                have r2 := hb15.frozen 2
                refine wpOp_step rfl (fun K' hK' => ?_)
                go_simp
                exact hK' _ _ (hK undef _ trivial (st_frame hb15 _ _ _) ⟨((hI.1.setCell (p := ⟨k15, 0, none⟩) hk15 _).setCell (p := ⟨k15, 1, none⟩) hk15 _).setCell (p := ⟨k15, 2, none⟩) hk15 _, fun _ => ⟨k15, f15, hk15, ((hb15.set_ 0 _).set_ 1 _).set_ 2 _⟩, fun h => (hI.2.2 h).elim fun k h => ⟨k, h.1, h.2.1, ((h.2.2.far (p := ⟨k15, 0, none⟩) (h.2.2.ne_ hb15 (by decide)) _).far (p := ⟨k15, 1, none⟩) (h.2.2.ne_ hb15 (by decide)) _).far (p := ⟨k15, 2, none⟩) (h.2.2.ne_ hb15 (by decide)) _⟩⟩)
              · generalize hA : putsA _ _ x [0, 1, 2, 3, 4, 5, 6, 7, 8, 9, 10, 11, 12, 13, 14, 15, 16, 17, 18, 19] = A_ at *
                have e7 : A_.tmps[7]? = some (x 16) := by rw [← hA]; exact putsA_in (i := 16) 7 (by rfl) (by show (7 : Nat) < 96; decide) _ (by decide +kernel) (by decide)
                obtain ⟨k16, a16, b16, f16, hk16, hb16⟩ := hd 16 (by decide)
                replace f16 : x 16 = .pointer (some ⟨k16, 0, none⟩) := f16
                rw [f16] at e7
                have e50 : A_.tmps[50]? = some (x 13) := by rw [← hA]; exact putsA_in (i := 13) 50 (by rfl) (by show (50 : Nat) < 96; decide) _ (by decide +kernel) (by decide)
                have f13 : x 13 = .agg #[.int .u32 Q1, .int .u32 Q2] := hd 13 (by decide)
                rw [f13] at e50
                clear hA hd
                obtain ⟨z0, z1⟩ := pair_at hb16
                have r0 := hb16.frozen 0
                have r1 := hb16.frozen 1
                refine wpOp_step rfl (fun K' hK' => ?_)
                go_simp
                exact hK' _ _ (hK undef _ trivial (st_pair hb16 _ _) ⟨(hI.1.setCell (p := ⟨k16, 0, none⟩) hk16 _).setCell (p := ⟨k16, 1, none⟩) hk16 _, fun h => (hI.2.1 h).elim fun k h => ⟨k, h.1, h.2.1, (h.2.2.far (p := ⟨k16, 0, none⟩) (h.2.2.ne_ hb16 (by decide)) _).far (p := ⟨k16, 1, none⟩) (h.2.2.ne_ hb16 (by decide)) _⟩, fun _ => ⟨k16, f16, hk16, (hb16.set_ 0 _).set_ 1 _⟩⟩)
              · generalize hA : putsA _ _ x [0, 1, 2, 3, 4, 5, 6, 7, 8, 9, 10, 11, 12, 13, 14, 15, 16, 17, 18, 19] = A_ at *
                have e51 : A_.tmps[51]? = some (x 14) := by rw [← hA]; exact putsA_in (i := 14) 51 (by rfl) (by show (51 : Nat) < 96; decide) _ (by decide +kernel) (by decide)
                have f14 : x 14 = .int .i64 0 := hd 14 (by decide)
                rw [f14] at e51
                clear hA hd
                refine wpOp_step rfl (fun K' hK' => ?_)
                go_simp
                exact hK' _ _ (hK _ _ rfl (st_same W) hI)
            case hend =>
              intro x W b_ c_ hf hpf hqf hI
              have f0 : x 0 = lp q := hf 0 (by decide)
              have f1 : x 1 = lp q := hf 1 (by decide)
              have f2 : x 2 = .pointer (some ⟨q, 6, none⟩) := hf 2 (by decide)
              have f3 : x 3 = .agg #[.int .u32 e.1, .int .u32 e.2] := hf 3 (by decide)
              have f4 : x 4 = lp q := hf 4 (by decide)
              have f5 : x 5 = lp q := hf 5 (by decide)
              have f6 : x 6 = .pointer (some ⟨q, 1, none⟩) := hf 6 (by decide)
              have f7 : x 7 = .pointer (some ⟨q, 1, none⟩) := hf 7 (by decide)
              have f8 : x 8 = .int .u64 N := hf 8 (by decide)
              have f9 : x 9 = .string s := hf 9 (by decide)
              have f10 : x 10 = .tuple #[.agg #[.int .i64 pg, .int .i64 cm, .string dt], .agg #[.int .u32 Q1, .int .u32 Q2], .int .i64 0] := hf 10 (by decide)
              have f11 : x 11 = .tuple #[.agg #[.int .i64 pg, .int .i64 cm, .string dt], .agg #[.int .u32 Q1, .int .u32 Q2], .int .i64 0] := hf 11 (by decide)
              have f12 : x 12 = .agg #[.int .i64 pg, .int .i64 cm, .string dt] := hf 12 (by decide)
              have f13 : x 13 = .agg #[.int .u32 Q1, .int .u32 Q2] := hf 13 (by decide)
              have f14 : x 14 = .int .i64 0 := hf 14 (by decide)
              obtain ⟨k15, a15, b15, c15, f15, hk15, hb15⟩ := hf 15 (by decide)
              replace f15 : x 15 = .pointer (some ⟨k15, 0, none⟩) := f15
              obtain ⟨k16, a16, b16, f16, hk16, hb16⟩ := hf 16 (by decide)
              replace f16 : x 16 = .pointer (some ⟨k16, 0, none⟩) := f16
              have f19 : x 19 = .int .i64 0 := hf 19 (by decide)
              rw [putsA_lit _ _ [0, 1, 2, 3, 4, 5, 6, 7, 8, 9, 10, 11, 12, 13, 14, 15, 16, 17, 18, 19] ((5, 19) :: (6, 15) :: (7, 16) :: (37, 11) :: (38, 0) :: (39, 1) :: (40, 2) :: (41, 3) :: (42, 4) :: (43, 5) :: (44, 6) :: (45, 7) :: (46, 8) :: (47, 9) :: (48, 10) :: (49, 12) :: (50, 13) :: (51, 14) :: []) (by kernel_rfl)]
              simp only [setAll, ↓reduceIte, Nat.reduceAdd, Nat.reduceEqDiff]
              rw [f0, f1, f2, f3, f4, f5, f6, f7, f8, f9, f10, f11, f12, f13, f14, f15, f16, f19]
              obtain rfl : b_ = false := hpf (by decide)
              obtain rfl : c_ = false := hqf (by decide)
              obtain ⟨m15, g15, h15, hc15⟩ := hI.2.1 rfl
              obtain ⟨m16, g16, h16, hc16⟩ := hI.2.2 rfl
              rw [f15] at g15
              rw [f16] at g16
              obtain rfl : k15 = m15 := by simpa using g15
              obtain rfl : k16 = m16 := by simpa using g16
              clear hf hpf hqf f0 f1 f2 f3 f4 f5 f6 f7 f8 f9 f10 f11 f12 f13 f14 f15 f16 f19
              refine wpAny_done (by kernel_rfl) ?_ _
              refine NoPanic.normal ?_
              have HT3 := Lib.hid (tf_below HT2.out hI.1)
              have HK15 := Lib.hid hc15
              have HK16 := Lib.hid (And.intro hc16 hk16)
              have HW9 := Lib.hid HT2.out.fr.size
              clear hI x hb15 hb16 hc15 hc16 g15 g16 h15 h16 hk15 hk16 HT2
              go_wp2_with fail
              have y5 : W.drew.cell? ⟨q, 5, none⟩ = some (.slice A1 i c1) := (tf_cells HT3.out).2.2.2.1
              obtain ⟨t0, t1, t2⟩ := trip_at HK15.out.drew
              have HT4 := Lib.hid (show Tf w g q N F P hd i A1 c1 fs e (W.alloc (.cells #[.int .i64 (pg : Int), .int .i64 (cm : Int), .string dt] 61)).drew from tf_below (tf_below HT3.out allocB) (Below.refl _ _).drew)
              have y5a : (W.alloc (.cells #[.int .i64 (pg : Int), .int .i64 (cm : Int), .string dt] 61)).cell? ⟨q, 5, none⟩ = some (.slice A1 i c1) := (tf_cells HT4.out).2.2.2.1
              have HK4 := Lib.hid (show Blk (W.alloc (.cells #[.int .i64 (pg : Int), .int .i64 (cm : Int), .string dt] 61)).drew k16 73 #[.int .u32 Q1, .int .u32 Q2] from (blk_step HK16.out.1 allocB).drew)
              obtain ⟨i0, hvi, hz0, hz1, hz2⟩ := info_parts fr_info
              have HAP := Lib.hid (show ∀ (gB capB : Nat) (w10 : World), w10.ownsRow w.heap.size 61 3 (.slice (some ⟨gB, 0, none⟩) (i + 1) capB) (i + 1) (fxs fs ++ [.int .i64 (pg : Int), .int .i64 (cm : Int), .string dt]) → (W.alloc (.cells #[.int .i64 (pg : Int), .int .i64 (cm : Int), .string dt] 61)).drew.grownBy w10 (Value.slice A1 i c1).ownBlock → Blk w10 q 75 (rawC g N F P hd A1 i c1 e) ∧ Tf w g q N F P hd (i + 1) (some ⟨gB, 0, none⟩) capB (fs ++ [⟨pg, cm, dt⟩]) e (w10.setCell ⟨q, 5, none⟩ (.slice (some ⟨gB, 0, none⟩) (i + 1) capB)) ∧ Blk (w10.setCell ⟨q, 5, none⟩ (.slice (some ⟨gB, 0, none⟩) (i + 1) capB)) k16 73 #[.int .u32 Q1, .int .u32 Q2] from fun gB capB w10 ho hg => by
                obtain ⟨h1, h2⟩ := tf_push (x := ⟨pg, cm, dt⟩) HT4.out HQW.out ho hg HXO.out
                refine ⟨h1, h2, ?_⟩
                have hk : Blk w10 k16 73 #[.int .u32 Q1, .int .u32 Q2] := (hg.block _ HK4.out.lt (fun e => row_ne_blk HT4.out.row HK4.out (by decide) e.symm)).trans HK4.out
                exact hk.far (p := ⟨q, 5, none⟩) (show k16 ≠ q by have h1 := HK16.out.2; have h2 := HW9.out; have h3 := HQW.out; omega) _)
              have HWA := Lib.hid HT4.out.fr.size
              have hi8 : i ≤ 256 := by omega
              go_region_law (first
                | (refine step_append_lies _ (by rfl) (.tmp 58) (.tmp 60) 39 (by rfl) w.heap.size 61 i0 _ 3 32 Try.underlying39 hvi hz0 hz1 hz2 rfl (by omega) (.slice A1 i c1) i (fxs fs) (by rfl) HT4.out.row ⟨W.heap.size, 0, none⟩ 1 1 [.int .i64 (pg : Int), .int .i64 (cm : Int), .string dt] (by rfl) (by rfl) (World.news_of_block (cs := #[.int .i64 (pg : Int), .int .i64 (cm : Int), .string dt]) (t := 61) (fr := (0, 0)) (heap_alloc_new W _)) (by simp [Value.oneCell']) (by omega) (by simp only [maxLen]; omega) (by omega) HWA.out _ (by rfl) ?_; intro gB capB w10 hownB hgB hatB hltB; (have HF10 := Lib.hid (HAP.out gB capB w10 hownB hgB)); (have d5 : w10.cell? ⟨q, 5, none⟩ = some (.slice A1 i c1) := HF10.out.1.cell 5); (have r5 := HF10.out.1.frozen 5); clear hownB hgB hatB hltB))
              all_goals
                generalize w10.setCell ⟨q, 5, none⟩ (.slice (some ⟨gB, 0, none⟩) (i + 1) capB) = WY at *
                clear HAP HT4 HK4 y5 y5a t0 t1 t2 d5 r5 HT3 HK15 HK16 HWA hvi hz0 hz1 hz2
                have HTY := Lib.hid HF10.out.2.1
                obtain ⟨p0, p1⟩ := pair_at HF10.out.2.2
                obtain ⟨-, -, -, -, v6, v7⟩ := tf_cells HTY.out
                have r6 := HTY.out.blk.frozen 6
                have r7 := HTY.out.blk.frozen 7
                have HTZ := Lib.hid (tf_end HTY.out HQW.out (Q1, Q2) HFQ.out)
                clear HF10 HTY
                have HRN := Lib.hid (show RS = (frT d N (i + 1) (F - (i + 1)) (Q1, Q2)).map (fun p => ((fs ++ [⟨pg, cm, dt⟩]) ++ p.1, p.2)) from by
                  rw [HRS3.out, Option.map_map]
                  congr 1
                  funext p
                  simp)
                clear HRS3
                go_wp2_with fail
                go_roundw
                case rel => exact ⟨i + 1, _, _, _, _, by omega, by first | rfl | simp, HTZ.out, HRN.out⟩
                case measure => first | (simp [intOf]; done) | (simp [intOf]; omega)
end Go.Proofs.Ythipaabjmlgjmaa
