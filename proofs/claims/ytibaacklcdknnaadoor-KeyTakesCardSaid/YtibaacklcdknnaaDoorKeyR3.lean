/- counterfoilref08.First. Condition: the text has no more than a hundred thousand bytes. -/
import Derived.Test.YtibaacklcdknnaaDoorProg
import Derived.Test.YtibaacklcdknnaaDoorKeyMath4
import Derived.Test.YtibaacklcdknnaaDoorKeyR2
import Derived.Test.YtibaacklcdknnaaDoorKeyW
import Derived.Test.YtibaacklcdknnaaDoorRefValue2
import Derived.Deep.RegionHeld3
import Derived.Deep.QuietTactic
import Derived.BigQuiet
import Derived.Deep.RegionWith
import Derived.Deep.CutBlock
import Derived.Deep.DeepCutAuto
import Derived.Shelf.Bytes.SlSmallAll
import Derived.Outline
namespace Go.Proofs.YtibaacklcdknnaaDoor
open Go.RowKit
set_option linter.unusedVariables false
theorem unt_short {D : List Nat} (h : D.length < 2) : unt D = ([], 0) := by
  match D, h with
  | [], _ => rfl
  | [_], _ => rfl
theorem unt_end {b : List Nat} : unt (0 :: 0 :: b) = ([], 0) := by simp [unt]
theorem unt_esc {b : Nat} {r : List Nat} (h : b ≠ 0) : unt (0 :: b :: r) = (0 :: (unt r).1, 2 + (unt r).2) := by simp [unt, h]
theorem unt_char {a b : Nat} {r : List Nat} (h : a ≠ 0) : unt (a :: b :: r) = (a :: (unt (b :: r)).1, 1 + (unt (b :: r)).2) := by simp [unt, h]
/-- what First answers -/
def FirP (L : List Nat) (w : World) (e : Ending) (w' : World) : Prop := Below w.heap.size w w' ∧
  ((∃ (v : Val) (k : Nat), oneT L = some (v, k) ∧ e = .returned (.tuple #[valV v, .int .i64 (k : Nat), .bool true])) ∨ (oneT L = none ∧ e = .returned (.tuple #[valV (0, 0, ⟨#[]⟩), .int .i64 0, .bool false])))
theorem fir_no {L : List Nat} {w w' : World} (h : oneT L = none) (hb : Below w.heap.size w w') : FirP L w (.returned (.tuple #[.agg #[.int .u8 0, .int .i64 0, .string ⟨#[]⟩], .int .i64 0, .bool false])) w' := ⟨hb, .inr ⟨h, rfl⟩⟩
theorem fir_yes {L : List Nat} {w w' : World} {p q : Int} {x : ByteArray} {k : Nat} (h : oneT L = some ((p, q, x), k)) (hb : Below w.heap.size w w') : FirP L w (.returned (.tuple #[.agg #[.int .u8 p, .int .i64 q, .string x], .int .i64 (k : Nat), .bool true])) w' := ⟨hb, .inl ⟨_, k, h, rfl⟩⟩
/-- the answer's block, the value's block -/
def Fs (w : World) (x : Val) (W : World) : Prop := Blk W w.heap.size 31 #[.int .u8 0, .int .i64 0, .string ⟨#[]⟩] ∧ Blk W (w.heap.size + 1) 31 (valC x) ∧ Below w.heap.size w W
theorem chk_vals {x : Val} (h : chk x ≠ 0) : chk x = 2 ∨ chk x = 3 := by
  unfold chk at h ⊢
  split
  · exact .inl rfl
  · split
    · exact .inr rfl
    · simp_all
theorem fs_new (w : World) (x : Val) : Fs w x ((w.alloc (.cells #[.int .u8 0, .int .i64 0, .string ⟨#[]⟩] 31)).alloc (.cells (valC x) 31)) := ⟨(Blk.new _ _ _).alloc _, blk_new _ _ _ _ (by simp), hb2⟩
theorem fs_below {w W W' : World} {x : Val} (h : Fs w x W) (hb : Below W.heap.size W W') : Fs w x W' := ⟨blk_step h.1 hb, blk_step h.2.1 hb, bj h.2.2 hb⟩
theorem fs_drew {w W : World} {x : Val} (h : Fs w x W) : Fs w x W.drew := ⟨h.1.drew, h.2.1.drew, h.2.2.drew⟩
theorem fs_drewN {w W : World} {x : Val} (h : Fs w x W) (m : Nat) : Fs w x (W.drewN m) := ⟨h.1.drewN m, h.2.1.drewN m, below_drewN h.2.2 m⟩
theorem fs_call {w W : World} {x : Val} {f : FuncId} {args : Array Value} {v : Value} (h : Fs w x W) (hc : Calls Tryd.prog f args W fun e w' => e = .returned v ∧ Below W.heap.size W w') : Calls Tryd.prog f args W fun e w' => e = .returned v ∧ Fs w x w' :=
  hc.mono fun e w' he => ⟨he.1, fs_below h he.2⟩
theorem fs_S {w W : World} {p q : Int} {s : ByteArray} (h : Fs w (p, q, s) W) : W.cell? ⟨w.heap.size + 1, 0, none⟩ = some (.int .u8 p) ∧ W.cell? ⟨w.heap.size + 1, 1, none⟩ = some (.int .i64 q) ∧ W.cell? ⟨w.heap.size + 1, 2, none⟩ = some (.string s) ∧ Fs w (p, q, s) W := ⟨h.2.1.cell 0, h.2.1.cell 1, h.2.1.cell 2, h⟩
theorem fs_set3 {w W : World} {x : Val} (h : Fs w x W) (p q : Int) (s : ByteArray) : Fs w (p, q, s) (((W.setCell ⟨w.heap.size + 1, 0, none⟩ (.int .u8 p)).setCell ⟨w.heap.size + 1, 1, none⟩ (.int .i64 q)).setCell ⟨w.heap.size + 1, 2, none⟩ (.string s)) :=
  ⟨((h.1.far (by simp) _).far (by simp) _).far (by simp) _, blk3_set h.2.1 _ _ _, ((h.2.2.setCell (Nat.le_succ _) _).setCell (Nat.le_succ _) _).setCell (Nat.le_succ _) _⟩
theorem fs_set1 {w W : World} {p q p' q' : Int} {s s' : ByteArray} (h : Fs w (p, q, s) W) (i : Nat) (u : Value) (hs : (#[Value.int .u8 p, .int .i64 q, .string s] : Array Value).setIfInBounds i u = #[.int .u8 p', .int .i64 q', .string s']) : Fs w (p', q', s') (W.setCell ⟨w.heap.size + 1, i, none⟩ u) := by
  have h2 := h.2.1.set_ i u
  simp only [valC] at h2
  rw [hs] at h2
  exact ⟨h.1.far (by simp) _, h2, h.2.2.setCell (Nat.le_succ _) _⟩
/-- a row of bytes that the call owns, beside the two -/
def Fl (w : World) (k : Int) (A : Option Addr) (n c : Nat) (L : List Nat) (W : World) : Prop :=
  W.ownsRow (w.heap.size + 2) 5 1 (.slice A n c) n (vals8 L) ∧ Fs w (k, 0, ⟨#[]⟩) W ∧ w.heap.size + 2 ≤ W.heap.size ∧ n = L.length
theorem fl_alloc {w W : World} {k : Int} {A : Option Addr} {n c : Nat} {L : List Nat} (h : Fl w k A n c L W) (o : Obj) : Fl w k A n c L (W.alloc o) :=
  ⟨own_below h.1 ((Below.refl W.heap.size W).alloc (Nat.le_refl _) o), fs_below h.2.1 ((Below.refl W.heap.size W).alloc (Nat.le_refl _) o), by have := h.2.2.1; simp; omega, h.2.2.2⟩
theorem fl_grown {w W W' : World} {k : Int} {A : Option Addr} {n c : Nat} {L M : List Nat} {v : Value} {m : Nat} (h : Fl w k A n c L W) (ho : W'.ownsRow (w.heap.size + 2) 5 1 v m (vals8 M)) (hm : m = M.length) (hg : W.grownBy W' (Value.slice A n c).ownBlock) :
    ∃ A' c', v = .slice A' m c' ∧ Fl w k A' m c' M W' := by
  obtain ⟨A', c', rfl⟩ := own_form ho
  have hlt : ∀ z, (Value.slice A n c).ownBlock = some z → w.heap.size + 2 ≤ z ∧ z < W.heap.size := fun z hz => h.1.lt z hz
  refine ⟨A', c', rfl, ho, ⟨h.2.1.1.grown hg (fun e => by have := hlt _ e.symm; omega), h.2.1.2.1.grown hg (fun e => by have := hlt _ e.symm; omega), h.2.1.2.2.grown hg (by have := h.2.2.1; omega) (fun z hz => by have := hlt z hz; omega)⟩, Nat.le_trans h.2.2.1 hg.size, hm⟩
theorem fl_conv {w W : World} {k : Int} {A : Option Addr} {n c : Nat} {L : List Nat} (h : Fl w k A n c L W) :
    (convert 41 9 (.slice A n c)).run Tryd.prog W = .ok (.string (bstr L)) W := by
  obtain ⟨h1, _, _, rfl⟩ := h
  by_cases h0 : L = []
  · subst h0
    exact run_convert_bytes_zero W 41 5 Tryd.underlying41 Tryd.underlying5 A c 9 Tryd.underlying9
  · obtain ⟨g, cap, hve, hl2, _, _, hcell⟩ := cells_of_own h1 (by cases L with | nil => exact absurd rfl h0 | cons a b => simp)
    obtain ⟨rfl, rfl⟩ : A = some ⟨g, 0, none⟩ ∧ c = cap := by injection hve with e1 _ e2; exact ⟨e1, e2⟩
    have hcv := run_convert_bytes_arg (P := Tryd.prog) W 41 5 Tryd.underlying41 Tryd.underlying5 g 0 L.length c (L.map Int.ofNat) (by simp) hcell 9 Tryd.underlying9
    rw [bstr_nums] at hcv
    exact hcv
theorem fl_new (w : World) (k : Int) {W : World} (h : Fs w (k, 0, ⟨#[]⟩) W) : Fl w k none 0 0 [] W := ⟨World.ownsRow_nil _ _ _ _, h, by have := h.2.1.lt; omega, rfl⟩
theorem vals8_snoc (L : List Nat) (b : Nat) : vals8 L ++ [Value.int .u8 (b : Int)] = vals8 (L ++ [b]) := by simp [vals8]
theorem preF_3 {r : List Nat} : preF (3 :: r) = some ((2, 0, bstr (unt r).1), 1 + (unt r).2 + 2) := by unfold preF; simp
theorem preF_4 {r : List Nat} : preF (4 :: r) = some ((3, 0, bstr (unt r).1), 1 + (unt r).2 + 2) := by unfold preF; simp
set_option maxRecDepth 100000 in
set_option maxHeartbeats 8000000 in
theorem refFirst_1 (s : ByteArray) (r : List Nat) (w : World) (hsz : s.size ≤ 100000) (h : bts s = 1 :: r) :
    Calls Tryd.prog 9 #[.string s] w (FirP (bts s) w) := by
  have hl0 := bts_length s
  have h0 : 0 < s.size := by rw [h] at hl0; simp at hl0; omega
  have hb0 := byte_at s 0 h0
  rw [h] at hb0
  simp only [List.getD_cons_zero] at hb0
  have hsI : (s.size : Int) ≤ 100000 := by omega
  have hsI0 : (0 : Int) < s.size := by omega
  have hs0 : ((s.size : Int) == 0) = false := by rw [beq_eq_false_iff_ne]; omega
  have HP : Hid (preF (bts s) = some ((0, 0, ⟨#[]⟩), 1)) := Lib.hid (by rw [h]; rfl)
  obtain ⟨p, q, x, n, hv⟩ : ∃ (p q : Int) (x : ByteArray) (n : Nat), ((p, q, x), n) = (((0 : Int), (0 : Int), (⟨#[]⟩ : ByteArray)), 1) := ⟨_, _, _, _, rfl⟩
  rw [← hv] at HP
  have HV := Lib.hid hv
  clear h hl0 hv
  go_enter Tryd.func9, Tryd.ntmps9
  go_upto_block 0 with fail
  go_cut [6] (fun s6 wx => s6 = .int .i64 (n : Nat) ∧ Fs w (p, q, x) wx)
  case first =>
    have hv := HV.out
    simp only [Prod.mk.injEq] at hv
    obtain ⟨⟨rfl, rfl, rfl⟩, rfl⟩ := hv
    go_wp2_with fail
    go_meet
    exact ⟨rfl, fs_new w (0, 0, ⟨#[]⟩)⟩
  case rest =>
    clear HV
    obtain ⟨rfl, hf⟩ := hcut
    have hfit := preF_fits (bts_lt s) HP.out
    have hck := fun W (h : Fs w (p, q, x) W) => fs_call h (refCheck_any (p, q, x) W hfit)
    have hs := fs_drew hf
    obtain ⟨y0, y1, y2, _⟩ := fs_S hf
    have hlen := bts_length s
    rcases oneT_test (bts_lt s) HP.out with ⟨ho, hk, hc, he⟩ | ⟨ho, hw⟩
    · have HO := Lib.hid ho
      rw [hlen] at hk
      have hone := fun W (h : Fs w (p, q, x) W) => fs_call h (refOne_any (p, q, x) W hfit hc)
      rw [he, ← cutl_bstr] at hone
      rw [hc] at hck
      have HCK := Lib.hid hck
      have HON := Lib.hid hone
      have k1 : (n : Int) ≤ s.size := by omega
      have k0 : (0 : Int) ≤ n := by omega
      have kd : decide (s.size < n) = false := decide_eq_false (by omega)
      have ke : decide ((s.size : Int) < n) = false := decide_eq_false (by omega)
      clear hck hone ho hc he hk hf hfit hlen HP
      go_wp2_with fail
      go_region_held3 (fun W => W.cell? ⟨w.heap.size + 1, 0, none⟩ = some (.int .u8 p) ∧ W.cell? ⟨w.heap.size + 1, 1, none⟩ = some (.int .i64 q) ∧ W.cell? ⟨w.heap.size + 1, 2, none⟩ = some (.string x) ∧ Fs w (p, q, x) W)
        (exact fs_S (by assumption))
        (first
          | (go_at_call 15; (with_reducible refine (HCK.out _ (by assumption)).mono ?_); rintro e w3 ⟨rfl, hs⟩)
          | (go_at_call 16; (with_reducible refine (HON.out _ (by assumption)).mono ?_); rintro e w4 ⟨rfl, hs⟩))
      all_goals
        obtain ⟨d0, d1, d2, g0, g1, g2⟩ := cell3 hs.1
        obtain ⟨x0, x1, x2, _⟩ := fs_S hs
        go_wp2
        obtain ⟨e0, e1, e2, _, _, _⟩ := cell3 (blk3_set hs.1 (.int .u8 p) (.int .i64 q) (.string x))
        exact bodyPost_ret (v := .tuple #[.agg #[.int .u8 p, .int .i64 q, .string x], .int .i64 (n : Nat), .bool true]) (by simp [results, Tryd.results9, go_sem, e0, e1, e2]) rfl (fir_yes HO.out (below3_set hs.2.2 _ _ _))
    · have HO := Lib.hid ho
      by_cases hk : s.size < n
      · have k1 : (s.size : Int) < n := by omega
        have kd : decide (s.size < n) = true := decide_eq_true hk
        have ke : decide ((s.size : Int) < n) = true := decide_eq_true k1
        have hs := hf
        clear hck ho hw hf hfit hlen HP
        go_wp2_with fail
        go_quiet (fail)
        all_goals
          obtain ⟨d0, d1, d2, g0, g1, g2⟩ := cell3 hs.1
          obtain ⟨x0, x1, x2, _⟩ := fs_S hs
          go_wp2
          replace hs := fs_drewN hs nq
          obtain ⟨e0, e1, e2, _, _, _⟩ := cell3 (blk3_set hs.1 (.int .u8 0) (.int .i64 0) (.string ⟨#[]⟩))
          exact bodyPost_ret (v := .tuple #[.agg #[.int .u8 0, .int .i64 0, .string ⟨#[]⟩], .int .i64 0, .bool false]) (by simp [results, Tryd.results9, go_sem, e0, e1, e2]) rfl (fir_no HO.out (below3_set hs.2.2 _ _ _))
      · have k1 : (n : Int) ≤ s.size := by omega
        have k0 : (0 : Int) ≤ n := by omega
        have kd : decide (s.size < n) = false := decide_eq_false (by omega)
        have ke : decide ((s.size : Int) < n) = false := decide_eq_false (by omega)
        by_cases hc : chk (p, q, x) = 0
        · have hone := fun W (h : Fs w (p, q, x) W) => fs_call h (refOne_any (p, q, x) W hfit hc)
          have hne : bstr (oneK (p, q, x)) ≠ s.extract 0 n := fun e => by
            rcases hw with h | h | h
            · rw [hlen] at h; omega
            · exact h hc
            · apply h
              rw [cutl_bstr] at e
              have e2 := congrArg bts e
              rw [bts_bstr _ (oneK_lt hfit.1 (chk_of hc).1), bts_bstr _ (fun y hy => bts_lt s y (List.mem_of_mem_take hy))] at e2
              exact e2
          have hnl := toList_ne (S := bstr (oneK (p, q, x))) (T := s.extract 0 n) (fun e => hne e.symm)
          generalize bstr (oneK (p, q, x)) = X at *
          rw [hc] at hck
          have HCK := Lib.hid hck
          have HON := Lib.hid hone
          clear hck hone ho hw hk hf hfit hlen hne hc HP
          go_wp2_with fail
          go_region_held3 (fun W => W.cell? ⟨w.heap.size + 1, 0, none⟩ = some (.int .u8 p) ∧ W.cell? ⟨w.heap.size + 1, 1, none⟩ = some (.int .i64 q) ∧ W.cell? ⟨w.heap.size + 1, 2, none⟩ = some (.string x) ∧ Fs w (p, q, x) W)
            (exact fs_S (by assumption))
            (first
              | (go_at_call 15; (with_reducible refine (HCK.out _ (by assumption)).mono ?_); rintro e w3 ⟨rfl, hs⟩)
              | (go_at_call 16; (with_reducible refine (HON.out _ (by assumption)).mono ?_); rintro e w4 ⟨rfl, hs⟩))
          all_goals
            obtain ⟨d0, d1, d2, g0, g1, g2⟩ := cell3 hs.1
            obtain ⟨x0, x1, x2, _⟩ := fs_S hs
            go_wp2
            obtain ⟨e0, e1, e2, _, _, _⟩ := cell3 (blk3_set hs.1 (.int .u8 0) (.int .i64 0) (.string ⟨#[]⟩))
            exact bodyPost_ret (v := .tuple #[.agg #[.int .u8 0, .int .i64 0, .string ⟨#[]⟩], .int .i64 0, .bool false]) (by simp [results, Tryd.results9, go_sem, e0, e1, e2]) rfl (fir_no HO.out (below3_set hs.2.2 _ _ _))
        · have hE : (chk (p, q, x) != 0) = true := by rw [bne_iff_ne]; exact hc
          generalize chk (p, q, x) = E at *
          have HCK := Lib.hid hck
          clear hck ho hw hk hf hfit hlen hc HP
          go_wp2_with fail
          first
            | (go_region_with ((go_at_call 15; (with_reducible refine (HCK.out _ (by first | exact hs | assumption)).mono ?_); rintro e w3 ⟨rfl, hs⟩)))
            | fail
          all_goals
            obtain ⟨d0, d1, d2, g0, g1, g2⟩ := cell3 hs.1
            obtain ⟨x0, x1, x2, _⟩ := fs_S hs
            go_wp2
            obtain ⟨e0, e1, e2, _, _, _⟩ := cell3 (blk3_set hs.1 (.int .u8 0) (.int .i64 0) (.string ⟨#[]⟩))
            exact bodyPost_ret (v := .tuple #[.agg #[.int .u8 0, .int .i64 0, .string ⟨#[]⟩], .int .i64 0, .bool false]) (by simp [results, Tryd.results9, go_sem, e0, e1, e2]) rfl (fir_no HO.out (below3_set hs.2.2 _ _ _))
set_option maxRecDepth 100000 in
set_option maxHeartbeats 8000000 in
theorem refFirst_bad (s : ByteArray) (c : Nat) (r : List Nat) (w : World) (hsz : s.size ≤ 100000) (h : bts s = c :: r) (hc : c = 0 ∨ 5 ≤ c) :
    Calls Tryd.prog 9 #[.string s] w (FirP (bts s) w) := by
  have hl0 := bts_length s
  have h0 : 0 < s.size := by rw [h] at hl0; simp at hl0; omega
  have hb0 := byte_at s 0 h0
  rw [h] at hb0
  simp only [List.getD_cons_zero] at hb0
  have hsI : (s.size : Int) ≤ 100000 := by omega
  have hsI0 : (0 : Int) < s.size := by omega
  have hs0 : ((s.size : Int) == 0) = false := by rw [beq_eq_false_iff_ne]; omega
  have h256 := bts_lt s c (by rw [h]; simp)
  have HO := Lib.hid (show oneT (bts s) = none by rw [h]; unfold oneT; simp only; rw [if_neg (by omega), if_neg (by omega), if_neg (by omega)])
  have c1 := beq_no (a := (c : Int)) (b := 1) (by omega)
  have c2 := beq_no (a := (c : Int)) (b := 2) (by omega)
  have c3 := beq_no (a := (c : Int)) (b := 3) (by omega)
  have c4 := beq_no (a := (c : Int)) (b := 4) (by omega)
  clear h hl0 hc
  go_enter Tryd.func9, Tryd.ntmps9
  go_wp2
  have hs := fs_new w (0, 0, ⟨#[]⟩)
  first
    | (obtain ⟨e0, e1, e2, _, _, _⟩ := cell3 (blk3_set hs.1 (.int .u8 0) (.int .i64 0) (.string ⟨#[]⟩)); exact bodyPost_ret (v := .tuple #[.agg #[.int .u8 0, .int .i64 0, .string ⟨#[]⟩], .int .i64 0, .bool false]) (by simp [results, Tryd.results9, go_sem, e0, e1, e2]) rfl (fir_no HO.out (below3_set hs.2.2 _ _ _)))
    | (obtain ⟨e0, e1, e2, _, _, _⟩ := cell3 hs.1; exact bodyPost_ret (v := .tuple #[.agg #[.int .u8 0, .int .i64 0, .string ⟨#[]⟩], .int .i64 0, .bool false]) (by simp [results, Tryd.results9, go_sem, e0, e1, e2]) rfl (fir_no HO.out hs.2.2))
set_option maxRecDepth 100000 in
set_option maxHeartbeats 8000000 in
theorem refFirst_nil (w : World) : Calls Tryd.prog 9 #[.string ⟨#[]⟩] w (FirP [] w) := by
  have HO := Lib.hid (show oneT [] = none from rfl)
  go_enter Tryd.func9, Tryd.ntmps9
  go_wp2
  obtain ⟨e0, e1, e2, _, _, _⟩ := cell3 (Blk.new w 31 #[.int .u8 0, .int .i64 0, .string ⟨#[]⟩])
  exact bodyPost_ret (v := .tuple #[.agg #[.int .u8 0, .int .i64 0, .string ⟨#[]⟩], .int .i64 0, .bool false]) (by simp [results, Tryd.results9, go_sem, e0, e1, e2]) rfl (fir_no HO.out one_alloc)
end Go.Proofs.YtibaacklcdknnaaDoor
