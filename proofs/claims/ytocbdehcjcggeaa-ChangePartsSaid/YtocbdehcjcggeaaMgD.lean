/- Layer 22: a change taken, Take, Same. Conditions: those of each lemma. -/
import Derived.Test.YtocbdehcjcggeaaMgC
import Derived.Test.YtocbdehcjcggeaaFactsSw
import Derived.Laws.EntriesVeiled
import Derived.Test.YtocbdehcjcggeaaRowSame
namespace Go.Proofs.Ytocbdehcjcggeaa
open Go.RowKit Go
set_option linter.unusedVariables false
set_option linter.unusedSimpArgs false
/-- in the midst of a change's taking: the box, the answer so far -/
structure Cm (w : World) (g : Nat) (x : Cg) (L : List Nat) (b : Bool) (W : World) : Prop where
  rd : Rd W g L b
  bx : Bx W w.heap.size g
  blk : Blk W (w.heap.size + 1) 33 (cgC x)
  bt : Bt g w W
  lt : g < w.heap.size
abbrev cgT (T : ByteArray) : Cg := ⟨T, none, 0, [], none, 0, [], none, 0, []⟩
theorem cm_new {w : World} {g : Nat} {L : List Nat} {b : Bool} (h : Rd w g L b) : Cm w g (cgT ⟨#[]⟩) L b ((w.alloc (.cells #[.pointer (some ⟨g, 0, none⟩)] 102)).alloc (.cells #[.string ⟨#[]⟩, .slice none 0 0, .slice none 0 0, .slice none 0 0] 33)) := by
  have hg := h.elim fun x hx => hx.2.2.lt
  have h1 := one_allocC (w := w) (o := .cells #[.pointer (some ⟨g, 0, none⟩)] 102)
  have h2 := one_allocC (w := w.alloc (.cells #[.pointer (some ⟨g, 0, none⟩)] 102)) (o := .cells #[.string ⟨#[]⟩, .slice none 0 0, .slice none 0 0, .slice none 0 0] 33)
  have hq : Bx (w.alloc (.cells #[.pointer (some ⟨g, 0, none⟩)] 102)) w.heap.size g := Blk.new _ _ _
  refine ⟨rd_step (rd_step h h1) h2, hq.below h2 hq.lt, ?_, bt_trans (bt_of h1) (bt_of h2), hg⟩
  have := Blk.new (w.alloc (.cells #[.pointer (some ⟨g, 0, none⟩)] 102)) 33 #[.string ⟨#[]⟩, .slice none 0 0, .slice none 0 0, .slice none 0 0]
  have hs : (w.alloc (.cells #[.pointer (some ⟨g, 0, none⟩)] 102)).heap.size = w.heap.size + 1 := by simp
  rw [hs] at this
  exact this
theorem cm_bt {w W W' : World} {g : Nat} {x : Cg} {L L' : List Nat} {b b' : Bool} (h : Cm w g x L b W) (hr : Rd W' g L' b') (hb : Bt g W W') : Cm w g x L' b' W' :=
  ⟨hr, bx_bt h.bx hb (by have := h.lt; omega), bt_blk hb h.blk (by have := h.lt; omega), bt_trans h.bt hb, h.lt⟩
theorem cm_step {w W W' : World} {g : Nat} {x : Cg} {L : List Nat} {b : Bool} (h : Cm w g x L b W) (hb : Below W.heap.size W W') : Cm w g x L b W' := cm_bt h (rd_step h.rd hb) (bt_of hb)
theorem cm_cells {w W : World} {g : Nat} {x : Cg} {L : List Nat} {b : Bool} (h : Cm w g x L b W) : W.cell? ⟨w.heap.size, 0, none⟩ = some (.pointer (some ⟨g, 0, none⟩)) ∧ W.cell? ⟨w.heap.size + 1, 0, none⟩ = some (.string x.t) ∧ W.cell? ⟨w.heap.size + 1, 1, none⟩ = some (.slice x.kA x.k.length x.kc) ∧ W.cell? ⟨w.heap.size + 1, 2, none⟩ = some (.slice x.oA x.o.length x.oc) ∧ W.cell? ⟨w.heap.size + 1, 3, none⟩ = some (.slice x.nA x.n.length x.nc) :=
  ⟨h.bx.cell 0, h.blk.cell 0, h.blk.cell 1, h.blk.cell 2, h.blk.cell 3⟩
theorem cm_fr {w W : World} {g : Nat} {x : Cg} {L : List Nat} {b : Bool} (h : Cm w g x L b W) : W.frozen? ⟨w.heap.size + 1, 0, none⟩ = false ∧ W.frozen? ⟨w.heap.size + 1, 1, none⟩ = false ∧ W.frozen? ⟨w.heap.size + 1, 2, none⟩ = false ∧ W.frozen? ⟨w.heap.size + 1, 3, none⟩ = false ∧ W.frozen? ⟨g, 1, none⟩ = false :=
  ⟨h.blk.frozen 0, h.blk.frozen 1, h.blk.frozen 2, h.blk.frozen 3, h.rd.elim fun y hy => hy.2.2.frozen 1⟩
theorem cm_set {w W : World} {g i : Nat} {x x' : Cg} {L : List Nat} {b : Bool} {u : Value} (h : Cm w g x L b W) (hx : (cgC x).setIfInBounds i u = cgC x') : Cm w g x' L b (W.setCell ⟨w.heap.size + 1, i, none⟩ u) := by
  have hl := h.lt
  refine ⟨h.rd.elim fun y hy => ⟨y, hy.1, hy.2.1, hy.2.2.far (p := ⟨w.heap.size + 1, i, none⟩) (by show g ≠ w.heap.size + 1; omega) u⟩, Blk.far (p := ⟨w.heap.size + 1, i, none⟩) h.bx (by show w.heap.size ≠ w.heap.size + 1; omega) u, ?_, bt_far h.bt (p := ⟨w.heap.size + 1, i, none⟩) (by show w.heap.size ≤ w.heap.size + 1; omega) u, hl⟩
  have := h.blk.set_ i u
  rw [hx] at this
  exact this
theorem cm_rd {w W : World} {g : Nat} {x : Cg} {L : List Nat} {b : Bool} (h : Cm w g x L b W) : W.cell? ⟨g, 1, none⟩ = some (.bool b) := h.rd.elim fun y hy => hy.2.2.cell 1
theorem cm_vals {w W : World} {g B i : Nat} {x : Cg} {L : List Nat} {b : Bool} {A : Option Addr} {l : List Val} {u : Value} (h : Cm w g x L b W) (hv : Vals W B A l) : Vals (W.setCell ⟨w.heap.size + 1, i, none⟩ u) B A l :=
  vals_nv hv (nv_cg h.blk) (fun k _ hk => Below.heap_setCell _ _ _ _ hk)
theorem cm_valb {w W W' : World} {g B : Nat} {x : Cg} {L : List Nat} {b : Bool} {A : Option Addr} {l : List Val} (h : Cm w g x L b W) (hv : Vals W B A l) (hB : B ≤ W.heap.size) (hb : Bt g W W') : Vals W' B A l := vals_bt hv h.rd hB hb
theorem cm_far {w W : World} {g i k : Nat} {x : Cg} {L : List Nat} {b : Bool} {u : Value} (h : Cm w g x L b W) (hk : w.heap.size + 1 < k) : Cm w g x L b (W.setCell ⟨k, i, none⟩ u) := by
  have hl := h.lt
  exact ⟨h.rd.elim fun y hy => ⟨y, hy.1, hy.2.1, hy.2.2.far (p := ⟨k, i, none⟩) (by show g ≠ k; omega) u⟩, Blk.far (p := ⟨k, i, none⟩) h.bx (by show w.heap.size ≠ k; omega) u, h.blk.far (p := ⟨k, i, none⟩) (by show w.heap.size + 1 ≠ k; omega) u, bt_far h.bt (p := ⟨k, i, none⟩) (by show w.heap.size ≤ k; omega) u, hl⟩
theorem cm_sub {w W W' : World} {g k : Nat} {x : Cg} {L : List Nat} {b : Bool} (h : Cm w g x L b W) (hb : Bt k W W') (hk : w.heap.size + 1 < k) : Cm w g x L b W' := by
  have hl := h.lt
  exact ⟨rd_bt h.rd hb (by omega), bt_blk hb h.bx (by omega), bt_blk hb h.blk (by omega), bt_sub h.bt hb (by omega), hl⟩
theorem cm_well {w W : World} {g : Nat} {x : Cg} {L : List Nat} {b : Bool} (b' : Bool) (h : Cm w g x L b W) : Cm w g x L b' (W.setCell ⟨g, 1, none⟩ (.bool b')) :=
  cm_bt h (h.rd.elim fun y hy => ⟨y, hy.1, hy.2.1, hy.2.2.set_ 1 _⟩) (bt_set _)
theorem texP_of {L : List Nat} {b : Bool} {n : Nat} (hlt : ∀ y ∈ L, y < 256) (hl : L.length ≤ 1000000000) : TexP L b n (txF L n b).1 (txF L n b).2.1 (txF L n b).2.2 := by
  by_cases hgt : L.length < n
  · have htx : txF L n b = (⟨#[]⟩, L, false) := by unfold txF; rw [if_pos hgt]
    rw [htx]
    exact ⟨Nat.le_refl _, by show (0 : Nat) ≤ 1000000000; omega, fun h => (by cases h), fun _ S R hS hL => absurd (congrArg List.length hL) (by rw [List.length_append]; omega), .inr ⟨rfl, rfl, rfl, hgt⟩⟩
  · have htx : txF L n b = (bstr (L.take n), L.drop n, b) := by unfold txF; rw [if_neg hgt]
    have hbs : bts (bstr (L.take n)) = L.take n := bts_bstr _ (fun y hy => hlt y (List.mem_of_mem_take hy))
    have hsz : (bstr (L.take n)).size = n := by rw [bstr_size, List.length_take]; omega
    rw [htx]
    refine ⟨by show (L.drop n).length ≤ _; rw [List.length_drop]; omega, by show (bstr (L.take n)).size ≤ _; omega, fun h => ⟨h, hsz, ?_⟩, fun hb S R hS hL => ?_, .inl ⟨hsz, ?_, rfl⟩⟩
    · show L = bts (bstr (L.take n)) ++ L.drop n
      rw [hbs, List.take_append_drop]
    · show bts (bstr (L.take n)) = S ∧ L.drop n = R ∧ b = true
      rw [hbs, hL, ← hS, List.take_left, List.drop_left]
      exact ⟨rfl, rfl, hb⟩
    · show L = bts (bstr (L.take n)) ++ L.drop n
      rw [hbs, List.take_append_drop]
def CgX (W : World) (y : Cg) : Prop := CgIn W W.heap.size y ∧ CgTy W y
theorem cm_valT {w W : World} {g i : Nat} {x : Cg} {L : List Nat} {b : Bool} {A : Option Addr} {l : List Val} {u : Value} (h : Cm w g x L b W) (hv : ValT W A l) : ValT (W.setCell ⟨w.heap.size + 1, i, none⟩ u) A l := by
  rcases hv with hv | ⟨bb, o, cs, hA, hblk⟩
  · exact .inl hv
  · have hne : bb ≠ w.heap.size + 1 := by
      intro e
      have hk := h.blk
      unfold Blk at hblk hk
      rw [e, hk] at hblk
      simp only [Option.some.injEq, Obj.cells.injEq] at hblk
      exact absurd hblk.2.1 (by decide)
    exact .inr ⟨bb, o, cs, hA, hblk.far (p := ⟨w.heap.size + 1, i, none⟩) hne u⟩
theorem cm_inb {w W W' : World} {g : Nat} {x y : Cg} {L : List Nat} {b : Bool} (h : Cm w g x L b W) (hv : CgX W y) (hb : Bt g W W') : CgX W' y :=
  ⟨cgIn_mono ⟨cm_valb h hv.1.1 (Nat.le_refl _) hb, cm_valb h hv.1.2.1 (Nat.le_refl _) hb, cm_valb h hv.1.2.2 (Nat.le_refl _) hb⟩ hb.size, valT_bt hv.2.1 h.rd hb, valT_bt hv.2.2.1 h.rd hb, valT_bt hv.2.2.2 h.rd hb⟩
theorem cm_ins {w W : World} {g i : Nat} {x y : Cg} {L : List Nat} {b : Bool} {u : Value} (h : Cm w g x L b W) (hv : CgX W y) : CgX (W.setCell ⟨w.heap.size + 1, i, none⟩ u) y :=
  ⟨cgIn_mono ⟨cm_vals h hv.1.1, cm_vals h hv.1.2.1, cm_vals h hv.1.2.2⟩ (by simp [World.setCell]), cm_valT h hv.2.1, cm_valT h hv.2.2.1, cm_valT h hv.2.2.2⟩
/-- the answer is copied onto itself -/
theorem cm_copy {w W : World} {g : Nat} {x : Cg} {L : List Nat} {b : Bool} (h : Cm w g x L b W) (hv : CgX W x) : Cm w g x L b ((((W.setCell ⟨w.heap.size + 1, 0, none⟩ (.string x.t)).setCell ⟨w.heap.size + 1, 1, none⟩ (.slice x.kA x.k.length x.kc)).setCell ⟨w.heap.size + 1, 2, none⟩ (.slice x.oA x.o.length x.oc)).setCell ⟨w.heap.size + 1, 3, none⟩ (.slice x.nA x.n.length x.nc)) ∧ CgX ((((W.setCell ⟨w.heap.size + 1, 0, none⟩ (.string x.t)).setCell ⟨w.heap.size + 1, 1, none⟩ (.slice x.kA x.k.length x.kc)).setCell ⟨w.heap.size + 1, 2, none⟩ (.slice x.oA x.o.length x.oc)).setCell ⟨w.heap.size + 1, 3, none⟩ (.slice x.nA x.n.length x.nc)) x := by
  have h0 := cm_set h (i := 0) (u := .string x.t) (x' := x) rfl
  have v0 := cm_ins (i := 0) (u := .string x.t) h hv
  have h1 := cm_set h0 (i := 1) (u := .slice x.kA x.k.length x.kc) (x' := x) rfl
  have v1 := cm_ins (i := 1) (u := .slice x.kA x.k.length x.kc) h0 v0
  have h2 := cm_set h1 (i := 2) (u := .slice x.oA x.o.length x.oc) (x' := x) rfl
  have v2 := cm_ins (i := 2) (u := .slice x.oA x.o.length x.oc) h1 v1
  exact ⟨cm_set h2 (i := 3) (u := .slice x.nA x.n.length x.nc) (x' := x) rfl, cm_ins (i := 3) (u := .slice x.nA x.n.length x.nc) h2 v2⟩
/-- what may be seen of whether all is well -/
def Wk (ba b1 b2 bk : Bool) : Prop := bk = ba ∨ bk = b1 ∨ bk = b2
def F26 (w : World) (g n1 : Nat) (s2 : ByteArray) (ba b1 b2 : Bool) : Nat → Value → World → Prop
  | 2, v, _ => v = .int .u64 (n1 : Nat)
  | 3, v, _ => v = .string s2
  | 6, v, _ => v = .pointer (some ⟨g, 1, none⟩)
  | 7, v, _ => ∃ bk, v = .bool bk ∧ Wk ba b1 b2 bk
  | 8, v, _ => ∃ bk, v = .agg #[.string s2, .bool bk] ∧ Wk ba b1 b2 bk
  | 9, v, W => ∃ k, v = .pointer (some ⟨k, 0, none⟩) ∧ w.heap.size + 1 < k ∧ Blk W k 75 #[.string ⟨#[]⟩, .bool false]
  | _, v, _ => v = .pointer (some ⟨g, 0, none⟩)
theorem f26_st {w : World} {g n1 : Nat} {s2 : ByteArray} {ba b1 b2 : Bool} (hg : g < w.heap.size) : ∀ i v W W', F26 w g n1 s2 ba b1 b2 i v W → Bt g W W' → F26 w g n1 s2 ba b1 b2 i v W'
  | 0, _, _, _, h, _ => h
  | 1, _, _, _, h, _ => h
  | 2, _, _, _, h, _ => h
  | 3, _, _, _, h, _ => h
  | 4, _, _, _, h, _ => h
  | 5, _, _, _, h, _ => h
  | 6, _, _, _, h, _ => h
  | 7, _, _, _, h, _ => h
  | 8, _, _, _, h, _ => h
  | 9, _, _, _, ⟨k, h1, h2, h3⟩, hb => ⟨k, h1, h2, bt_blk hb h3 (by omega)⟩
  | _ + 10, _, _, _, h, _ => h
def I26 (w : World) (g : Nat) (x : Cg) (La L1 L2 : List Nat) (ba b1 b2 : Bool) (b c : Bool) (W : World) : Prop := (b = true → c = true) ∧ Cm w g x (if b then La else if c then L1 else L2) (if b then ba else if c then b1 else b2) W
theorem i26_wk {b c ba b1 b2 : Bool} : Wk ba b1 b2 (if b then ba else if c then b1 else b2) := by
  cases b <;> cases c <;> simp [Wk]
set_option maxRecDepth 100000 in
set_option maxHeartbeats 16000000 in
theorem rchange_any (g : Nat) (L : List Nat) (b : Bool) (w : World) (h : Rd w g L b) :
    Calls Try.prog 41 #[.pointer (some ⟨g, 0, none⟩)] w (ChaQ g L b w) := by
  have HC0 := Lib.hid (cm_new h)
  clear h
  go_enter Try.func41, Try.ntmps41
  go_wp2_with fail
  refine (rrow_any g w.heap.size L b _ HC0.out.rd HC0.out.bx).mono ?_
  rintro e w1 ⟨A1, n1, c1, lt, La, ba, rfl, hv1, hn1, h161, hf1, hp1, hr1, hbt1, -⟩
  have HC1 := Lib.hid (cm_bt HC0.out hr1 hbt1)
  have HV1 := Lib.hid hv1
  have HP1 := Lib.hid hp1
  have HF1 := Lib.hid hf1
  clear hr1 hbt1 hp1 hf1 hv1 HC0
  subst hn1
  have hway : (∃ vq vs, lt = [(2, vq, vs)]) ∨ (∃ vp vq vs, lt = [(vp, vq, vs)] ∧ vp ≠ 2) ∨ lt.length ≠ 1 := by
    by_cases hl1 : lt.length = 1
    · obtain ⟨⟨vp, vq, vs⟩, rfl⟩ : ∃ v, lt = [v] := match lt, hl1 with | [v], _ => ⟨v, rfl⟩
      by_cases hv2 : vp = 2
      · exact .inl ⟨vq, vs, by rw [hv2]⟩
      · exact .inr (.inl ⟨vp, vq, vs, rfl, hv2⟩)
    · exact .inr (.inr hl1)
  rcases hway with ⟨vq, vs, rfl⟩ | ⟨vp, vq, vs, rfl, hv2⟩ | hl1
  case' inl =>
    obtain ⟨rb, ro, rfl, hrl, hrc⟩ := vals_get HV1.out (by simp)
    obtain ⟨r0, r1, r2⟩ := hrc 0 _ rfl
    rw [Nat.zero_mul, Nat.add_zero] at r0 r1 r2
    simp only at r0 r1 r2
    obtain ⟨f0, -, -, -, -⟩ := cm_fr HC1.out
    obtain ⟨-, d0, -, -, -⟩ := cm_cells HC1.out
    simp only at d0
    obtain ⟨T, hT⟩ : ∃ T, T = vs := ⟨_, rfl⟩
    have HT := Lib.hid (show TabP [(2, vq, vs)] T from .inl ⟨_, rfl, rfl, hT⟩)
    have HC2 := Lib.hid (show Cm w g (cgT T) La ba _ from cm_set HC1.out (i := 0) (u := .string vs) (x' := cgT T) (by rw [hT]; rfl))
    clear hrc hrl hT
    go_wp2_with fail
    generalize w1.setCell ⟨w.heap.size + 1, 0, none⟩ (.string vs) = W2 at *
    clear r0 r1 r2 f0 d0
  case' inr.inl =>
    obtain ⟨rb, ro, rfl, hrl, hrc⟩ := vals_get HV1.out (by simp)
    obtain ⟨r0, r1, r2⟩ := hrc 0 _ rfl
    rw [Nat.zero_mul, Nat.add_zero] at r0 r1 r2
    simp only at r0 r1 r2
    have hv2b : (vp == 2) = false := by rw [beq_eq_false_iff_ne]; exact hv2
    obtain ⟨T, hT⟩ : ∃ T, T = (⟨#[]⟩ : ByteArray) := ⟨_, rfl⟩
    have HT := Lib.hid (show TabP [(vp, vq, vs)] T from .inr ⟨hT, fun ⟨y, hy, hy2⟩ => hv2 (by rw [← (List.cons.inj hy).1] at hy2; exact hy2)⟩)
    have HC2 := Lib.hid (show Cm w g (cgT T) La ba w1 from by rw [hT]; exact HC1.out)
    clear hrc hrl hT
    go_wp2_with fail
    generalize w1 = W2 at *
    clear r0 r1 r2
  case' inr.inr =>
    obtain ⟨T, hT⟩ : ∃ T, T = (⟨#[]⟩ : ByteArray) := ⟨_, rfl⟩
    have HT := Lib.hid (show TabP lt T from .inr ⟨hT, fun ⟨y, hy, hy2⟩ => hl1 (by rw [hy]; rfl)⟩)
    have HC2 := Lib.hid (show Cm w g (cgT T) La ba w1 from by rw [hT]; exact HC1.out)
    have hl1I : ¬ ((lt.length : Int) = 1) := by omega
    clear h161 hT
    go_wp2_with fail
    generalize w1 = W2 at *
  all_goals
    obtain ⟨n1, hn1⟩ : ∃ n1, (takeS La).1 = n1 := ⟨_, rfl⟩
    obtain ⟨L1, hL1⟩ : ∃ L1, La.drop (takeS La).2.1 = L1 := ⟨_, rfl⟩
    obtain ⟨b1, hb1⟩ : ∃ b1, (ba && decide ((takeS La).2.2 = 0)) = b1 := ⟨_, rfl⟩
    have hnp := numP_of (b := ba) (rd_lt HC2.out.rd)
    rw [hn1, hL1, hb1] at hnp
    have HNUM := Lib.hid (show ∀ W, Rd W g La ba → Calls Try.prog 40 #[.pointer (some ⟨g, 0, none⟩)] W fun e w' => e = .returned (.int .u64 (n1 : Nat)) ∧ Rd w' g L1 b1 ∧ Bt g W w' from fun W hr => by
      have := rnumber_det g La ba W hr
      rw [hn1, hL1, hb1] at this
      exact this)
    obtain ⟨s2, hs2⟩ : ∃ s2, (txF L1 n1 b1).1 = s2 := ⟨_, rfl⟩
    obtain ⟨L2, hL2⟩ : ∃ L2, (txF L1 n1 b1).2.1 = L2 := ⟨_, rfl⟩
    obtain ⟨b2, hb2⟩ : ∃ b2, (txF L1 n1 b1).2.2 = b2 := ⟨_, rfl⟩
    have HTEX := Lib.hid (show ∀ W, Rd W g L1 b1 → Calls Try.prog 67 #[.pointer (some ⟨g, 0, none⟩), .int .u64 (n1 : Nat)] W fun e w' => e = .returned (.string s2) ∧ TexP L1 b1 n1 s2 L2 b2 ∧ Rd w' g L2 b2 ∧ Bt g W w' from fun W hr => by
      have := rtext_det g n1 L1 b1 W hr hnp.1
      rw [hs2, hL2, hb2] at this
      exact this)
    have htp : TexP L1 b1 n1 s2 L2 b2 := by
      have hz : La.length ≤ 1000000000 := HC2.out.rd.elim fun y hy => by rw [← hy.1, bts_length]; exact hy.2.1
      have := texP_of (L := L1) (b := b1) (n := n1) (fun y hy => rd_lt HC2.out.rd y (by rw [← hL1] at hy; exact List.mem_of_mem_drop hy)) (by rw [← hL1, List.length_drop]; omega)
      rw [hs2, hL2, hb2] at this
      exact this
    have HSZ := Lib.hid htp.2.1
    have HNP := Lib.hid hnp
    have HTP := Lib.hid htp
    clear hn1 hL1 hb1 hs2 hL2 hb2 hnp htp
    refine wp_region_noPanic ?_
    refine wp_region_any (by kernel_rfl) ?_
    refine facts_sw [0, 1, 2, 3, 4, 5, 6, 7, 8, 9] (fun i => match i with | 2 => [1] | 3 => [0, 2] | 5 => [4] | 6 => [5] | 7 => [6] | 8 => [3, 7] | _ => []) 2 3 (F26 w g n1 s2 ba b1 b2) (Bt g) (I26 w g (cgT T) La L1 L2 ba b1 b2) _ _ _ 1 _ #[true, true, true, true, true, true, true, true, true, true, false] (f26_st HC2.out.lt) (by kernel_rfl) (by rfl) ⟨fun _ => rfl, cm_step HC2.out (Below.refl _ _).drew⟩ ?hstep ?hend
    case hstep =>
      intro i hi b c hbp hcq hbd hcd x W hd hI K hK
      have d0 := hI.2.bx.cell 0
      replace d0 : W.cell? ⟨w.heap.size, 0, none⟩ = some (.pointer (some ⟨g, 0, none⟩)) := d0
      simp only [List.mem_cons, List.not_mem_nil, or_false] at hi
      rcases hi with rfl | rfl | rfl | rfl | rfl | rfl | rfl | rfl | rfl | rfl
      · generalize hA : putsA _ _ x [0, 1, 2, 3, 4, 5, 6, 7, 8, 9] = A at *
        have e1 : A.tmps[1]? = some (.pointer (some ⟨w.heap.size, 0, none⟩)) := by rw [← hA]; exact putsA_at 1 _ (by decide +kernel)
        clear hA hd
        refine wpOp_step rfl (fun K' hK' => ?_)
        go_simp
        exact hK' _ _ (hK _ _ rfl (bt_refl _ _) hI)
      · generalize hA : putsA _ _ x [0, 1, 2, 3, 4, 5, 6, 7, 8, 9] = A at *
        have e1 : A.tmps[1]? = some (.pointer (some ⟨w.heap.size, 0, none⟩)) := by rw [← hA]; exact putsA_at 1 _ (by decide +kernel)
        clear hA hd
        refine wpOp_step rfl (fun K' hK' => ?_)
        go_simp
        exact hK' _ _ (hK _ _ rfl (bt_refl _ _) hI)
      · generalize hA : putsA _ _ x [0, 1, 2, 3, 4, 5, 6, 7, 8, 9] = A at *
        have e25 : A.tmps[25]? = some (x 1) := by rw [← hA]; exact putsA_in (i := 1) 25 (by rfl) (by show (25 : Nat) < 58; decide) _ (by decide +kernel) (by decide)
        have f1 : x 1 = .pointer (some ⟨g, 0, none⟩) := hd 1 (by decide)
        rw [f1] at e25
        clear hA hd
        obtain rfl := hbp rfl
        obtain rfl := hI.1 rfl
        refine wpOp_step rfl (fun K' hK' => ?_)
        go_simp
        refine (HNUM.out W hI.2.rd).mono ?_
        rintro e w6 ⟨rfl, hr6, hb6⟩
        exact hK' _ _ (hK _ _ rfl hb6 ⟨fun h => (by cases h), cm_bt hI.2 hr6 hb6⟩)
      · generalize hA : putsA _ _ x [0, 1, 2, 3, 4, 5, 6, 7, 8, 9] = A at *
        have e24 : A.tmps[24]? = some (x 0) := by rw [← hA]; exact putsA_in (i := 0) 24 (by rfl) (by show (24 : Nat) < 58; decide) _ (by decide +kernel) (by decide)
        have f0 : x 0 = .pointer (some ⟨g, 0, none⟩) := hd 0 (by decide)
        rw [f0] at e24
        have e26 : A.tmps[26]? = some (x 2) := by rw [← hA]; exact putsA_in (i := 2) 26 (by rfl) (by show (26 : Nat) < 58; decide) _ (by decide +kernel) (by decide)
        have f2 : x 2 = .int .u64 (n1 : Nat) := hd 2 (by decide)
        rw [f2] at e26
        clear hA hd
        obtain rfl := hcq rfl
        obtain rfl := hbd (by decide)
        refine wpOp_step rfl (fun K' hK' => ?_)
        go_simp
        refine (HTEX.out W hI.2.rd).mono ?_
        rintro e w6 ⟨rfl, _, hr6, hb6⟩
        exact hK' _ _ (hK _ _ rfl hb6 ⟨fun h => (by cases h), cm_bt hI.2 hr6 hb6⟩)
      · generalize hA : putsA _ _ x [0, 1, 2, 3, 4, 5, 6, 7, 8, 9] = A at *
        have e1 : A.tmps[1]? = some (.pointer (some ⟨w.heap.size, 0, none⟩)) := by rw [← hA]; exact putsA_at 1 _ (by decide +kernel)
        clear hA hd
        refine wpOp_step rfl (fun K' hK' => ?_)
        go_simp
        exact hK' _ _ (hK _ _ rfl (bt_refl _ _) hI)
      · generalize hA : putsA _ _ x [0, 1, 2, 3, 4, 5, 6, 7, 8, 9] = A at *
        have e28 : A.tmps[28]? = some (x 4) := by rw [← hA]; exact putsA_in (i := 4) 28 (by rfl) (by show (28 : Nat) < 58; decide) _ (by decide +kernel) (by decide)
        have f4 : x 4 = .pointer (some ⟨g, 0, none⟩) := hd 4 (by decide)
        rw [f4] at e28
        clear hA hd
        refine wpOp_step rfl (fun K' hK' => ?_)
        go_simp
        exact hK' _ _ (hK _ _ rfl (bt_refl _ _) hI)
      · generalize hA : putsA _ _ x [0, 1, 2, 3, 4, 5, 6, 7, 8, 9] = A at *
        have e29 : A.tmps[29]? = some (x 5) := by rw [← hA]; exact putsA_in (i := 5) 29 (by rfl) (by show (29 : Nat) < 58; decide) _ (by decide +kernel) (by decide)
        have f5 : x 5 = .pointer (some ⟨g, 0, none⟩) := hd 5 (by decide)
        rw [f5] at e29
        clear hA hd
        refine wpOp_step rfl (fun K' hK' => ?_)
        go_simp
        exact hK' _ _ (hK _ _ rfl (bt_refl _ _) hI)
      · generalize hA : putsA _ _ x [0, 1, 2, 3, 4, 5, 6, 7, 8, 9] = A at *
        have e30 : A.tmps[30]? = some (x 6) := by rw [← hA]; exact putsA_in (i := 6) 30 (by rfl) (by show (30 : Nat) < 58; decide) _ (by decide +kernel) (by decide)
        have f6 : x 6 = .pointer (some ⟨g, 1, none⟩) := hd 6 (by decide)
        rw [f6] at e30
        clear hA hd
        have hwk : Wk ba b1 b2 _ := i26_wk (b := b) (c := c)
        have hwe := cm_rd hI.2
        generalize hbk : (if b then ba else if c then b1 else b2) = bk at hwk hwe
        refine wpOp_step rfl (fun K' hK' => ?_)
        go_simp
        exact hK' _ _ (hK _ _ ⟨bk, rfl, hwk⟩ (bt_refl _ _) hI)
      · generalize hA : putsA _ _ x [0, 1, 2, 3, 4, 5, 6, 7, 8, 9] = A at *
        have e27 : A.tmps[27]? = some (x 3) := by rw [← hA]; exact putsA_in (i := 3) 27 (by rfl) (by show (27 : Nat) < 58; decide) _ (by decide +kernel) (by decide)
        have f3 : x 3 = .string s2 := hd 3 (by decide)
        rw [f3] at e27
        have e31 : A.tmps[31]? = some (x 7) := by rw [← hA]; exact putsA_in (i := 7) 31 (by rfl) (by show (31 : Nat) < 58; decide) _ (by decide +kernel) (by decide)
        obtain ⟨bk, f7, hwk⟩ : ∃ bk, x 7 = .bool bk ∧ Wk ba b1 b2 bk := hd 7 (by decide)
        rw [f7] at e31
        clear hA hd
        refine wpOp_step rfl (fun K' hK' => ?_)
        go_simp
        exact hK' _ _ (hK _ _ ⟨bk, rfl, hwk⟩ (bt_refl _ _) hI)
      · generalize hA : putsA _ _ x [0, 1, 2, 3, 4, 5, 6, 7, 8, 9] = A at *
        clear hA hd
        refine wpOp_step rfl (fun K' hK' => ?_)
        go_simp
        exact hK' _ _ (hK _ _ ⟨W.heap.size, rfl, by have := hI.2.blk.lt; omega, Blk.new _ _ _⟩ (bt_of one_allocC) ⟨hI.1, cm_step hI.2 one_allocC⟩)
    case hend =>
      intro x W b c hf hpf hqf hI
      obtain rfl : b = false := hpf (by decide)
      obtain rfl : c = false := hqf (by decide)
      obtain ⟨bk, hl8, hwk⟩ : ∃ bk, x 8 = .agg #[.string s2, .bool bk] ∧ Wk ba b1 b2 bk := hf 8 (by decide)
      obtain ⟨k, hl9, hkg, hkb⟩ : ∃ k, x 9 = .pointer (some ⟨k, 0, none⟩) ∧ w.heap.size + 1 < k ∧ Blk W k 75 #[.string ⟨#[]⟩, .bool false] := hf 9 (by decide)
      rw [putsA_lit _ _ [0, 1, 2, 3, 4, 5, 6, 7, 8, 9] ((5, 9) :: (24, 0) :: (25, 1) :: (26, 2) :: (27, 3) :: (28, 4) :: (29, 5) :: (30, 6) :: (31, 7) :: (32, 8) :: []) (by kernel_rfl)]
      simp only [setAll, ↓reduceIte, Nat.reduceAdd, Nat.reduceEqDiff]
      rw [hl8, hl9]
      have hC5 : Cm w g (cgT T) L2 b2 W := hI.2
      have HWK := Lib.hid hwk
      have HC5 := Lib.hid (cm_far (cm_far hC5 hkg (i := 0) (u := .string s2)) hkg (i := 1) (u := .bool bk))
      have HRK := Lib.hid (show Rd _ k (bts s2) bk from ⟨s2, rfl, HSZ.out, (hkb.set_ 0 (.string s2)).set_ 1 (.bool bk)⟩)
      have HKG := Lib.hid hkg
      obtain ⟨y0, y1, y2, y3⟩ := rd_cells hkb
      clear hf hpf hqf hI hl8 hl9 hkb hC5 hkg hwk
      generalize x 0 = z0
      generalize x 1 = z1
      generalize x 2 = z2
      generalize x 3 = z3
      generalize x 4 = z4
      generalize x 5 = z5
      generalize x 6 = z6
      generalize x 7 = z7
      refine wpAny_ready (rs := [10]) (by kernel_rfl) (by simp) ?_
      refine AllReady.cons rfl (fun K hK => ?_) AllReady.nil
      go_simp
      refine hK _ _ ?_
      clear hK K y0 y1 y2 y3
      refine wpAny_done (by kernel_rfl) ?_ _
      refine NoPanic.normal ?_
      generalize (W.setCell ⟨k, 0, none⟩ (.string s2)).setCell ⟨k, 1, none⟩ (.bool bk) = W5 at *
      go_wp2_with fail
      clear x
      refine (rvalues_any k (bts s2) bk W5 HRK.out).mono ?_
      rintro e w6 ⟨A6, n6, c6, l6, Lk, bk', rfl, hv6, hn6, h166, hf6, hp6, hr6, hbt6, ht6⟩
      subst hn6
      have hc6 := cm_sub HC5.out hbt6 HKG.out
      obtain ⟨-, f1, -, -, -⟩ := cm_fr hc6
      obtain ⟨-, -, d1, -, -⟩ := cm_cells hc6
      simp only at d1
      have HC6 := Lib.hid (cm_set hc6 (i := 1) (u := .slice A6 l6.length c6) (x' := ⟨T, A6, c6, l6, none, 0, [], none, 0, []⟩) rfl)
      have HV6 := Lib.hid (cm_ins (i := 1) (u := .slice A6 l6.length c6) (y := ⟨T, A6, c6, l6, none, 0, [], none, 0, []⟩) hc6 ⟨⟨hv6, .inl rfl, .inl rfl⟩, ht6, .inl rfl, .inl rfl⟩)
      have HR6 := Lib.hid (show Rd (w6.setCell ⟨w.heap.size + 1, 1, none⟩ (.slice A6 l6.length c6)) k Lk bk' from hr6.elim fun y hy => ⟨y, hy.1, hy.2.1, hy.2.2.far (p := ⟨w.heap.size + 1, 1, none⟩) (by have := HKG.out; show k ≠ w.heap.size + 1; omega) _⟩)
      have HP6 := Lib.hid hp6
      have HF6 := Lib.hid hf6
      clear hc6 hv6 ht6 hf6 hp6 hr6 hbt6 h166 HRK HC5
      go_wp2_with fail
      generalize w6.setCell ⟨w.heap.size + 1, 1, none⟩ (.slice A6 l6.length c6) = W6 at *
      clear d1 f1
      refine (rrow_any g w.heap.size L2 b2 W6 HC6.out.rd HC6.out.bx).mono ?_
      rintro e w7 ⟨A7, n7, c7, l7, L3, b3, rfl, hv7, hn7, h167, hf7, hp7, hr7, hbt7, ht7⟩
      subst hn7
      have HC7 := Lib.hid (cm_bt HC6.out hr7 hbt7)
      have HV7 := Lib.hid (show CgX w7 ⟨T, A6, c6, l6, A7, c7, l7, none, 0, []⟩ from ⟨⟨(cm_inb HC6.out HV6.out hbt7).1.1, hv7, .inl rfl⟩, (cm_inb HC6.out HV6.out hbt7).2.1, ht7, .inl rfl⟩)
      have HR7 := Lib.hid (rd_bt HR6.out hbt7 (by have := HKG.out; have := HC6.out.lt; omega))
      have HP7 := Lib.hid hp7
      have HF7 := Lib.hid hf7
      clear hv7 ht7 hf7 hp7 hr7 hbt7 h167 HR6 HC6 HV6
      go_wp2_with fail
      refine (rrow_any g w.heap.size L3 b3 w7 HC7.out.rd HC7.out.bx).mono ?_
      rintro e w8 ⟨A8, n8, c8, l8, L4, b4, rfl, hv8, hn8, h168, hf8, hp8, hr8, hbt8, ht8⟩
      subst hn8
      have hc8 := cm_bt HC7.out hr8 hbt8
      have hi8 : CgX w8 ⟨T, A6, c6, l6, A7, c7, l7, A8, c8, l8⟩ := ⟨⟨(cm_inb HC7.out HV7.out hbt8).1.1, (cm_inb HC7.out HV7.out hbt8).1.2.1, hv8⟩, (cm_inb HC7.out HV7.out hbt8).2.1, (cm_inb HC7.out HV7.out hbt8).2.2.1, ht8⟩
      obtain ⟨-, -, f2, f3, -⟩ := cm_fr hc8
      obtain ⟨-, -, -, d2, d3⟩ := cm_cells hc8
      simp only at d2 d3
      have hc9 := cm_set hc8 (i := 2) (u := .slice A7 l7.length c7) (x' := ⟨T, A6, c6, l6, A7, c7, l7, none, 0, []⟩) rfl
      have hi9 := cm_ins (i := 2) (u := .slice A7 l7.length c7) hc8 hi8
      have HC9 := Lib.hid (cm_set hc9 (i := 3) (u := .slice A8 l8.length c8) (x' := ⟨T, A6, c6, l6, A7, c7, l7, A8, c8, l8⟩) rfl)
      have HI9 := Lib.hid (cm_ins (i := 3) (u := .slice A8 l8.length c8) hc9 hi9)
      have hk9 : Rd ((w8.setCell ⟨w.heap.size + 1, 2, none⟩ (.slice A7 l7.length c7)).setCell ⟨w.heap.size + 1, 3, none⟩ (.slice A8 l8.length c8)) k Lk bk' := by
        have hne : k ≠ w.heap.size + 1 := by have := HKG.out; omega
        exact (rd_bt HR7.out hbt8 (by have := HKG.out; have := HC7.out.lt; omega)).elim fun y hy => ⟨y, hy.1, hy.2.1, (hy.2.2.far (p := ⟨w.heap.size + 1, 2, none⟩) hne _).far (p := ⟨w.heap.size + 1, 3, none⟩) hne _⟩
      have HK9 := Lib.hid hk9
      have HP8 := Lib.hid hp8
      have HF8 := Lib.hid hf8
      clear hc8 hi8 hc9 hi9 hk9 hv8 ht8 hf8 hp8 hr8 hbt8 h168 HR7 HC7 HV7
      go_wp2_with fail
      generalize (w8.setCell ⟨w.heap.size + 1, 2, none⟩ (.slice A7 l7.length c7)).setCell ⟨w.heap.size + 1, 3, none⟩ (.slice A8 l8.length c8) = W9 at *
      clear d2 d3 f2 f3
      have HFIN := Lib.hid (fun b' (hb' : b' = (b4 && (bk' && decide (T.size ≠ 0)))) => chaP_of (T := T) (x := ⟨T, A6, c6, l6, A7, c7, l7, A8, c8, l8⟩) HP1.out HNP.out HTP.out HWK.out HP6.out HP7.out HP8.out HT.out HF6.out HF7.out HF8.out hb')
      have d0 := (cm_cells HC9.out).1
      have dT := (cm_cells HC9.out).2.1
      have dg := cm_rd HC9.out
      have fg := (cm_fr HC9.out).2.2.2.2
      have dk : W9.cell? ⟨k, 1, none⟩ = some (.bool bk') := HK9.out.elim fun y hy => hy.2.2.cell 1
      simp only at dT
      have e0 : W9.drew.cell? ⟨w.heap.size, 0, none⟩ = some (.pointer (some ⟨g, 0, none⟩)) := d0
      have eT : W9.drew.cell? ⟨w.heap.size + 1, 0, none⟩ = some (.string T) := dT
      have eg : W9.drew.cell? ⟨g, 1, none⟩ = some (.bool b4) := dg
      have eh : W9.drew.frozen? ⟨g, 1, none⟩ = false := fg
      have ek : W9.drew.cell? ⟨k, 1, none⟩ = some (.bool bk') := dk
      clear HP1 HTP HWK HP6 HP7 HP8 HT HF6 HF7 HF8 HNP HNUM HTEX HC2 HF1
      rcases b4 with _ | _
      · have htz : True := trivial
        go_region
        all_goals
          have HC10 := Lib.hid (cm_step (cm_well false HC9.out) (Below.refl _ _).drew)
          have HI10 := Lib.hid (cm_inb HC9.out HI9.out (bt_trans (bt_set (g := g) (i := 1) (.bool false)) (bt_of (Below.refl _ _).drew)))
          have HQ10 := Lib.hid (HFIN.out false (by simp [htz]))
          clear d0 dT dg fg dk e0 eT eg eh ek HFIN
          generalize (W9.setCell ⟨g, 1, none⟩ (.bool false)).drew = W10 at *
          obtain ⟨-, q0, q1, q2, q3⟩ := cm_cells HC10.out
          obtain ⟨g0, g1, g2, g3, -⟩ := cm_fr HC10.out
          simp only at q0 q1 q2 q3
          have HC11 := Lib.hid (cm_copy HC10.out HI10.out)
          go_wp2_with fail
          obtain ⟨-, p0, p1, p2, p3⟩ := cm_cells HC11.out.1
          simp only at p0 p1 p2 p3
          exact bodyPost_ret (v := .agg (cgC ⟨T, A6, c6, l6, A7, c7, l7, A8, c8, l8⟩)) (by simp [results, Try.results41, go_sem, p0, p1, p2, p3]) rfl ⟨_, L4, false, rfl, HC11.out.2.1, HQ10.out, HC11.out.1.rd, HC11.out.1.bt, HC11.out.2.2⟩
      · rcases bk' with _ | _
        · have htz : True := trivial
          go_region
          all_goals
            have HC10 := Lib.hid (cm_step (cm_well false HC9.out) (Below.refl _ _).drew)
            have HI10 := Lib.hid (cm_inb HC9.out HI9.out (bt_trans (bt_set (g := g) (i := 1) (.bool false)) (bt_of (Below.refl _ _).drew)))
            have HQ10 := Lib.hid (HFIN.out false (by simp [htz]))
            clear d0 dT dg fg dk e0 eT eg eh ek HFIN
            generalize (W9.setCell ⟨g, 1, none⟩ (.bool false)).drew = W10 at *
            obtain ⟨-, q0, q1, q2, q3⟩ := cm_cells HC10.out
            obtain ⟨g0, g1, g2, g3, -⟩ := cm_fr HC10.out
            simp only at q0 q1 q2 q3
            have HC11 := Lib.hid (cm_copy HC10.out HI10.out)
            go_wp2_with fail
            obtain ⟨-, p0, p1, p2, p3⟩ := cm_cells HC11.out.1
            simp only at p0 p1 p2 p3
            exact bodyPost_ret (v := .agg (cgC ⟨T, A6, c6, l6, A7, c7, l7, A8, c8, l8⟩)) (by simp [results, Try.results41, go_sem, p0, p1, p2, p3]) rfl ⟨_, L4, false, rfl, HC11.out.2.1, HQ10.out, HC11.out.1.rd, HC11.out.1.bt, HC11.out.2.2⟩
        · by_cases htz : T.size = 0
          · obtain rfl : T = ⟨#[]⟩ := empty_of htz
            go_region
            all_goals
              have HC10 := Lib.hid (cm_step (cm_well false HC9.out) (Below.refl _ _).drew)
              have HI10 := Lib.hid (cm_inb HC9.out HI9.out (bt_trans (bt_set (g := g) (i := 1) (.bool false)) (bt_of (Below.refl _ _).drew)))
              have HQ10 := Lib.hid (HFIN.out false (by simp [htz]))
              clear d0 dT dg fg dk e0 eT eg eh ek HFIN
              generalize (W9.setCell ⟨g, 1, none⟩ (.bool false)).drew = W10 at *
              obtain ⟨-, q0, q1, q2, q3⟩ := cm_cells HC10.out
              obtain ⟨g0, g1, g2, g3, -⟩ := cm_fr HC10.out
              simp only at q0 q1 q2 q3
              have HC11 := Lib.hid (cm_copy HC10.out HI10.out)
              go_wp2_with fail
              obtain ⟨-, p0, p1, p2, p3⟩ := cm_cells HC11.out.1
              simp only at p0 p1 p2 p3
              exact bodyPost_ret (v := .agg (cgC ⟨⟨#[]⟩, A6, c6, l6, A7, c7, l7, A8, c8, l8⟩)) (by simp [results, Try.results41, go_sem, p0, p1, p2, p3]) rfl ⟨_, L4, false, rfl, HC11.out.2.1, HQ10.out, HC11.out.1.rd, HC11.out.1.bt, HC11.out.2.2⟩
          · have htl : T ≠ ⟨#[]⟩ := fun e => htz (by rw [e]; rfl)
            have htn : T.toList.isEmpty = false := str_em htz
            go_region
            all_goals
              have HC10 := Lib.hid (cm_step (cm_well true HC9.out) (Below.refl _ _).drew)
              have HI10 := Lib.hid (cm_inb HC9.out HI9.out (bt_trans (bt_set (g := g) (i := 1) (.bool true)) (bt_of (Below.refl _ _).drew)))
              have HQ10 := Lib.hid (HFIN.out true (by simp [htz]))
              clear d0 dT dg fg dk e0 eT eg eh ek HFIN
              generalize (W9.setCell ⟨g, 1, none⟩ (.bool true)).drew = W10 at *
              obtain ⟨-, q0, q1, q2, q3⟩ := cm_cells HC10.out
              obtain ⟨g0, g1, g2, g3, -⟩ := cm_fr HC10.out
              simp only at q0 q1 q2 q3
              have HC11 := Lib.hid (cm_copy HC10.out HI10.out)
              go_wp2_with fail
              obtain ⟨-, p0, p1, p2, p3⟩ := cm_cells HC11.out.1
              simp only at p0 p1 p2 p3
              exact bodyPost_ret (v := .agg (cgC ⟨T, A6, c6, l6, A7, c7, l7, A8, c8, l8⟩)) (by simp [results, Try.results41, go_sem, p0, p1, p2, p3]) rfl ⟨_, L4, true, rfl, HC11.out.2.1, HQ10.out, HC11.out.1.rd, HC11.out.1.bt, HC11.out.2.2⟩
end Go.Proofs.Ytocbdehcjcggeaa
namespace Go.Proofs.Ytocbdehcjcggeaa
open Go.RowKit Go
set_option linter.unusedVariables false
set_option linter.unusedSimpArgs false
/-- a change's values -/
def vC (x : Cg) : ByteArray × List Val × List Val × List Val := (x.t, x.k, x.o, x.n)
theorem vC_eq {x y : Cg} : vC x = vC y ↔ x.t = y.t ∧ x.k = y.k ∧ x.o = y.o ∧ x.n = y.n := by
  unfold vC
  simp only [Prod.mk.injEq]
theorem may_vC {x y : Cg} (h : vC x = vC y) : mayC x = mayC y := by
  obtain ⟨h1, h2, h3, h4⟩ := vC_eq.1 h
  unfold mayC
  rw [h1, h2, h3, h4]
theorem fit_vC {x y : Cg} (h : vC x = vC y) (hf : FitC x) : FitC y := by
  obtain ⟨h1, h2, h3, h4⟩ := vC_eq.1 h
  unfold FitC at hf ⊢
  rw [← h1, ← h2, ← h3, ← h4]
  exact hf
theorem cmp_vC {x y x' y' : Cg} (h : vC x = vC x') (k : vC y = vC y') : cgCmp x y = cgCmp x' y' := by
  obtain ⟨h1, h2, _, _⟩ := vC_eq.1 h
  obtain ⟨k1, k2, _, _⟩ := vC_eq.1 k
  unfold cgCmp
  rw [h1, h2, k1, k2]
theorem get_vC {l m : List Cg} (h : l.map vC = m.map vC) {i : Nat} {x : Cg} (hx : l[i]? = some x) : ∃ y, m[i]? = some y ∧ vC x = vC y := by
  have h1 := congrArg (fun q => q[i]?) h
  simp only [List.getElem?_map, hx, Option.map_some] at h1
  cases hy : m[i]? with
  | none => rw [hy] at h1; cases h1
  | some y => rw [hy] at h1; exact ⟨y, rfl, Option.some.inj h1⟩
theorem len_vC {l m : List Cg} (h : l.map vC = m.map vC) : l.length = m.length := by have := congrArg List.length h; simpa using this
theorem okC_vC {l m : List Cg} (h : l.map vC = m.map vC) (hm : OkC l) : OkC m := by
  refine ⟨by rw [← len_vC h]; exact hm.1, fun j hj => ?_⟩
  obtain ⟨x, hx, hx1, hx2⟩ := hm.2 j (by rw [len_vC h]; exact hj)
  obtain ⟨y, hy, hxy⟩ := get_vC h hx
  refine ⟨y, hy, by rw [← may_vC hxy]; exact hx1, fun i z hi hz => ?_⟩
  obtain ⟨z', hz', hzz⟩ := get_vC h.symm hz
  rw [cmp_vC hzz hxy.symm]
  exact hx2 i z' hi hz'
theorem chg_vC {x y : Cg} (h : vC x = vC y) : chgL x = chgL y := by
  obtain ⟨h1, h2, h3, h4⟩ := vC_eq.1 h
  unfold chgL
  rw [h1, h2, h3, h4]
/-- the first changes -/
def ChsP (L : List Nat) (b : Bool) (l : List Cg) (L' : List Nat) (b' : Bool) : Prop :=
  L'.length ≤ L.length ∧ (b' = true → b = true ∧ L = chgsL l ++ L' ∧ ∀ x ∈ l, FitC x) ∧ (b = true → ∀ l0 R, (∀ x ∈ l0, mayC x = true ∧ FitC x) → l0.length = l.length → L = chgsL l0 ++ R → l.map vC = l0.map vC ∧ L' = R ∧ b' = true)
theorem chsP_nil (L : List Nat) (b : Bool) : ChsP L b [] L b := ⟨Nat.le_refl _, fun h => ⟨h, rfl, fun x hx => (by cases hx)⟩, fun hb l0 R _ hl hL => by
  obtain rfl : l0 = [] := List.eq_nil_of_length_eq_zero hl
  exact ⟨rfl, hL, hb⟩⟩
theorem chgsL_snoc (l : List Cg) (x : Cg) : chgsL (l ++ [x]) = chgsL l ++ chgL x := by simp [chgsL]
theorem chsP_snoc {L L1 L2 : List Nat} {b b1 b2 : Bool} {l : List Cg} {x : Cg} (h : ChsP L b l L1 b1) (k : ChaP L1 b1 x L2 b2) : ChsP L b (l ++ [x]) L2 b2 := by
  refine ⟨Nat.le_trans k.1 h.1, fun hb => ?_, fun hb l0 R hl0 hlen hL => ?_⟩
  · obtain ⟨k1, k2, k3⟩ := k.2.1 hb
    obtain ⟨h1, h2, h3⟩ := h.2.1 k1
    refine ⟨h1, by rw [h2, k2, chgsL_snoc, List.append_assoc], fun y hy => ?_⟩
    rcases List.mem_append.1 hy with hy | hy
    · exact h3 y hy
    · rw [List.mem_singleton.1 hy]; exact k3
  · rw [List.length_append, List.length_singleton] at hlen
    obtain ⟨l', y, rfl⟩ : ∃ l' y, l0 = l' ++ [y] := by
      rcases List.eq_nil_or_concat l0 with h | ⟨l', y, h⟩
      · rw [h] at hlen; simp at hlen
      · exact ⟨l', y, by rw [h, List.concat_eq_append]⟩
    rw [List.length_append, List.length_singleton] at hlen
    rw [chgsL_snoc, List.append_assoc] at hL
    obtain ⟨e1, e2, e3⟩ := h.2.2 hb l' _ (fun z hz => hl0 z (List.mem_append_left _ hz)) (by omega) hL
    have hy := hl0 y (by simp)
    obtain ⟨e4, e5, e6⟩ := k.2.2 e3 y R hy.1 hy.2 e2
    refine ⟨?_, e5, e6⟩
    rw [List.map_append, List.map_append, e1]
    congr 1
    simp only [List.map_cons, List.map_nil, List.cons.injEq, and_true]
    exact vC_eq.2 e4
theorem chgL_pos (x : Cg) : 1 ≤ (chgL x).length := by
  unfold chgL textL
  simp only [List.length_append, putL_length]
  have := (sz_le (recL [((2 : Int), (0 : Int), x.t)]).length).1
  omega
theorem chgsL_ge (l : List Cg) : l.length ≤ (chgsL l).length := by
  induction l with
  | nil => simp
  | cons x l ih =>
    have := chgL_pos x
    simp only [chgsL, List.flatMap_cons, List.length_append, List.length_cons] at ih ⊢
    omega
theorem chsP_len {L L' : List Nat} {b : Bool} {l : List Cg} (h : ChsP L b l L' true) : l.length ≤ L.length := by
  obtain ⟨_, h2, _⟩ := h.2.1 rfl
  have := chgsL_ge l
  rw [h2, List.length_append]
  omega
/-- what Take answers, in plain words -/
def TakG (L : List Nat) (l : List Cg) (er : Int) : Prop := (er = 7 ∧ l = [] ∨ er = 0 ∧ OkC l ∧ (∀ x ∈ l, FitC x) ∧ L = putG l) ∧ (∀ l0, OkC l0 → (∀ x ∈ l0, FitC x) → L = putG l0 → er = 0 ∧ l.map vC = l0.map vC)
theorem takG_no {L L1 L' : List Nat} {b1 b' : Bool} {n : Nat} {l : List Cg} (hn : NumP L true n L1 b1) (hl : ChsP L1 b1 l L' b') (hle : l.length ≤ n) (hex : b' = true → l.length = n) (hbad : b' = false ∨ L' ≠ [] ∨ ¬ OkC l) : TakG L [] 7 := by
  refine ⟨.inl ⟨rfl, rfl⟩, fun l0 hok hf hL => ?_⟩
  exfalso
  have hok1 := hok.1
  obtain ⟨n1, n2, n3⟩ := hn.2.2.2 rfl l0.length (chgsL l0) (by omega) hL
  have hsp : L1 = chgsL (l0.take l.length) ++ chgsL (l0.drop l.length) := by
    rw [n2]
    unfold chgsL
    rw [← List.flatMap_append, List.take_append_drop]
  obtain ⟨c1, c2, c3⟩ := hl.2.2 n3 (l0.take l.length) _ (fun x hx => ⟨okC_may hok x (List.mem_of_mem_take hx), hf x (List.mem_of_mem_take hx)⟩) (by rw [List.length_take]; omega) hsp
  have hfull := hex c3
  have e1 : l0.take l.length = l0 := List.take_of_length_le (by omega)
  have e2 : l0.drop l.length = [] := List.drop_of_length_le (by omega)
  rw [e1] at c1
  rw [e2] at c2
  rcases hbad with h | h | h
  · rw [h] at c3; cases c3
  · exact h (by rw [c2]; rfl)
  · exact h (okC_vC c1.symm hok)
theorem takG_yes {L L1 : List Nat} {b1 : Bool} {n : Nat} {l : List Cg} (hn : NumP L true n L1 b1) (hl : ChsP L1 b1 l [] true) (hex : l.length = n) (hok : OkC l) : TakG L l 0 := by
  obtain ⟨h1, h2, h3⟩ := hl.2.1 rfl
  obtain ⟨n1, n2⟩ := hn.2.2.1 h1
  refine ⟨.inr ⟨rfl, hok, h3, by rw [n2, h2, List.append_nil, putG, hex]⟩, fun l0 hok0 hf hL => ⟨rfl, ?_⟩⟩
  obtain ⟨m1, m2, m3⟩ := hn.2.2.2 rfl l0.length (chgsL l0) (by have := hok0.1; omega) hL
  exact (hl.2.2 m3 l0 [] (fun x hx => ⟨okC_may hok0 x hx, hf x hx⟩) (by omega) (by rw [m2, List.append_nil])).1
/-- blocks of values stand: so do a change's rows -/
theorem cgX_of {W W' : World} {y : Cg} (h : CgX W y) (hs : W.heap.size ≤ W'.heap.size) (hk : ∀ b cs, Blk W b 56 cs → W'.heap[b]? = W.heap[b]?) : CgX W' y := by
  have hT : ∀ {A : Option Addr} {l : List Val}, ValT W A l → ValT W' A l := fun hv => by
    rcases hv with hv | ⟨bb, o, cs, hA, hblk⟩
    · exact .inl hv
    · exact .inr ⟨bb, o, cs, hA, (hk bb cs hblk).trans hblk⟩
  have hV : ∀ {A : Option Addr} {l : List Val}, Vals W W.heap.size A l → ValT W A l → Vals W' W'.heap.size A l := fun hv ht => by
    rcases hv with hv | ⟨bb, o, hA, hlt, hc⟩
    · exact .inl hv
    · rcases ht with ht | ⟨bb', o', cs, hA', hblk⟩
      · exact .inl ht
      · rw [hA] at hA'
        simp only [Option.some.injEq, Addr.mk.injEq] at hA'
        obtain ⟨rfl, _, _⟩ := hA'
        have hbk := hk bb cs hblk
        refine .inr ⟨bb, o, hA, by omega, fun j x hx => ?_⟩
        obtain ⟨c0, c1, c2⟩ := hc j x hx
        exact ⟨(World.cell?_of_block (a := ⟨bb, o + j * 3, none⟩) hbk).trans c0, (World.cell?_of_block (a := ⟨bb, o + j * 3 + 1, none⟩) hbk).trans c1, (World.cell?_of_block (a := ⟨bb, o + j * 3 + 2, none⟩) hbk).trans c2⟩
  exact ⟨⟨hV h.1.1 h.2.1, hV h.1.2.1 h.2.2.1, hV h.1.2.2 h.2.2.2⟩, hT h.2.1, hT h.2.2.1, hT h.2.2.2⟩
theorem cgX_bt {W W' : World} {g : Nat} {y : Cg} {L : List Nat} {b : Bool} (h : CgX W y) (hr : Rd W g L b) (hb : Bt g W W') : CgX W' y := cgX_of h hb.size fun bb cs hblk => hb.block bb hblk.lt (by
  rintro rfl
  obtain ⟨x, _, _, hk⟩ := hr
  unfold Blk at hblk hk
  rw [hblk] at hk
  simp only [Option.some.injEq, Obj.cells.injEq] at hk
  exact absurd hk.2.1 (by decide))
theorem cgX_step {W W' : World} {y : Cg} (h : CgX W y) (hb : Below W.heap.size W W') : CgX W' y := cgX_of h hb.size fun bb cs hblk => hb.block bb hblk.lt
theorem cgX_grown {W W' : World} {y : Cg} {base n : Nat} {v : Value} {xs : List Value} (h : CgX W y) (ho : W.ownsRow base 33 4 v n xs) (hg : W.grownBy W' v.ownBlock) : CgX W' y := cgX_of h hg.size fun bb cs hblk => hg.block bb hblk.lt (fun e => by
  rcases ho.2 with ⟨hv, _⟩ | ⟨g, cap', cur, hv, _, hk, _⟩
  · rw [hv] at e; cases e
  · rw [hv] at e
    simp only [Value.ownBlock, Option.some.injEq] at e
    subst e
    unfold Blk at hblk
    rw [hblk] at hk
    simp only [Option.some.injEq, Obj.cells.injEq] at hk
    exact absurd hk.2.1 (by decide))
/-- in the midst of the changes -/
structure Tc (w : World) (L1 : List Nat) (b1 : Bool) (l : List Cg) (L' : List Nat) (b' : Bool) (v : Value) (W : World) : Prop where
  p : ChsP L1 b1 l L' b'
  rd : Rd W w.heap.size L' b'
  b : Below w.heap.size w W
  own : W.ownsRow (w.heap.size + 1) 33 4 v l.length (cgCs l)
  at_ : ∀ x ∈ l, CgX W x
def TakQ (L : List Nat) (w : World) (e : Ending) (w' : World) : Prop := ∃ A c er l, e = .returned (.tuple #[.slice A l.length c, .int .i64 er]) ∧ Cgs w' w'.heap.size A l ∧ Below w.heap.size w w' ∧ TakG L l er
set_option maxRecDepth 100000 in
set_option maxHeartbeats 16000000 in
theorem ctake_any (s : ByteArray) (w : World) (hs : s.size ≤ 1000000000) :
    Calls Try.prog 18 #[.string s] w (TakQ (bts s) w) := by
  obtain ⟨iv, hv1, hv2, hv3, hv4⟩ := info_parts cg_info
  have HR0 := Lib.hid (show Rd ((w.alloc (.cells #[.string s, .bool true] 75))) w.heap.size (bts s) true from ⟨s, rfl, hs, Blk.new _ _ _⟩)
  have HS := Lib.hid hs
  clear hs
  go_enter Try.func18, Try.ntmps18
  go_wp2_with fail
  refine (rnumber_any w.heap.size (bts s) true _ HR0.out).mono ?_
  rintro e w1 ⟨n, L1, b1, rfl, hp1, hr1, hbt1⟩
  have HP1 := Lib.hid hp1
  have HT0 := Lib.hid (show Tc w L1 b1 [] L1 b1 (.slice none 0 0) w1 from ⟨chsP_nil _ _, hr1, bt_below (bt_trans (bt_of one_allocC) hbt1) (Nat.le_refl _) (Nat.le_refl _), World.ownsRow_nil _ _ _ _, fun x hx => (by cases hx)⟩)
  have HL1 := Lib.hid (show L1.length ≤ 1000000000 from by have := hp1.2.1; rw [bts_length] at this; have := HS.out; omega)
  have hn64 : (n : Int) < 18446744073709551616 := by have := hp1.1; omega
  clear hp1 hr1 hbt1 HR0
  go_wp2_with fail
  go_loopw [6, 7] (fun v i wr => ∃ (j : Nat) (l : List Cg) (L' : List Nat) (b' : Bool), j ≤ n ∧ i = .int .u64 j ∧ l.length = j ∧ Tc w L1 b1 l L' b' v wr) (fun _ i _ => n - (intOf i).toNat)
  case atStart => exact ⟨0, [], L1, b1, by omega, rfl, rfl, HT0.out⟩
  case round =>
    clear HT0
    obtain ⟨j, l, L', b', hj, rfl, hlj, htc⟩ := hrel
    obtain ⟨A1, c1, rfl⟩ := own_form htc.own
    have d1 : wr.cell? ⟨w.heap.size, 1, none⟩ = some (.bool b') := htc.rd.elim fun y hy => hy.2.2.cell 1
    have HTC := Lib.hid htc
    have HLJ := Lib.hid hlj
    clear htc hlj
    rcases b' with _ | _
    · have HG := Lib.hid (takG_no HP1.out HTC.out.p (by have := HLJ.out; omega) (fun h => (by cases h)) (.inl rfl))
      by_cases hjn : j < n
      · have hjI : (j : Int) < n := by omega
        go_wp2_with fail
        go_ret2
        exact ⟨none, 0, 7, [], rfl, .inl rfl, HTC.out.b, HG.out⟩
      · have hjI : ¬ ((j : Int) < n) := by omega
        go_wp2_with fail
        go_ret2
        exact ⟨none, 0, 7, [], rfl, .inl rfl, HTC.out.b, HG.out⟩
    · by_cases hjn : j < n
      · have hjI : (j : Int) < n := by omega
        have hwr : IntKind.u64.wrap ((j : Int) + 1) = (j : Int) + 1 := by rw [IntKind.wrap_u64]; omega
        go_wp2_with fail
        refine (rchange_any w.heap.size L' true wr HTC.out.rd).mono ?_
        rintro e w2 ⟨x, L2, b2, rfl, hin, hcp, hrd2, hbt2, hty⟩
        have hal := one_allocC (w := w2) (o := .cells (cgC x) 33)
        have HOW := Lib.hid (own_below (own_bt HTC.out.own hbt2 (by omega)) hal)
        have HRD := Lib.hid (rd_step hrd2 hal)
        have HB := Lib.hid (bj (bt_below (bt_trans (bt_of HTC.out.b) hbt2) (Nat.le_refl _) (Nat.le_refl _)) hal)
        have HAT := Lib.hid (show ∀ y ∈ l ++ [x], CgX (w2.alloc (.cells (cgC x) 33)) y from fun y hy => by
          rcases List.mem_append.1 hy with hy | hy
          · exact cgX_step (cgX_bt (HTC.out.at_ y hy) HTC.out.rd hbt2) hal
          · rw [List.mem_singleton.1 hy]; exact cgX_step ⟨hin, hty⟩ hal)
        have HP := Lib.hid (chsP_snoc HTC.out.p hcp)
        have hrd := reads4 w2 x
        have hlen := chsP_len HTC.out.p
        have hl9 : l.length ≤ 1000000000 := Nat.le_trans hlen HL1.out
        have hbs : w.heap.size + 1 ≤ (w2.alloc (.cells (cgC x) 33)).heap.size := by have := HRD.out.elim fun y hy => hy.2.2.lt; omega
        clear hin hcp hrd2 hbt2 hty hal d1 hlen
        go_wp2_with (at_builtin; refine wpList_append_any _ rfl (.tmp 20) (.tmp 22) 28 rfl (w.heap.size + 1) 33 iv _ 4 88 Try.underlying28 hv1 hv2 hv3 hv4 rfl (by omega) _ l.length (cgCs l) rfl HOW.out (w2.heap.size + 1) (some ⟨w2.heap.size, 0, none⟩) 1 1 (cgE x) rfl hrd (by intro u hu; simp at hu; rcases hu with rfl | rfl | rfl | rfl <;> rfl) (by simp only [maxLen]; omega) (by omega) hbs ?_; intro v1 w6 hown1 hg1 hat1; obtain ⟨A2, c2, rfl⟩ := own_form hown1; (have HW6 := Lib.hid hown1); (have HG6 := Lib.hid hg1); clear hown1 hg1 hat1 hrd)
        go_roundw
        case rel =>
          have hge : ∀ z, (Value.slice A1 l.length c1).ownBlock = some z → w.heap.size + 1 ≤ z := fun z hz => (HOW.out.lt z hz).1
          have hO6 : w6.ownsRow (w.heap.size + 1) 33 4 (.slice A2 (l.length + 1) c2) (l ++ [x]).length (cgCs (l ++ [x])) := by rw [cgCs_snoc, List.length_append]; exact HW6.out
          refine ⟨j + 1, l ++ [x], L2, b2, by omega, by go_num, by simp [HLJ.out], ⟨HP.out, ?_, HB.out.grown HG6.out HB.out.size (fun k hk => by have := hge k hk; omega), hO6, fun y hy => cgX_grown (HAT.out y hy) HOW.out HG6.out⟩⟩
          exact HRD.out.elim fun y hy => ⟨y, hy.1, hy.2.1, hy.2.2.grown HG6.out (fun e => by have := hge _ e.symm; omega)⟩
        case measure => simp only [intOf]; omega
      · have hjI : ¬ ((j : Int) < n) := by omega
        obtain ⟨y, hy, hys, hyb⟩ := HTC.out.rd
        have d0 : wr.cell? ⟨w.heap.size, 0, none⟩ = some (.string y) := hyb.cell 0
        by_cases hy0 : y.size = 0
        · obtain rfl : y = ⟨#[]⟩ := empty_of hy0
          have hL' : L' = [] := by rw [← hy]; rfl
          subst hL'
          have hfit := (HTC.out.p.2.1 rfl).2.2
          have hlen := chsP_len HTC.out.p
          have hl9 : l.length ≤ 1000000000 := Nat.le_trans hlen HL1.out
          have HCK := Lib.hid (gcheck_any A1 l l.length c1 wr (cgs_of_own (w := w) HTC.out.own rfl (fun x hx => (HTC.out.at_ x hx).1)) rfl (by unfold maxLen; omega) hfit)
          have HCS := Lib.hid (cgs_of_own (w := w) HTC.out.own rfl (fun x hx => (HTC.out.at_ x hx).1))
          clear hy hys hyb hfit hlen
          by_cases hok : OkC l
          · have HG := Lib.hid (takG_yes HP1.out HTC.out.p (by have := HLJ.out; omega) hok)
            rw [chkG_ok hok] at HCK
            clear hok
            go_wp2_with fail
            refine (HCK.out).mono ?_
            rintro e w3 ⟨rfl, hb3⟩
            have HB3 := Lib.hid hb3
            clear hb3
            go_wp2_with fail
            go_ret2
            exact ⟨A1, c1, 0, l, rfl, cgs_step HCS.out HB3.out, bj HTC.out.b HB3.out, HG.out⟩
          · have HG := Lib.hid (takG_no HP1.out HTC.out.p (by have := HLJ.out; omega) (fun _ => by have := HLJ.out; omega) (.inr (.inr hok)))
            rw [chkG_no hok] at HCK
            clear hok
            go_wp2_with fail
            refine (HCK.out).mono ?_
            rintro e w3 ⟨rfl, hb3⟩
            have HB3 := Lib.hid hb3
            clear hb3
            go_wp2_with fail
            go_ret2
            exact ⟨none, 0, 7, [], rfl, .inl rfl, bj HTC.out.b HB3.out, HG.out⟩
        · have hie : y.toList.isEmpty = false := str_em hy0
          have hL' : L' ≠ [] := fun e => hy0 (by rw [← bts_length, hy, e]; rfl)
          have HG := Lib.hid (takG_no HP1.out HTC.out.p (by have := HLJ.out; omega) (fun _ => by have := HLJ.out; omega) (.inr (.inl hL')))
          clear hy hys hyb hL'
          go_wp2_with fail
          go_ret2
          exact ⟨none, 0, 7, [], rfl, .inl rfl, HTC.out.b, HG.out⟩
end Go.Proofs.Ytocbdehcjcggeaa
namespace Go.Proofs.Ytocbdehcjcggeaa
open Go.RowKit Go
set_option linter.unusedVariables false
set_option linter.unusedSimpArgs false
def dSm : Nat → List Nat
  | 2 => [0, 1]
  | 3 => [2]
  | 4 => [3]
  | 7 => [5, 6]
  | 8 => [7]
  | 9 => [8]
  | 10 => [4, 9]
  | 11 => [10]
  | 12 => [11]
  | 13 => [11]
  | 14 => [11, 12, 13]
  | 15 => [11, 14]
  | 16 => [11, 15]
  | 17 => [11]
  | 18 => [11]
  | 19 => [11, 17, 18]
  | 20 => [11, 19]
  | 21 => [11, 20]
  | 22 => [11, 16, 21]
  | 23 => [11, 22]
  | 24 => [11, 23]
  | 25 => [24]
  | 26 => [25]
  | 27 => [25]
  | 28 => [25, 26, 27]
  | 29 => [25, 28]
  | 30 => [25, 29]
  | 31 => [25]
  | 32 => [25]
  | 33 => [25, 31, 32]
  | 34 => [25, 33]
  | 35 => [25, 34]
  | 36 => [25, 30, 35]
  | 37 => [25, 36]
  | 38 => [25, 37]
  | 39 => [38]
  | 40 => [39]
  | 41 => [39]
  | 42 => [39, 40, 41]
  | 43 => [39, 42]
  | 44 => [39, 43]
  | 45 => [39]
  | 46 => [39]
  | 47 => [39, 45, 46]
  | 48 => [39, 47]
  | 49 => [39, 48]
  | 50 => [39, 44, 49]
  | 51 => [39, 50]
  | 52 => [39, 51]
  | _ => []
def mkSm (b ofs b' ofs' n' c c' j : Nat) (X Y : Cg) : Nat → Nat → Nat → Nat → Value
  | 0, k, k1, k2 => .slice (some ⟨b, ofs, none⟩) n' c
  | 1, k, k1, k2 => .int .i64 (j : Int)
  | 2, k, k1, k2 => .pointer (some ⟨b, ofs + j * 4, none⟩)
  | 3, k, k1, k2 => .pointer (some ⟨b, ofs + j * 4, none⟩)
  | 4, k, k1, k2 => .string X.t
  | 5, k, k1, k2 => .slice (some ⟨b', ofs', none⟩) n' c'
  | 6, k, k1, k2 => .int .i64 (j : Int)
  | 7, k, k1, k2 => .pointer (some ⟨b', ofs' + j * 4, none⟩)
  | 8, k, k1, k2 => .pointer (some ⟨b', ofs' + j * 4, none⟩)
  | 9, k, k1, k2 => .string Y.t
  | 10, k, k1, k2 => .bool false
  | 11, k, k1, k2 => .bool false
  | 12, k, k1, k2 => .slice (some ⟨b, ofs, none⟩) n' c
  | 13, k, k1, k2 => .int .i64 (j : Int)
  | 14, k, k1, k2 => .pointer (some ⟨b, ofs + j * 4, none⟩)
  | 15, k, k1, k2 => .pointer (some ⟨b, ofs + j * 4 + 1, none⟩)
  | 16, k, k1, k2 => .slice X.kA X.k.length X.kc
  | 17, k, k1, k2 => .slice (some ⟨b', ofs', none⟩) n' c'
  | 18, k, k1, k2 => .int .i64 (j : Int)
  | 19, k, k1, k2 => .pointer (some ⟨b', ofs' + j * 4, none⟩)
  | 20, k, k1, k2 => .pointer (some ⟨b', ofs' + j * 4 + 1, none⟩)
  | 21, k, k1, k2 => .slice Y.kA Y.k.length Y.kc
  | 22, k, k1, k2 => .bool true
  | 23, k, k1, k2 => .bool false
  | 24, k, k1, k2 => .bool false
  | 25, k, k1, k2 => .bool false
  | 26, k, k1, k2 => .slice (some ⟨b, ofs, none⟩) n' c
  | 27, k, k1, k2 => .int .i64 (j : Int)
  | 28, k, k1, k2 => .pointer (some ⟨b, ofs + j * 4, none⟩)
  | 29, k, k1, k2 => .pointer (some ⟨b, ofs + j * 4 + 2, none⟩)
  | 30, k, k1, k2 => .slice X.oA X.o.length X.oc
  | 31, k, k1, k2 => .slice (some ⟨b', ofs', none⟩) n' c'
  | 32, k, k1, k2 => .int .i64 (j : Int)
  | 33, k, k1, k2 => .pointer (some ⟨b', ofs' + j * 4, none⟩)
  | 34, k, k1, k2 => .pointer (some ⟨b', ofs' + j * 4 + 2, none⟩)
  | 35, k, k1, k2 => .slice Y.oA Y.o.length Y.oc
  | 36, k, k1, k2 => .bool true
  | 37, k, k1, k2 => .bool false
  | 38, k, k1, k2 => .bool false
  | 39, k, k1, k2 => .bool false
  | 40, k, k1, k2 => .slice (some ⟨b, ofs, none⟩) n' c
  | 41, k, k1, k2 => .int .i64 (j : Int)
  | 42, k, k1, k2 => .pointer (some ⟨b, ofs + j * 4, none⟩)
  | 43, k, k1, k2 => .pointer (some ⟨b, ofs + j * 4 + 3, none⟩)
  | 44, k, k1, k2 => .slice X.nA X.n.length X.nc
  | 45, k, k1, k2 => .slice (some ⟨b', ofs', none⟩) n' c'
  | 46, k, k1, k2 => .int .i64 (j : Int)
  | 47, k, k1, k2 => .pointer (some ⟨b', ofs' + j * 4, none⟩)
  | 48, k, k1, k2 => .pointer (some ⟨b', ofs' + j * 4 + 3, none⟩)
  | 49, k, k1, k2 => .slice Y.nA Y.n.length Y.nc
  | 50, k, k1, k2 => .bool true
  | 51, k, k1, k2 => .bool false
  | 52, k, k1, k2 => .bool false
  | _, _, _, _ => .bool false
def SmR (x : Cg) : Prop := x.k.length ≤ maxLen ∧ x.o.length ≤ maxLen ∧ x.n.length ≤ maxLen
theorem smR_of {x : Cg} (h : FitC x) : SmR x := ⟨h.2.1, h.2.2.1, h.2.2.2.1⟩
set_option maxRecDepth 100000 in
set_option maxHeartbeats 16000000 in
theorem csame_any (A C : Option Addr) (l m : List Cg) (n c n' c' : Nat) (w : World) (hO : Cgs w w.heap.size A l) (hQ : Cgs w w.heap.size C m) (hn : n = l.length) (hn' : n' = n) (hm : n ≤ 100000) (hv : l.map vC = m.map vC) (hfit : ∀ X ∈ l, SmR X) :
    Calls Try.prog 21 #[.slice A n c, .slice C n' c'] w fun e w' => e = .returned (.bool true) ∧ Below w.heap.size w w' := by
  subst hn'
  have hnI : (n' : Int) ≤ 100000 := by omega
  have hnn : ((n' : Int) != n') = false := by simp
  have HN := Lib.hid hn
  have HO := Lib.hid hO
  have HQ := Lib.hid hQ
  have HV := Lib.hid hv
  have HF := Lib.hid hfit
  clear hn hO hQ hv hfit hm
  go_enter Try.func21, Try.ntmps21
  go_wp2
  go_loopw [5] (fun i wr => ∃ j : Nat, j ≤ n' ∧ i = .int .i64 j ∧ Below w.heap.size w wr) (fun i _ => n' - (intOf i).toNat)
  case atStart => exact ⟨0, by omega, rfl, Below.refl _ _⟩
  case round =>
    obtain ⟨j, hj, rfl, hbr⟩ := hrel
    clear hnn
    by_cases hjn : j < n'
    · have hlt : j < l.length := by have := HN.out; omega
      have hX : l[j]? = some l[j] := List.getElem?_eq_getElem hlt
      obtain ⟨Y, hY, hXY⟩ := get_vC HV.out hX
      obtain ⟨b, ofs, rfl, hbl, hcs⟩ := cgs_get HO.out (fun e => by rw [e] at hlt; simp at hlt)
      obtain ⟨b', ofs', rfl, hbl', hcs'⟩ := cgs_get HQ.out (fun e => by rw [e] at hY; simp at hY)
      have HX := Lib.hid (fun W hb => hcs W hb j _ hX)
      have HY := Lib.hid (fun W hb => hcs' W hb j _ hY)
      have HS := Lib.hid (HF.out _ (List.getElem_mem hlt))
      obtain ⟨h1, h2, h3, h4⟩ := vC_eq.1 hXY
      generalize l[j] = X at *
      have hjI : (j : Int) < n' := by omega
      have h0j : (0 : Int) ≤ j := by omega
      have hneq : (X.t.toList == Y.t.toList) = true := by rw [h1]; simp
      have HK := Lib.hid (fun (W : World) (hb : Below w.heap.size w W) => same_any X.kA Y.kA X.k Y.k X.k.length X.kc Y.k.length Y.kc true W (cgIn_mono (HX.out W hb).2 hb.size).1 (cgIn_mono (HY.out W hb).2 hb.size).1 rfl rfl HS.out.1 (by rw [← h2]; exact HS.out.1) (by rw [h2]; simp))
      have HL := Lib.hid (fun (W : World) (hb : Below w.heap.size w W) => same_any X.oA Y.oA X.o Y.o X.o.length X.oc Y.o.length Y.oc true W (cgIn_mono (HX.out W hb).2 hb.size).2.1 (cgIn_mono (HY.out W hb).2 hb.size).2.1 rfl rfl HS.out.2.1 (by rw [← h3]; exact HS.out.2.1) (by rw [h3]; simp))
      have HM := Lib.hid (fun (W : World) (hb : Below w.heap.size w W) => same_any X.nA Y.nA X.n Y.n X.n.length X.nc Y.n.length Y.nc true W (cgIn_mono (HX.out W hb).2 hb.size).2.2 (cgIn_mono (HY.out W hb).2 hb.size).2.2 rfl rfl HS.out.2.2 (by rw [← h4]; exact HS.out.2.2) (by rw [h4]; simp))
      have HB := Lib.hid hbr.drew
      clear hX hY hcs hcs' hlt hbr h1 h2 h3 h4 hXY HV HF
      go_wp2_with fail
      refine wp_region_noPanic ?_
      refine wp_region_any (by kernel_rfl) ?_
      refine facts_start (0 :: 1 :: 2 :: 3 :: 4 :: 5 :: 6 :: 7 :: 8 :: 9 :: 10 :: 11 :: 12 :: 13 :: 14 :: 15 :: 16 :: 17 :: 18 :: 19 :: 20 :: 21 :: 22 :: 23 :: 24 :: 25 :: 26 :: 27 :: 28 :: 29 :: 30 :: 31 :: 32 :: 33 :: 34 :: 35 :: 36 :: 37 :: 38 :: 39 :: 40 :: 41 :: 42 :: 43 :: 44 :: 45 :: 46 :: 47 :: 48 :: 49 :: 50 :: 51 :: 52 :: []) [] dSm (Ft (mkSm b ofs b' ofs' n' c c' j X Y) (fun _ _ _ _ => [])) _ _ _ 0 _ #[true, true, true, true, true, true, true, true, true, true, true, true, true, true, true, true, true, true, true, true, true, true, true, true, true, true, true, true, true, true, true, true, true, true, true, true, true, true, true, true, true, true, true, true, true, true, true, true, true, true, true, true, true] (by kernel_rfl) (by rfl) ft_step no_al' ?hstep ?hend
      case hstep =>
        intro i hi x W hd hb K hK
        have hs := bj HB.out hb
        obtain ⟨⟨p0, p1, p2, p3⟩, -⟩ := HX.out W hs
        obtain ⟨⟨q0, q1, q2, q3⟩, -⟩ := HY.out W hs
        simp only [List.mem_cons, List.not_mem_nil, or_false] at hi
        rcases hi with rfl | rfl | rfl | rfl | rfl | rfl | rfl | rfl | rfl | rfl | rfl | rfl | rfl | rfl | rfl | rfl | rfl | rfl | rfl | rfl | rfl | rfl | rfl | rfl | rfl | rfl | rfl | rfl | rfl | rfl | rfl | rfl | rfl | rfl | rfl | rfl | rfl | rfl | rfl | rfl | rfl | rfl | rfl | rfl | rfl | rfl | rfl | rfl | rfl | rfl | rfl | rfl | rfl
        · generalize hA : putsA _ _ x (0 :: 1 :: 2 :: 3 :: 4 :: 5 :: 6 :: 7 :: 8 :: 9 :: 10 :: 11 :: 12 :: 13 :: 14 :: 15 :: 16 :: 17 :: 18 :: 19 :: 20 :: 21 :: 22 :: 23 :: 24 :: 25 :: 26 :: 27 :: 28 :: 29 :: 30 :: 31 :: 32 :: 33 :: 34 :: 35 :: 36 :: 37 :: 38 :: 39 :: 40 :: 41 :: 42 :: 43 :: 44 :: 45 :: 46 :: 47 :: 48 :: 49 :: 50 :: 51 :: 52 :: []) = A at *
          have e0 : A.tmps[0]? = some (.slice (some ⟨b, ofs, none⟩) n' c) := by rw [← hA]; exact putsA_at 0 _ (by decide +kernel)
          clear hA hd
          refine wpOp_step rfl (fun K' hK' => ?_)
          go_simp
          exact hK' _ _ (hK _ _ ⟨0, 0, 0, rfl, al0⟩ (Below.refl _ _) no_al)
        · generalize hA : putsA _ _ x (0 :: 1 :: 2 :: 3 :: 4 :: 5 :: 6 :: 7 :: 8 :: 9 :: 10 :: 11 :: 12 :: 13 :: 14 :: 15 :: 16 :: 17 :: 18 :: 19 :: 20 :: 21 :: 22 :: 23 :: 24 :: 25 :: 26 :: 27 :: 28 :: 29 :: 30 :: 31 :: 32 :: 33 :: 34 :: 35 :: 36 :: 37 :: 38 :: 39 :: 40 :: 41 :: 42 :: 43 :: 44 :: 45 :: 46 :: 47 :: 48 :: 49 :: 50 :: 51 :: 52 :: []) = A at *
          have e5 : A.tmps[5]? = some (.int .i64 (j : Int)) := by rw [← hA]; exact putsA_at 5 _ (by decide +kernel)
          clear hA hd
          refine wpOp_step rfl (fun K' hK' => ?_)
          go_simp
          exact hK' _ _ (hK _ _ ⟨0, 0, 0, rfl, al0⟩ (Below.refl _ _) no_al)
        · generalize hA : putsA _ _ x (0 :: 1 :: 2 :: 3 :: 4 :: 5 :: 6 :: 7 :: 8 :: 9 :: 10 :: 11 :: 12 :: 13 :: 14 :: 15 :: 16 :: 17 :: 18 :: 19 :: 20 :: 21 :: 22 :: 23 :: 24 :: 25 :: 26 :: 27 :: 28 :: 29 :: 30 :: 31 :: 32 :: 33 :: 34 :: 35 :: 36 :: 37 :: 38 :: 39 :: 40 :: 41 :: 42 :: 43 :: 44 :: 45 :: 46 :: 47 :: 48 :: 49 :: 50 :: 51 :: 52 :: []) = A at *
          have e17 : A.tmps[17]? = some (x 0) := by rw [← hA]; exact putsA_in (i := 0) 17 (by rfl) (by show (17 : Nat) < 70; decide) _ (by decide +kernel) (by decide)
          obtain ⟨_, _, _, f0, _⟩ := hd 0 (by decide)
          replace f0 : x 0 = .slice (some ⟨b, ofs, none⟩) n' c := f0
          rw [f0] at e17
          have e18 : A.tmps[18]? = some (x 1) := by rw [← hA]; exact putsA_in (i := 1) 18 (by rfl) (by show (18 : Nat) < 70; decide) _ (by decide +kernel) (by decide)
          obtain ⟨_, _, _, f1, _⟩ := hd 1 (by decide)
          replace f1 : x 1 = .int .i64 (j : Int) := f1
          rw [f1] at e18
          clear hA hd
          refine wpOp_step rfl (fun K' hK' => ?_)
          go_simp
          exact hK' _ _ (hK _ _ ⟨0, 0, 0, rfl, al0⟩ (Below.refl _ _) no_al)
        · generalize hA : putsA _ _ x (0 :: 1 :: 2 :: 3 :: 4 :: 5 :: 6 :: 7 :: 8 :: 9 :: 10 :: 11 :: 12 :: 13 :: 14 :: 15 :: 16 :: 17 :: 18 :: 19 :: 20 :: 21 :: 22 :: 23 :: 24 :: 25 :: 26 :: 27 :: 28 :: 29 :: 30 :: 31 :: 32 :: 33 :: 34 :: 35 :: 36 :: 37 :: 38 :: 39 :: 40 :: 41 :: 42 :: 43 :: 44 :: 45 :: 46 :: 47 :: 48 :: 49 :: 50 :: 51 :: 52 :: []) = A at *
          have e19 : A.tmps[19]? = some (x 2) := by rw [← hA]; exact putsA_in (i := 2) 19 (by rfl) (by show (19 : Nat) < 70; decide) _ (by decide +kernel) (by decide)
          obtain ⟨_, _, _, f2, _⟩ := hd 2 (by decide)
          replace f2 : x 2 = .pointer (some ⟨b, ofs + j * 4, none⟩) := f2
          rw [f2] at e19
          clear hA hd
          refine wpOp_step rfl (fun K' hK' => ?_)
          go_simp
          exact hK' _ _ (hK _ _ ⟨0, 0, 0, rfl, al0⟩ (Below.refl _ _) no_al)
        · generalize hA : putsA _ _ x (0 :: 1 :: 2 :: 3 :: 4 :: 5 :: 6 :: 7 :: 8 :: 9 :: 10 :: 11 :: 12 :: 13 :: 14 :: 15 :: 16 :: 17 :: 18 :: 19 :: 20 :: 21 :: 22 :: 23 :: 24 :: 25 :: 26 :: 27 :: 28 :: 29 :: 30 :: 31 :: 32 :: 33 :: 34 :: 35 :: 36 :: 37 :: 38 :: 39 :: 40 :: 41 :: 42 :: 43 :: 44 :: 45 :: 46 :: 47 :: 48 :: 49 :: 50 :: 51 :: 52 :: []) = A at *
          have e20 : A.tmps[20]? = some (x 3) := by rw [← hA]; exact putsA_in (i := 3) 20 (by rfl) (by show (20 : Nat) < 70; decide) _ (by decide +kernel) (by decide)
          obtain ⟨_, _, _, f3, _⟩ := hd 3 (by decide)
          replace f3 : x 3 = .pointer (some ⟨b, ofs + j * 4, none⟩) := f3
          rw [f3] at e20
          clear hA hd
          refine wpOp_step rfl (fun K' hK' => ?_)
          go_simp
          exact hK' _ _ (hK _ _ ⟨0, 0, 0, rfl, al0⟩ (Below.refl _ _) no_al)
        · generalize hA : putsA _ _ x (0 :: 1 :: 2 :: 3 :: 4 :: 5 :: 6 :: 7 :: 8 :: 9 :: 10 :: 11 :: 12 :: 13 :: 14 :: 15 :: 16 :: 17 :: 18 :: 19 :: 20 :: 21 :: 22 :: 23 :: 24 :: 25 :: 26 :: 27 :: 28 :: 29 :: 30 :: 31 :: 32 :: 33 :: 34 :: 35 :: 36 :: 37 :: 38 :: 39 :: 40 :: 41 :: 42 :: 43 :: 44 :: 45 :: 46 :: 47 :: 48 :: 49 :: 50 :: 51 :: 52 :: []) = A at *
          have e1 : A.tmps[1]? = some (.slice (some ⟨b', ofs', none⟩) n' c') := by rw [← hA]; exact putsA_at 1 _ (by decide +kernel)
          clear hA hd
          refine wpOp_step rfl (fun K' hK' => ?_)
          go_simp
          exact hK' _ _ (hK _ _ ⟨0, 0, 0, rfl, al0⟩ (Below.refl _ _) no_al)
        · generalize hA : putsA _ _ x (0 :: 1 :: 2 :: 3 :: 4 :: 5 :: 6 :: 7 :: 8 :: 9 :: 10 :: 11 :: 12 :: 13 :: 14 :: 15 :: 16 :: 17 :: 18 :: 19 :: 20 :: 21 :: 22 :: 23 :: 24 :: 25 :: 26 :: 27 :: 28 :: 29 :: 30 :: 31 :: 32 :: 33 :: 34 :: 35 :: 36 :: 37 :: 38 :: 39 :: 40 :: 41 :: 42 :: 43 :: 44 :: 45 :: 46 :: 47 :: 48 :: 49 :: 50 :: 51 :: 52 :: []) = A at *
          have e5 : A.tmps[5]? = some (.int .i64 (j : Int)) := by rw [← hA]; exact putsA_at 5 _ (by decide +kernel)
          clear hA hd
          refine wpOp_step rfl (fun K' hK' => ?_)
          go_simp
          exact hK' _ _ (hK _ _ ⟨0, 0, 0, rfl, al0⟩ (Below.refl _ _) no_al)
        · generalize hA : putsA _ _ x (0 :: 1 :: 2 :: 3 :: 4 :: 5 :: 6 :: 7 :: 8 :: 9 :: 10 :: 11 :: 12 :: 13 :: 14 :: 15 :: 16 :: 17 :: 18 :: 19 :: 20 :: 21 :: 22 :: 23 :: 24 :: 25 :: 26 :: 27 :: 28 :: 29 :: 30 :: 31 :: 32 :: 33 :: 34 :: 35 :: 36 :: 37 :: 38 :: 39 :: 40 :: 41 :: 42 :: 43 :: 44 :: 45 :: 46 :: 47 :: 48 :: 49 :: 50 :: 51 :: 52 :: []) = A at *
          have e22 : A.tmps[22]? = some (x 5) := by rw [← hA]; exact putsA_in (i := 5) 22 (by rfl) (by show (22 : Nat) < 70; decide) _ (by decide +kernel) (by decide)
          obtain ⟨_, _, _, f5, _⟩ := hd 5 (by decide)
          replace f5 : x 5 = .slice (some ⟨b', ofs', none⟩) n' c' := f5
          rw [f5] at e22
          have e23 : A.tmps[23]? = some (x 6) := by rw [← hA]; exact putsA_in (i := 6) 23 (by rfl) (by show (23 : Nat) < 70; decide) _ (by decide +kernel) (by decide)
          obtain ⟨_, _, _, f6, _⟩ := hd 6 (by decide)
          replace f6 : x 6 = .int .i64 (j : Int) := f6
          rw [f6] at e23
          clear hA hd
          refine wpOp_step rfl (fun K' hK' => ?_)
          go_simp
          exact hK' _ _ (hK _ _ ⟨0, 0, 0, rfl, al0⟩ (Below.refl _ _) no_al)
        · generalize hA : putsA _ _ x (0 :: 1 :: 2 :: 3 :: 4 :: 5 :: 6 :: 7 :: 8 :: 9 :: 10 :: 11 :: 12 :: 13 :: 14 :: 15 :: 16 :: 17 :: 18 :: 19 :: 20 :: 21 :: 22 :: 23 :: 24 :: 25 :: 26 :: 27 :: 28 :: 29 :: 30 :: 31 :: 32 :: 33 :: 34 :: 35 :: 36 :: 37 :: 38 :: 39 :: 40 :: 41 :: 42 :: 43 :: 44 :: 45 :: 46 :: 47 :: 48 :: 49 :: 50 :: 51 :: 52 :: []) = A at *
          have e24 : A.tmps[24]? = some (x 7) := by rw [← hA]; exact putsA_in (i := 7) 24 (by rfl) (by show (24 : Nat) < 70; decide) _ (by decide +kernel) (by decide)
          obtain ⟨_, _, _, f7, _⟩ := hd 7 (by decide)
          replace f7 : x 7 = .pointer (some ⟨b', ofs' + j * 4, none⟩) := f7
          rw [f7] at e24
          clear hA hd
          refine wpOp_step rfl (fun K' hK' => ?_)
          go_simp
          exact hK' _ _ (hK _ _ ⟨0, 0, 0, rfl, al0⟩ (Below.refl _ _) no_al)
        · generalize hA : putsA _ _ x (0 :: 1 :: 2 :: 3 :: 4 :: 5 :: 6 :: 7 :: 8 :: 9 :: 10 :: 11 :: 12 :: 13 :: 14 :: 15 :: 16 :: 17 :: 18 :: 19 :: 20 :: 21 :: 22 :: 23 :: 24 :: 25 :: 26 :: 27 :: 28 :: 29 :: 30 :: 31 :: 32 :: 33 :: 34 :: 35 :: 36 :: 37 :: 38 :: 39 :: 40 :: 41 :: 42 :: 43 :: 44 :: 45 :: 46 :: 47 :: 48 :: 49 :: 50 :: 51 :: 52 :: []) = A at *
          have e25 : A.tmps[25]? = some (x 8) := by rw [← hA]; exact putsA_in (i := 8) 25 (by rfl) (by show (25 : Nat) < 70; decide) _ (by decide +kernel) (by decide)
          obtain ⟨_, _, _, f8, _⟩ := hd 8 (by decide)
          replace f8 : x 8 = .pointer (some ⟨b', ofs' + j * 4, none⟩) := f8
          rw [f8] at e25
          clear hA hd
          refine wpOp_step rfl (fun K' hK' => ?_)
          go_simp
          exact hK' _ _ (hK _ _ ⟨0, 0, 0, rfl, al0⟩ (Below.refl _ _) no_al)
        · generalize hA : putsA _ _ x (0 :: 1 :: 2 :: 3 :: 4 :: 5 :: 6 :: 7 :: 8 :: 9 :: 10 :: 11 :: 12 :: 13 :: 14 :: 15 :: 16 :: 17 :: 18 :: 19 :: 20 :: 21 :: 22 :: 23 :: 24 :: 25 :: 26 :: 27 :: 28 :: 29 :: 30 :: 31 :: 32 :: 33 :: 34 :: 35 :: 36 :: 37 :: 38 :: 39 :: 40 :: 41 :: 42 :: 43 :: 44 :: 45 :: 46 :: 47 :: 48 :: 49 :: 50 :: 51 :: 52 :: []) = A at *
          have e21 : A.tmps[21]? = some (x 4) := by rw [← hA]; exact putsA_in (i := 4) 21 (by rfl) (by show (21 : Nat) < 70; decide) _ (by decide +kernel) (by decide)
          obtain ⟨_, _, _, f4, _⟩ := hd 4 (by decide)
          replace f4 : x 4 = .string X.t := f4
          rw [f4] at e21
          have e26 : A.tmps[26]? = some (x 9) := by rw [← hA]; exact putsA_in (i := 9) 26 (by rfl) (by show (26 : Nat) < 70; decide) _ (by decide +kernel) (by decide)
          obtain ⟨_, _, _, f9, _⟩ := hd 9 (by decide)
          replace f9 : x 9 = .string Y.t := f9
          rw [f9] at e26
          clear hA hd
          refine wpOp_step rfl (fun K' hK' => ?_)
          go_simp
          exact hK' _ _ (hK _ _ ⟨0, 0, 0, rfl, al0⟩ (Below.refl _ _) no_al)
        · generalize hA : putsA _ _ x (0 :: 1 :: 2 :: 3 :: 4 :: 5 :: 6 :: 7 :: 8 :: 9 :: 10 :: 11 :: 12 :: 13 :: 14 :: 15 :: 16 :: 17 :: 18 :: 19 :: 20 :: 21 :: 22 :: 23 :: 24 :: 25 :: 26 :: 27 :: 28 :: 29 :: 30 :: 31 :: 32 :: 33 :: 34 :: 35 :: 36 :: 37 :: 38 :: 39 :: 40 :: 41 :: 42 :: 43 :: 44 :: 45 :: 46 :: 47 :: 48 :: 49 :: 50 :: 51 :: 52 :: []) = A at *
          have e27 : A.tmps[27]? = some (x 10) := by rw [← hA]; exact putsA_in (i := 10) 27 (by rfl) (by show (27 : Nat) < 70; decide) _ (by decide +kernel) (by decide)
          obtain ⟨_, _, _, f10, _⟩ := hd 10 (by decide)
          replace f10 : x 10 = .bool false := f10
          rw [f10] at e27
          clear hA hd
          refine wpOp_step rfl (fun K' hK' => ?_)
          go_simp
          exact hK' _ _ (hK _ _ ⟨0, 0, 0, rfl, al0⟩ (Below.refl _ _) no_al)
        · generalize hA : putsA _ _ x (0 :: 1 :: 2 :: 3 :: 4 :: 5 :: 6 :: 7 :: 8 :: 9 :: 10 :: 11 :: 12 :: 13 :: 14 :: 15 :: 16 :: 17 :: 18 :: 19 :: 20 :: 21 :: 22 :: 23 :: 24 :: 25 :: 26 :: 27 :: 28 :: 29 :: 30 :: 31 :: 32 :: 33 :: 34 :: 35 :: 36 :: 37 :: 38 :: 39 :: 40 :: 41 :: 42 :: 43 :: 44 :: 45 :: 46 :: 47 :: 48 :: 49 :: 50 :: 51 :: 52 :: []) = A at *
          have e0 : A.tmps[0]? = some (.slice (some ⟨b, ofs, none⟩) n' c) := by rw [← hA]; exact putsA_at 0 _ (by decide +kernel)
          have e28 : A.tmps[28]? = some (x 11) := by rw [← hA]; exact putsA_in (i := 11) 28 (by rfl) (by show (28 : Nat) < 70; decide) _ (by decide +kernel) (by decide)
          obtain ⟨_, _, _, f11, _⟩ := hd 11 (by decide)
          replace f11 : x 11 = .bool false := f11
          rw [f11] at e28
          clear hA hd
          refine wpOp_step rfl (fun K' hK' => ?_)
          go_simp
          exact hK' _ _ (hK _ _ ⟨0, 0, 0, rfl, al0⟩ (Below.refl _ _) no_al)
        · generalize hA : putsA _ _ x (0 :: 1 :: 2 :: 3 :: 4 :: 5 :: 6 :: 7 :: 8 :: 9 :: 10 :: 11 :: 12 :: 13 :: 14 :: 15 :: 16 :: 17 :: 18 :: 19 :: 20 :: 21 :: 22 :: 23 :: 24 :: 25 :: 26 :: 27 :: 28 :: 29 :: 30 :: 31 :: 32 :: 33 :: 34 :: 35 :: 36 :: 37 :: 38 :: 39 :: 40 :: 41 :: 42 :: 43 :: 44 :: 45 :: 46 :: 47 :: 48 :: 49 :: 50 :: 51 :: 52 :: []) = A at *
          have e5 : A.tmps[5]? = some (.int .i64 (j : Int)) := by rw [← hA]; exact putsA_at 5 _ (by decide +kernel)
          have e28 : A.tmps[28]? = some (x 11) := by rw [← hA]; exact putsA_in (i := 11) 28 (by rfl) (by show (28 : Nat) < 70; decide) _ (by decide +kernel) (by decide)
          obtain ⟨_, _, _, f11, _⟩ := hd 11 (by decide)
          replace f11 : x 11 = .bool false := f11
          rw [f11] at e28
          clear hA hd
          refine wpOp_step rfl (fun K' hK' => ?_)
          go_simp
          exact hK' _ _ (hK _ _ ⟨0, 0, 0, rfl, al0⟩ (Below.refl _ _) no_al)
        · generalize hA : putsA _ _ x (0 :: 1 :: 2 :: 3 :: 4 :: 5 :: 6 :: 7 :: 8 :: 9 :: 10 :: 11 :: 12 :: 13 :: 14 :: 15 :: 16 :: 17 :: 18 :: 19 :: 20 :: 21 :: 22 :: 23 :: 24 :: 25 :: 26 :: 27 :: 28 :: 29 :: 30 :: 31 :: 32 :: 33 :: 34 :: 35 :: 36 :: 37 :: 38 :: 39 :: 40 :: 41 :: 42 :: 43 :: 44 :: 45 :: 46 :: 47 :: 48 :: 49 :: 50 :: 51 :: 52 :: []) = A at *
          have e28 : A.tmps[28]? = some (x 11) := by rw [← hA]; exact putsA_in (i := 11) 28 (by rfl) (by show (28 : Nat) < 70; decide) _ (by decide +kernel) (by decide)
          obtain ⟨_, _, _, f11, _⟩ := hd 11 (by decide)
          replace f11 : x 11 = .bool false := f11
          rw [f11] at e28
          have e29 : A.tmps[29]? = some (x 12) := by rw [← hA]; exact putsA_in (i := 12) 29 (by rfl) (by show (29 : Nat) < 70; decide) _ (by decide +kernel) (by decide)
          obtain ⟨_, _, _, f12, _⟩ := hd 12 (by decide)
          replace f12 : x 12 = .slice (some ⟨b, ofs, none⟩) n' c := f12
          rw [f12] at e29
          have e30 : A.tmps[30]? = some (x 13) := by rw [← hA]; exact putsA_in (i := 13) 30 (by rfl) (by show (30 : Nat) < 70; decide) _ (by decide +kernel) (by decide)
          obtain ⟨_, _, _, f13, _⟩ := hd 13 (by decide)
          replace f13 : x 13 = .int .i64 (j : Int) := f13
          rw [f13] at e30
          clear hA hd
          refine wpOp_step rfl (fun K' hK' => ?_)
          go_simp
          exact hK' _ _ (hK _ _ ⟨0, 0, 0, rfl, al0⟩ (Below.refl _ _) no_al)
        · generalize hA : putsA _ _ x (0 :: 1 :: 2 :: 3 :: 4 :: 5 :: 6 :: 7 :: 8 :: 9 :: 10 :: 11 :: 12 :: 13 :: 14 :: 15 :: 16 :: 17 :: 18 :: 19 :: 20 :: 21 :: 22 :: 23 :: 24 :: 25 :: 26 :: 27 :: 28 :: 29 :: 30 :: 31 :: 32 :: 33 :: 34 :: 35 :: 36 :: 37 :: 38 :: 39 :: 40 :: 41 :: 42 :: 43 :: 44 :: 45 :: 46 :: 47 :: 48 :: 49 :: 50 :: 51 :: 52 :: []) = A at *
          have e28 : A.tmps[28]? = some (x 11) := by rw [← hA]; exact putsA_in (i := 11) 28 (by rfl) (by show (28 : Nat) < 70; decide) _ (by decide +kernel) (by decide)
          obtain ⟨_, _, _, f11, _⟩ := hd 11 (by decide)
          replace f11 : x 11 = .bool false := f11
          rw [f11] at e28
          have e31 : A.tmps[31]? = some (x 14) := by rw [← hA]; exact putsA_in (i := 14) 31 (by rfl) (by show (31 : Nat) < 70; decide) _ (by decide +kernel) (by decide)
          obtain ⟨_, _, _, f14, _⟩ := hd 14 (by decide)
          replace f14 : x 14 = .pointer (some ⟨b, ofs + j * 4, none⟩) := f14
          rw [f14] at e31
          clear hA hd
          refine wpOp_step rfl (fun K' hK' => ?_)
          go_simp
          exact hK' _ _ (hK _ _ ⟨0, 0, 0, rfl, al0⟩ (Below.refl _ _) no_al)
        · generalize hA : putsA _ _ x (0 :: 1 :: 2 :: 3 :: 4 :: 5 :: 6 :: 7 :: 8 :: 9 :: 10 :: 11 :: 12 :: 13 :: 14 :: 15 :: 16 :: 17 :: 18 :: 19 :: 20 :: 21 :: 22 :: 23 :: 24 :: 25 :: 26 :: 27 :: 28 :: 29 :: 30 :: 31 :: 32 :: 33 :: 34 :: 35 :: 36 :: 37 :: 38 :: 39 :: 40 :: 41 :: 42 :: 43 :: 44 :: 45 :: 46 :: 47 :: 48 :: 49 :: 50 :: 51 :: 52 :: []) = A at *
          have e28 : A.tmps[28]? = some (x 11) := by rw [← hA]; exact putsA_in (i := 11) 28 (by rfl) (by show (28 : Nat) < 70; decide) _ (by decide +kernel) (by decide)
          obtain ⟨_, _, _, f11, _⟩ := hd 11 (by decide)
          replace f11 : x 11 = .bool false := f11
          rw [f11] at e28
          have e32 : A.tmps[32]? = some (x 15) := by rw [← hA]; exact putsA_in (i := 15) 32 (by rfl) (by show (32 : Nat) < 70; decide) _ (by decide +kernel) (by decide)
          obtain ⟨_, _, _, f15, _⟩ := hd 15 (by decide)
          replace f15 : x 15 = .pointer (some ⟨b, ofs + j * 4 + 1, none⟩) := f15
          rw [f15] at e32
          clear hA hd
          refine wpOp_step rfl (fun K' hK' => ?_)
          go_simp
          exact hK' _ _ (hK _ _ ⟨0, 0, 0, rfl, al0⟩ (Below.refl _ _) no_al)
        · generalize hA : putsA _ _ x (0 :: 1 :: 2 :: 3 :: 4 :: 5 :: 6 :: 7 :: 8 :: 9 :: 10 :: 11 :: 12 :: 13 :: 14 :: 15 :: 16 :: 17 :: 18 :: 19 :: 20 :: 21 :: 22 :: 23 :: 24 :: 25 :: 26 :: 27 :: 28 :: 29 :: 30 :: 31 :: 32 :: 33 :: 34 :: 35 :: 36 :: 37 :: 38 :: 39 :: 40 :: 41 :: 42 :: 43 :: 44 :: 45 :: 46 :: 47 :: 48 :: 49 :: 50 :: 51 :: 52 :: []) = A at *
          have e1 : A.tmps[1]? = some (.slice (some ⟨b', ofs', none⟩) n' c') := by rw [← hA]; exact putsA_at 1 _ (by decide +kernel)
          have e28 : A.tmps[28]? = some (x 11) := by rw [← hA]; exact putsA_in (i := 11) 28 (by rfl) (by show (28 : Nat) < 70; decide) _ (by decide +kernel) (by decide)
          obtain ⟨_, _, _, f11, _⟩ := hd 11 (by decide)
          replace f11 : x 11 = .bool false := f11
          rw [f11] at e28
          clear hA hd
          refine wpOp_step rfl (fun K' hK' => ?_)
          go_simp
          exact hK' _ _ (hK _ _ ⟨0, 0, 0, rfl, al0⟩ (Below.refl _ _) no_al)
        · generalize hA : putsA _ _ x (0 :: 1 :: 2 :: 3 :: 4 :: 5 :: 6 :: 7 :: 8 :: 9 :: 10 :: 11 :: 12 :: 13 :: 14 :: 15 :: 16 :: 17 :: 18 :: 19 :: 20 :: 21 :: 22 :: 23 :: 24 :: 25 :: 26 :: 27 :: 28 :: 29 :: 30 :: 31 :: 32 :: 33 :: 34 :: 35 :: 36 :: 37 :: 38 :: 39 :: 40 :: 41 :: 42 :: 43 :: 44 :: 45 :: 46 :: 47 :: 48 :: 49 :: 50 :: 51 :: 52 :: []) = A at *
          have e5 : A.tmps[5]? = some (.int .i64 (j : Int)) := by rw [← hA]; exact putsA_at 5 _ (by decide +kernel)
          have e28 : A.tmps[28]? = some (x 11) := by rw [← hA]; exact putsA_in (i := 11) 28 (by rfl) (by show (28 : Nat) < 70; decide) _ (by decide +kernel) (by decide)
          obtain ⟨_, _, _, f11, _⟩ := hd 11 (by decide)
          replace f11 : x 11 = .bool false := f11
          rw [f11] at e28
          clear hA hd
          refine wpOp_step rfl (fun K' hK' => ?_)
          go_simp
          exact hK' _ _ (hK _ _ ⟨0, 0, 0, rfl, al0⟩ (Below.refl _ _) no_al)
        · generalize hA : putsA _ _ x (0 :: 1 :: 2 :: 3 :: 4 :: 5 :: 6 :: 7 :: 8 :: 9 :: 10 :: 11 :: 12 :: 13 :: 14 :: 15 :: 16 :: 17 :: 18 :: 19 :: 20 :: 21 :: 22 :: 23 :: 24 :: 25 :: 26 :: 27 :: 28 :: 29 :: 30 :: 31 :: 32 :: 33 :: 34 :: 35 :: 36 :: 37 :: 38 :: 39 :: 40 :: 41 :: 42 :: 43 :: 44 :: 45 :: 46 :: 47 :: 48 :: 49 :: 50 :: 51 :: 52 :: []) = A at *
          have e28 : A.tmps[28]? = some (x 11) := by rw [← hA]; exact putsA_in (i := 11) 28 (by rfl) (by show (28 : Nat) < 70; decide) _ (by decide +kernel) (by decide)
          obtain ⟨_, _, _, f11, _⟩ := hd 11 (by decide)
          replace f11 : x 11 = .bool false := f11
          rw [f11] at e28
          have e34 : A.tmps[34]? = some (x 17) := by rw [← hA]; exact putsA_in (i := 17) 34 (by rfl) (by show (34 : Nat) < 70; decide) _ (by decide +kernel) (by decide)
          obtain ⟨_, _, _, f17, _⟩ := hd 17 (by decide)
          replace f17 : x 17 = .slice (some ⟨b', ofs', none⟩) n' c' := f17
          rw [f17] at e34
          have e35 : A.tmps[35]? = some (x 18) := by rw [← hA]; exact putsA_in (i := 18) 35 (by rfl) (by show (35 : Nat) < 70; decide) _ (by decide +kernel) (by decide)
          obtain ⟨_, _, _, f18, _⟩ := hd 18 (by decide)
          replace f18 : x 18 = .int .i64 (j : Int) := f18
          rw [f18] at e35
          clear hA hd
          refine wpOp_step rfl (fun K' hK' => ?_)
          go_simp
          exact hK' _ _ (hK _ _ ⟨0, 0, 0, rfl, al0⟩ (Below.refl _ _) no_al)
        · generalize hA : putsA _ _ x (0 :: 1 :: 2 :: 3 :: 4 :: 5 :: 6 :: 7 :: 8 :: 9 :: 10 :: 11 :: 12 :: 13 :: 14 :: 15 :: 16 :: 17 :: 18 :: 19 :: 20 :: 21 :: 22 :: 23 :: 24 :: 25 :: 26 :: 27 :: 28 :: 29 :: 30 :: 31 :: 32 :: 33 :: 34 :: 35 :: 36 :: 37 :: 38 :: 39 :: 40 :: 41 :: 42 :: 43 :: 44 :: 45 :: 46 :: 47 :: 48 :: 49 :: 50 :: 51 :: 52 :: []) = A at *
          have e28 : A.tmps[28]? = some (x 11) := by rw [← hA]; exact putsA_in (i := 11) 28 (by rfl) (by show (28 : Nat) < 70; decide) _ (by decide +kernel) (by decide)
          obtain ⟨_, _, _, f11, _⟩ := hd 11 (by decide)
          replace f11 : x 11 = .bool false := f11
          rw [f11] at e28
          have e36 : A.tmps[36]? = some (x 19) := by rw [← hA]; exact putsA_in (i := 19) 36 (by rfl) (by show (36 : Nat) < 70; decide) _ (by decide +kernel) (by decide)
          obtain ⟨_, _, _, f19, _⟩ := hd 19 (by decide)
          replace f19 : x 19 = .pointer (some ⟨b', ofs' + j * 4, none⟩) := f19
          rw [f19] at e36
          clear hA hd
          refine wpOp_step rfl (fun K' hK' => ?_)
          go_simp
          exact hK' _ _ (hK _ _ ⟨0, 0, 0, rfl, al0⟩ (Below.refl _ _) no_al)
        · generalize hA : putsA _ _ x (0 :: 1 :: 2 :: 3 :: 4 :: 5 :: 6 :: 7 :: 8 :: 9 :: 10 :: 11 :: 12 :: 13 :: 14 :: 15 :: 16 :: 17 :: 18 :: 19 :: 20 :: 21 :: 22 :: 23 :: 24 :: 25 :: 26 :: 27 :: 28 :: 29 :: 30 :: 31 :: 32 :: 33 :: 34 :: 35 :: 36 :: 37 :: 38 :: 39 :: 40 :: 41 :: 42 :: 43 :: 44 :: 45 :: 46 :: 47 :: 48 :: 49 :: 50 :: 51 :: 52 :: []) = A at *
          have e28 : A.tmps[28]? = some (x 11) := by rw [← hA]; exact putsA_in (i := 11) 28 (by rfl) (by show (28 : Nat) < 70; decide) _ (by decide +kernel) (by decide)
          obtain ⟨_, _, _, f11, _⟩ := hd 11 (by decide)
          replace f11 : x 11 = .bool false := f11
          rw [f11] at e28
          have e37 : A.tmps[37]? = some (x 20) := by rw [← hA]; exact putsA_in (i := 20) 37 (by rfl) (by show (37 : Nat) < 70; decide) _ (by decide +kernel) (by decide)
          obtain ⟨_, _, _, f20, _⟩ := hd 20 (by decide)
          replace f20 : x 20 = .pointer (some ⟨b', ofs' + j * 4 + 1, none⟩) := f20
          rw [f20] at e37
          clear hA hd
          refine wpOp_step rfl (fun K' hK' => ?_)
          go_simp
          exact hK' _ _ (hK _ _ ⟨0, 0, 0, rfl, al0⟩ (Below.refl _ _) no_al)
        · generalize hA : putsA _ _ x (0 :: 1 :: 2 :: 3 :: 4 :: 5 :: 6 :: 7 :: 8 :: 9 :: 10 :: 11 :: 12 :: 13 :: 14 :: 15 :: 16 :: 17 :: 18 :: 19 :: 20 :: 21 :: 22 :: 23 :: 24 :: 25 :: 26 :: 27 :: 28 :: 29 :: 30 :: 31 :: 32 :: 33 :: 34 :: 35 :: 36 :: 37 :: 38 :: 39 :: 40 :: 41 :: 42 :: 43 :: 44 :: 45 :: 46 :: 47 :: 48 :: 49 :: 50 :: 51 :: 52 :: []) = A at *
          have e28 : A.tmps[28]? = some (x 11) := by rw [← hA]; exact putsA_in (i := 11) 28 (by rfl) (by show (28 : Nat) < 70; decide) _ (by decide +kernel) (by decide)
          obtain ⟨_, _, _, f11, _⟩ := hd 11 (by decide)
          replace f11 : x 11 = .bool false := f11
          rw [f11] at e28
          have e33 : A.tmps[33]? = some (x 16) := by rw [← hA]; exact putsA_in (i := 16) 33 (by rfl) (by show (33 : Nat) < 70; decide) _ (by decide +kernel) (by decide)
          obtain ⟨_, _, _, f16, _⟩ := hd 16 (by decide)
          replace f16 : x 16 = .slice X.kA X.k.length X.kc := f16
          rw [f16] at e33
          have e38 : A.tmps[38]? = some (x 21) := by rw [← hA]; exact putsA_in (i := 21) 38 (by rfl) (by show (38 : Nat) < 70; decide) _ (by decide +kernel) (by decide)
          obtain ⟨_, _, _, f21, _⟩ := hd 21 (by decide)
          replace f21 : x 21 = .slice Y.kA Y.k.length Y.kc := f21
          rw [f21] at e38
          clear hA hd
          refine wpOp_step rfl (fun K' hK' => ?_)
          go_simp
          refine (HK.out W hs).mono ?_
          rintro e w6 ⟨rfl, hb6⟩
          exact hK' _ _ (hK _ _ ⟨0, 0, 0, rfl, al0⟩ hb6 no_al)
        · generalize hA : putsA _ _ x (0 :: 1 :: 2 :: 3 :: 4 :: 5 :: 6 :: 7 :: 8 :: 9 :: 10 :: 11 :: 12 :: 13 :: 14 :: 15 :: 16 :: 17 :: 18 :: 19 :: 20 :: 21 :: 22 :: 23 :: 24 :: 25 :: 26 :: 27 :: 28 :: 29 :: 30 :: 31 :: 32 :: 33 :: 34 :: 35 :: 36 :: 37 :: 38 :: 39 :: 40 :: 41 :: 42 :: 43 :: 44 :: 45 :: 46 :: 47 :: 48 :: 49 :: 50 :: 51 :: 52 :: []) = A at *
          have e28 : A.tmps[28]? = some (x 11) := by rw [← hA]; exact putsA_in (i := 11) 28 (by rfl) (by show (28 : Nat) < 70; decide) _ (by decide +kernel) (by decide)
          obtain ⟨_, _, _, f11, _⟩ := hd 11 (by decide)
          replace f11 : x 11 = .bool false := f11
          rw [f11] at e28
          have e39 : A.tmps[39]? = some (x 22) := by rw [← hA]; exact putsA_in (i := 22) 39 (by rfl) (by show (39 : Nat) < 70; decide) _ (by decide +kernel) (by decide)
          obtain ⟨_, _, _, f22, _⟩ := hd 22 (by decide)
          replace f22 : x 22 = .bool true := f22
          rw [f22] at e39
          clear hA hd
          refine wpOp_step rfl (fun K' hK' => ?_)
          go_simp
          exact hK' _ _ (hK _ _ ⟨0, 0, 0, rfl, al0⟩ (Below.refl _ _) no_al)
        · generalize hA : putsA _ _ x (0 :: 1 :: 2 :: 3 :: 4 :: 5 :: 6 :: 7 :: 8 :: 9 :: 10 :: 11 :: 12 :: 13 :: 14 :: 15 :: 16 :: 17 :: 18 :: 19 :: 20 :: 21 :: 22 :: 23 :: 24 :: 25 :: 26 :: 27 :: 28 :: 29 :: 30 :: 31 :: 32 :: 33 :: 34 :: 35 :: 36 :: 37 :: 38 :: 39 :: 40 :: 41 :: 42 :: 43 :: 44 :: 45 :: 46 :: 47 :: 48 :: 49 :: 50 :: 51 :: 52 :: []) = A at *
          have e28 : A.tmps[28]? = some (x 11) := by rw [← hA]; exact putsA_in (i := 11) 28 (by rfl) (by show (28 : Nat) < 70; decide) _ (by decide +kernel) (by decide)
          obtain ⟨_, _, _, f11, _⟩ := hd 11 (by decide)
          replace f11 : x 11 = .bool false := f11
          rw [f11] at e28
          have e40 : A.tmps[40]? = some (x 23) := by rw [← hA]; exact putsA_in (i := 23) 40 (by rfl) (by show (40 : Nat) < 70; decide) _ (by decide +kernel) (by decide)
          obtain ⟨_, _, _, f23, _⟩ := hd 23 (by decide)
          replace f23 : x 23 = .bool false := f23
          rw [f23] at e40
          clear hA hd
          refine wpOp_step rfl (fun K' hK' => ?_)
          go_simp
          exact hK' _ _ (hK _ _ ⟨0, 0, 0, rfl, al0⟩ (Below.refl _ _) no_al)
        · generalize hA : putsA _ _ x (0 :: 1 :: 2 :: 3 :: 4 :: 5 :: 6 :: 7 :: 8 :: 9 :: 10 :: 11 :: 12 :: 13 :: 14 :: 15 :: 16 :: 17 :: 18 :: 19 :: 20 :: 21 :: 22 :: 23 :: 24 :: 25 :: 26 :: 27 :: 28 :: 29 :: 30 :: 31 :: 32 :: 33 :: 34 :: 35 :: 36 :: 37 :: 38 :: 39 :: 40 :: 41 :: 42 :: 43 :: 44 :: 45 :: 46 :: 47 :: 48 :: 49 :: 50 :: 51 :: 52 :: []) = A at *
          have e41 : A.tmps[41]? = some (x 24) := by rw [← hA]; exact putsA_in (i := 24) 41 (by rfl) (by show (41 : Nat) < 70; decide) _ (by decide +kernel) (by decide)
          obtain ⟨_, _, _, f24, _⟩ := hd 24 (by decide)
          replace f24 : x 24 = .bool false := f24
          rw [f24] at e41
          clear hA hd
          refine wpOp_step rfl (fun K' hK' => ?_)
          go_simp
          exact hK' _ _ (hK _ _ ⟨0, 0, 0, rfl, al0⟩ (Below.refl _ _) no_al)
        · generalize hA : putsA _ _ x (0 :: 1 :: 2 :: 3 :: 4 :: 5 :: 6 :: 7 :: 8 :: 9 :: 10 :: 11 :: 12 :: 13 :: 14 :: 15 :: 16 :: 17 :: 18 :: 19 :: 20 :: 21 :: 22 :: 23 :: 24 :: 25 :: 26 :: 27 :: 28 :: 29 :: 30 :: 31 :: 32 :: 33 :: 34 :: 35 :: 36 :: 37 :: 38 :: 39 :: 40 :: 41 :: 42 :: 43 :: 44 :: 45 :: 46 :: 47 :: 48 :: 49 :: 50 :: 51 :: 52 :: []) = A at *
          have e0 : A.tmps[0]? = some (.slice (some ⟨b, ofs, none⟩) n' c) := by rw [← hA]; exact putsA_at 0 _ (by decide +kernel)
          have e42 : A.tmps[42]? = some (x 25) := by rw [← hA]; exact putsA_in (i := 25) 42 (by rfl) (by show (42 : Nat) < 70; decide) _ (by decide +kernel) (by decide)
          obtain ⟨_, _, _, f25, _⟩ := hd 25 (by decide)
          replace f25 : x 25 = .bool false := f25
          rw [f25] at e42
          clear hA hd
          refine wpOp_step rfl (fun K' hK' => ?_)
          go_simp
          exact hK' _ _ (hK _ _ ⟨0, 0, 0, rfl, al0⟩ (Below.refl _ _) no_al)
        · generalize hA : putsA _ _ x (0 :: 1 :: 2 :: 3 :: 4 :: 5 :: 6 :: 7 :: 8 :: 9 :: 10 :: 11 :: 12 :: 13 :: 14 :: 15 :: 16 :: 17 :: 18 :: 19 :: 20 :: 21 :: 22 :: 23 :: 24 :: 25 :: 26 :: 27 :: 28 :: 29 :: 30 :: 31 :: 32 :: 33 :: 34 :: 35 :: 36 :: 37 :: 38 :: 39 :: 40 :: 41 :: 42 :: 43 :: 44 :: 45 :: 46 :: 47 :: 48 :: 49 :: 50 :: 51 :: 52 :: []) = A at *
          have e5 : A.tmps[5]? = some (.int .i64 (j : Int)) := by rw [← hA]; exact putsA_at 5 _ (by decide +kernel)
          have e42 : A.tmps[42]? = some (x 25) := by rw [← hA]; exact putsA_in (i := 25) 42 (by rfl) (by show (42 : Nat) < 70; decide) _ (by decide +kernel) (by decide)
          obtain ⟨_, _, _, f25, _⟩ := hd 25 (by decide)
          replace f25 : x 25 = .bool false := f25
          rw [f25] at e42
          clear hA hd
          refine wpOp_step rfl (fun K' hK' => ?_)
          go_simp
          exact hK' _ _ (hK _ _ ⟨0, 0, 0, rfl, al0⟩ (Below.refl _ _) no_al)
        · generalize hA : putsA _ _ x (0 :: 1 :: 2 :: 3 :: 4 :: 5 :: 6 :: 7 :: 8 :: 9 :: 10 :: 11 :: 12 :: 13 :: 14 :: 15 :: 16 :: 17 :: 18 :: 19 :: 20 :: 21 :: 22 :: 23 :: 24 :: 25 :: 26 :: 27 :: 28 :: 29 :: 30 :: 31 :: 32 :: 33 :: 34 :: 35 :: 36 :: 37 :: 38 :: 39 :: 40 :: 41 :: 42 :: 43 :: 44 :: 45 :: 46 :: 47 :: 48 :: 49 :: 50 :: 51 :: 52 :: []) = A at *
          have e42 : A.tmps[42]? = some (x 25) := by rw [← hA]; exact putsA_in (i := 25) 42 (by rfl) (by show (42 : Nat) < 70; decide) _ (by decide +kernel) (by decide)
          obtain ⟨_, _, _, f25, _⟩ := hd 25 (by decide)
          replace f25 : x 25 = .bool false := f25
          rw [f25] at e42
          have e43 : A.tmps[43]? = some (x 26) := by rw [← hA]; exact putsA_in (i := 26) 43 (by rfl) (by show (43 : Nat) < 70; decide) _ (by decide +kernel) (by decide)
          obtain ⟨_, _, _, f26, _⟩ := hd 26 (by decide)
          replace f26 : x 26 = .slice (some ⟨b, ofs, none⟩) n' c := f26
          rw [f26] at e43
          have e44 : A.tmps[44]? = some (x 27) := by rw [← hA]; exact putsA_in (i := 27) 44 (by rfl) (by show (44 : Nat) < 70; decide) _ (by decide +kernel) (by decide)
          obtain ⟨_, _, _, f27, _⟩ := hd 27 (by decide)
          replace f27 : x 27 = .int .i64 (j : Int) := f27
          rw [f27] at e44
          clear hA hd
          refine wpOp_step rfl (fun K' hK' => ?_)
          go_simp
          exact hK' _ _ (hK _ _ ⟨0, 0, 0, rfl, al0⟩ (Below.refl _ _) no_al)
        · generalize hA : putsA _ _ x (0 :: 1 :: 2 :: 3 :: 4 :: 5 :: 6 :: 7 :: 8 :: 9 :: 10 :: 11 :: 12 :: 13 :: 14 :: 15 :: 16 :: 17 :: 18 :: 19 :: 20 :: 21 :: 22 :: 23 :: 24 :: 25 :: 26 :: 27 :: 28 :: 29 :: 30 :: 31 :: 32 :: 33 :: 34 :: 35 :: 36 :: 37 :: 38 :: 39 :: 40 :: 41 :: 42 :: 43 :: 44 :: 45 :: 46 :: 47 :: 48 :: 49 :: 50 :: 51 :: 52 :: []) = A at *
          have e42 : A.tmps[42]? = some (x 25) := by rw [← hA]; exact putsA_in (i := 25) 42 (by rfl) (by show (42 : Nat) < 70; decide) _ (by decide +kernel) (by decide)
          obtain ⟨_, _, _, f25, _⟩ := hd 25 (by decide)
          replace f25 : x 25 = .bool false := f25
          rw [f25] at e42
          have e45 : A.tmps[45]? = some (x 28) := by rw [← hA]; exact putsA_in (i := 28) 45 (by rfl) (by show (45 : Nat) < 70; decide) _ (by decide +kernel) (by decide)
          obtain ⟨_, _, _, f28, _⟩ := hd 28 (by decide)
          replace f28 : x 28 = .pointer (some ⟨b, ofs + j * 4, none⟩) := f28
          rw [f28] at e45
          clear hA hd
          refine wpOp_step rfl (fun K' hK' => ?_)
          go_simp
          exact hK' _ _ (hK _ _ ⟨0, 0, 0, rfl, al0⟩ (Below.refl _ _) no_al)
        · generalize hA : putsA _ _ x (0 :: 1 :: 2 :: 3 :: 4 :: 5 :: 6 :: 7 :: 8 :: 9 :: 10 :: 11 :: 12 :: 13 :: 14 :: 15 :: 16 :: 17 :: 18 :: 19 :: 20 :: 21 :: 22 :: 23 :: 24 :: 25 :: 26 :: 27 :: 28 :: 29 :: 30 :: 31 :: 32 :: 33 :: 34 :: 35 :: 36 :: 37 :: 38 :: 39 :: 40 :: 41 :: 42 :: 43 :: 44 :: 45 :: 46 :: 47 :: 48 :: 49 :: 50 :: 51 :: 52 :: []) = A at *
          have e42 : A.tmps[42]? = some (x 25) := by rw [← hA]; exact putsA_in (i := 25) 42 (by rfl) (by show (42 : Nat) < 70; decide) _ (by decide +kernel) (by decide)
          obtain ⟨_, _, _, f25, _⟩ := hd 25 (by decide)
          replace f25 : x 25 = .bool false := f25
          rw [f25] at e42
          have e46 : A.tmps[46]? = some (x 29) := by rw [← hA]; exact putsA_in (i := 29) 46 (by rfl) (by show (46 : Nat) < 70; decide) _ (by decide +kernel) (by decide)
          obtain ⟨_, _, _, f29, _⟩ := hd 29 (by decide)
          replace f29 : x 29 = .pointer (some ⟨b, ofs + j * 4 + 2, none⟩) := f29
          rw [f29] at e46
          clear hA hd
          refine wpOp_step rfl (fun K' hK' => ?_)
          go_simp
          exact hK' _ _ (hK _ _ ⟨0, 0, 0, rfl, al0⟩ (Below.refl _ _) no_al)
        · generalize hA : putsA _ _ x (0 :: 1 :: 2 :: 3 :: 4 :: 5 :: 6 :: 7 :: 8 :: 9 :: 10 :: 11 :: 12 :: 13 :: 14 :: 15 :: 16 :: 17 :: 18 :: 19 :: 20 :: 21 :: 22 :: 23 :: 24 :: 25 :: 26 :: 27 :: 28 :: 29 :: 30 :: 31 :: 32 :: 33 :: 34 :: 35 :: 36 :: 37 :: 38 :: 39 :: 40 :: 41 :: 42 :: 43 :: 44 :: 45 :: 46 :: 47 :: 48 :: 49 :: 50 :: 51 :: 52 :: []) = A at *
          have e1 : A.tmps[1]? = some (.slice (some ⟨b', ofs', none⟩) n' c') := by rw [← hA]; exact putsA_at 1 _ (by decide +kernel)
          have e42 : A.tmps[42]? = some (x 25) := by rw [← hA]; exact putsA_in (i := 25) 42 (by rfl) (by show (42 : Nat) < 70; decide) _ (by decide +kernel) (by decide)
          obtain ⟨_, _, _, f25, _⟩ := hd 25 (by decide)
          replace f25 : x 25 = .bool false := f25
          rw [f25] at e42
          clear hA hd
          refine wpOp_step rfl (fun K' hK' => ?_)
          go_simp
          exact hK' _ _ (hK _ _ ⟨0, 0, 0, rfl, al0⟩ (Below.refl _ _) no_al)
        · generalize hA : putsA _ _ x (0 :: 1 :: 2 :: 3 :: 4 :: 5 :: 6 :: 7 :: 8 :: 9 :: 10 :: 11 :: 12 :: 13 :: 14 :: 15 :: 16 :: 17 :: 18 :: 19 :: 20 :: 21 :: 22 :: 23 :: 24 :: 25 :: 26 :: 27 :: 28 :: 29 :: 30 :: 31 :: 32 :: 33 :: 34 :: 35 :: 36 :: 37 :: 38 :: 39 :: 40 :: 41 :: 42 :: 43 :: 44 :: 45 :: 46 :: 47 :: 48 :: 49 :: 50 :: 51 :: 52 :: []) = A at *
          have e5 : A.tmps[5]? = some (.int .i64 (j : Int)) := by rw [← hA]; exact putsA_at 5 _ (by decide +kernel)
          have e42 : A.tmps[42]? = some (x 25) := by rw [← hA]; exact putsA_in (i := 25) 42 (by rfl) (by show (42 : Nat) < 70; decide) _ (by decide +kernel) (by decide)
          obtain ⟨_, _, _, f25, _⟩ := hd 25 (by decide)
          replace f25 : x 25 = .bool false := f25
          rw [f25] at e42
          clear hA hd
          refine wpOp_step rfl (fun K' hK' => ?_)
          go_simp
          exact hK' _ _ (hK _ _ ⟨0, 0, 0, rfl, al0⟩ (Below.refl _ _) no_al)
        · generalize hA : putsA _ _ x (0 :: 1 :: 2 :: 3 :: 4 :: 5 :: 6 :: 7 :: 8 :: 9 :: 10 :: 11 :: 12 :: 13 :: 14 :: 15 :: 16 :: 17 :: 18 :: 19 :: 20 :: 21 :: 22 :: 23 :: 24 :: 25 :: 26 :: 27 :: 28 :: 29 :: 30 :: 31 :: 32 :: 33 :: 34 :: 35 :: 36 :: 37 :: 38 :: 39 :: 40 :: 41 :: 42 :: 43 :: 44 :: 45 :: 46 :: 47 :: 48 :: 49 :: 50 :: 51 :: 52 :: []) = A at *
          have e42 : A.tmps[42]? = some (x 25) := by rw [← hA]; exact putsA_in (i := 25) 42 (by rfl) (by show (42 : Nat) < 70; decide) _ (by decide +kernel) (by decide)
          obtain ⟨_, _, _, f25, _⟩ := hd 25 (by decide)
          replace f25 : x 25 = .bool false := f25
          rw [f25] at e42
          have e48 : A.tmps[48]? = some (x 31) := by rw [← hA]; exact putsA_in (i := 31) 48 (by rfl) (by show (48 : Nat) < 70; decide) _ (by decide +kernel) (by decide)
          obtain ⟨_, _, _, f31, _⟩ := hd 31 (by decide)
          replace f31 : x 31 = .slice (some ⟨b', ofs', none⟩) n' c' := f31
          rw [f31] at e48
          have e49 : A.tmps[49]? = some (x 32) := by rw [← hA]; exact putsA_in (i := 32) 49 (by rfl) (by show (49 : Nat) < 70; decide) _ (by decide +kernel) (by decide)
          obtain ⟨_, _, _, f32, _⟩ := hd 32 (by decide)
          replace f32 : x 32 = .int .i64 (j : Int) := f32
          rw [f32] at e49
          clear hA hd
          refine wpOp_step rfl (fun K' hK' => ?_)
          go_simp
          exact hK' _ _ (hK _ _ ⟨0, 0, 0, rfl, al0⟩ (Below.refl _ _) no_al)
        · generalize hA : putsA _ _ x (0 :: 1 :: 2 :: 3 :: 4 :: 5 :: 6 :: 7 :: 8 :: 9 :: 10 :: 11 :: 12 :: 13 :: 14 :: 15 :: 16 :: 17 :: 18 :: 19 :: 20 :: 21 :: 22 :: 23 :: 24 :: 25 :: 26 :: 27 :: 28 :: 29 :: 30 :: 31 :: 32 :: 33 :: 34 :: 35 :: 36 :: 37 :: 38 :: 39 :: 40 :: 41 :: 42 :: 43 :: 44 :: 45 :: 46 :: 47 :: 48 :: 49 :: 50 :: 51 :: 52 :: []) = A at *
          have e42 : A.tmps[42]? = some (x 25) := by rw [← hA]; exact putsA_in (i := 25) 42 (by rfl) (by show (42 : Nat) < 70; decide) _ (by decide +kernel) (by decide)
          obtain ⟨_, _, _, f25, _⟩ := hd 25 (by decide)
          replace f25 : x 25 = .bool false := f25
          rw [f25] at e42
          have e50 : A.tmps[50]? = some (x 33) := by rw [← hA]; exact putsA_in (i := 33) 50 (by rfl) (by show (50 : Nat) < 70; decide) _ (by decide +kernel) (by decide)
          obtain ⟨_, _, _, f33, _⟩ := hd 33 (by decide)
          replace f33 : x 33 = .pointer (some ⟨b', ofs' + j * 4, none⟩) := f33
          rw [f33] at e50
          clear hA hd
          refine wpOp_step rfl (fun K' hK' => ?_)
          go_simp
          exact hK' _ _ (hK _ _ ⟨0, 0, 0, rfl, al0⟩ (Below.refl _ _) no_al)
        · generalize hA : putsA _ _ x (0 :: 1 :: 2 :: 3 :: 4 :: 5 :: 6 :: 7 :: 8 :: 9 :: 10 :: 11 :: 12 :: 13 :: 14 :: 15 :: 16 :: 17 :: 18 :: 19 :: 20 :: 21 :: 22 :: 23 :: 24 :: 25 :: 26 :: 27 :: 28 :: 29 :: 30 :: 31 :: 32 :: 33 :: 34 :: 35 :: 36 :: 37 :: 38 :: 39 :: 40 :: 41 :: 42 :: 43 :: 44 :: 45 :: 46 :: 47 :: 48 :: 49 :: 50 :: 51 :: 52 :: []) = A at *
          have e42 : A.tmps[42]? = some (x 25) := by rw [← hA]; exact putsA_in (i := 25) 42 (by rfl) (by show (42 : Nat) < 70; decide) _ (by decide +kernel) (by decide)
          obtain ⟨_, _, _, f25, _⟩ := hd 25 (by decide)
          replace f25 : x 25 = .bool false := f25
          rw [f25] at e42
          have e51 : A.tmps[51]? = some (x 34) := by rw [← hA]; exact putsA_in (i := 34) 51 (by rfl) (by show (51 : Nat) < 70; decide) _ (by decide +kernel) (by decide)
          obtain ⟨_, _, _, f34, _⟩ := hd 34 (by decide)
          replace f34 : x 34 = .pointer (some ⟨b', ofs' + j * 4 + 2, none⟩) := f34
          rw [f34] at e51
          clear hA hd
          refine wpOp_step rfl (fun K' hK' => ?_)
          go_simp
          exact hK' _ _ (hK _ _ ⟨0, 0, 0, rfl, al0⟩ (Below.refl _ _) no_al)
        · generalize hA : putsA _ _ x (0 :: 1 :: 2 :: 3 :: 4 :: 5 :: 6 :: 7 :: 8 :: 9 :: 10 :: 11 :: 12 :: 13 :: 14 :: 15 :: 16 :: 17 :: 18 :: 19 :: 20 :: 21 :: 22 :: 23 :: 24 :: 25 :: 26 :: 27 :: 28 :: 29 :: 30 :: 31 :: 32 :: 33 :: 34 :: 35 :: 36 :: 37 :: 38 :: 39 :: 40 :: 41 :: 42 :: 43 :: 44 :: 45 :: 46 :: 47 :: 48 :: 49 :: 50 :: 51 :: 52 :: []) = A at *
          have e42 : A.tmps[42]? = some (x 25) := by rw [← hA]; exact putsA_in (i := 25) 42 (by rfl) (by show (42 : Nat) < 70; decide) _ (by decide +kernel) (by decide)
          obtain ⟨_, _, _, f25, _⟩ := hd 25 (by decide)
          replace f25 : x 25 = .bool false := f25
          rw [f25] at e42
          have e47 : A.tmps[47]? = some (x 30) := by rw [← hA]; exact putsA_in (i := 30) 47 (by rfl) (by show (47 : Nat) < 70; decide) _ (by decide +kernel) (by decide)
          obtain ⟨_, _, _, f30, _⟩ := hd 30 (by decide)
          replace f30 : x 30 = .slice X.oA X.o.length X.oc := f30
          rw [f30] at e47
          have e52 : A.tmps[52]? = some (x 35) := by rw [← hA]; exact putsA_in (i := 35) 52 (by rfl) (by show (52 : Nat) < 70; decide) _ (by decide +kernel) (by decide)
          obtain ⟨_, _, _, f35, _⟩ := hd 35 (by decide)
          replace f35 : x 35 = .slice Y.oA Y.o.length Y.oc := f35
          rw [f35] at e52
          clear hA hd
          refine wpOp_step rfl (fun K' hK' => ?_)
          go_simp
          refine (HL.out W hs).mono ?_
          rintro e w6 ⟨rfl, hb6⟩
          exact hK' _ _ (hK _ _ ⟨0, 0, 0, rfl, al0⟩ hb6 no_al)
        · generalize hA : putsA _ _ x (0 :: 1 :: 2 :: 3 :: 4 :: 5 :: 6 :: 7 :: 8 :: 9 :: 10 :: 11 :: 12 :: 13 :: 14 :: 15 :: 16 :: 17 :: 18 :: 19 :: 20 :: 21 :: 22 :: 23 :: 24 :: 25 :: 26 :: 27 :: 28 :: 29 :: 30 :: 31 :: 32 :: 33 :: 34 :: 35 :: 36 :: 37 :: 38 :: 39 :: 40 :: 41 :: 42 :: 43 :: 44 :: 45 :: 46 :: 47 :: 48 :: 49 :: 50 :: 51 :: 52 :: []) = A at *
          have e42 : A.tmps[42]? = some (x 25) := by rw [← hA]; exact putsA_in (i := 25) 42 (by rfl) (by show (42 : Nat) < 70; decide) _ (by decide +kernel) (by decide)
          obtain ⟨_, _, _, f25, _⟩ := hd 25 (by decide)
          replace f25 : x 25 = .bool false := f25
          rw [f25] at e42
          have e53 : A.tmps[53]? = some (x 36) := by rw [← hA]; exact putsA_in (i := 36) 53 (by rfl) (by show (53 : Nat) < 70; decide) _ (by decide +kernel) (by decide)
          obtain ⟨_, _, _, f36, _⟩ := hd 36 (by decide)
          replace f36 : x 36 = .bool true := f36
          rw [f36] at e53
          clear hA hd
          refine wpOp_step rfl (fun K' hK' => ?_)
          go_simp
          exact hK' _ _ (hK _ _ ⟨0, 0, 0, rfl, al0⟩ (Below.refl _ _) no_al)
        · generalize hA : putsA _ _ x (0 :: 1 :: 2 :: 3 :: 4 :: 5 :: 6 :: 7 :: 8 :: 9 :: 10 :: 11 :: 12 :: 13 :: 14 :: 15 :: 16 :: 17 :: 18 :: 19 :: 20 :: 21 :: 22 :: 23 :: 24 :: 25 :: 26 :: 27 :: 28 :: 29 :: 30 :: 31 :: 32 :: 33 :: 34 :: 35 :: 36 :: 37 :: 38 :: 39 :: 40 :: 41 :: 42 :: 43 :: 44 :: 45 :: 46 :: 47 :: 48 :: 49 :: 50 :: 51 :: 52 :: []) = A at *
          have e42 : A.tmps[42]? = some (x 25) := by rw [← hA]; exact putsA_in (i := 25) 42 (by rfl) (by show (42 : Nat) < 70; decide) _ (by decide +kernel) (by decide)
          obtain ⟨_, _, _, f25, _⟩ := hd 25 (by decide)
          replace f25 : x 25 = .bool false := f25
          rw [f25] at e42
          have e54 : A.tmps[54]? = some (x 37) := by rw [← hA]; exact putsA_in (i := 37) 54 (by rfl) (by show (54 : Nat) < 70; decide) _ (by decide +kernel) (by decide)
          obtain ⟨_, _, _, f37, _⟩ := hd 37 (by decide)
          replace f37 : x 37 = .bool false := f37
          rw [f37] at e54
          clear hA hd
          refine wpOp_step rfl (fun K' hK' => ?_)
          go_simp
          exact hK' _ _ (hK _ _ ⟨0, 0, 0, rfl, al0⟩ (Below.refl _ _) no_al)
        · generalize hA : putsA _ _ x (0 :: 1 :: 2 :: 3 :: 4 :: 5 :: 6 :: 7 :: 8 :: 9 :: 10 :: 11 :: 12 :: 13 :: 14 :: 15 :: 16 :: 17 :: 18 :: 19 :: 20 :: 21 :: 22 :: 23 :: 24 :: 25 :: 26 :: 27 :: 28 :: 29 :: 30 :: 31 :: 32 :: 33 :: 34 :: 35 :: 36 :: 37 :: 38 :: 39 :: 40 :: 41 :: 42 :: 43 :: 44 :: 45 :: 46 :: 47 :: 48 :: 49 :: 50 :: 51 :: 52 :: []) = A at *
          have e55 : A.tmps[55]? = some (x 38) := by rw [← hA]; exact putsA_in (i := 38) 55 (by rfl) (by show (55 : Nat) < 70; decide) _ (by decide +kernel) (by decide)
          obtain ⟨_, _, _, f38, _⟩ := hd 38 (by decide)
          replace f38 : x 38 = .bool false := f38
          rw [f38] at e55
          clear hA hd
          refine wpOp_step rfl (fun K' hK' => ?_)
          go_simp
          exact hK' _ _ (hK _ _ ⟨0, 0, 0, rfl, al0⟩ (Below.refl _ _) no_al)
        · generalize hA : putsA _ _ x (0 :: 1 :: 2 :: 3 :: 4 :: 5 :: 6 :: 7 :: 8 :: 9 :: 10 :: 11 :: 12 :: 13 :: 14 :: 15 :: 16 :: 17 :: 18 :: 19 :: 20 :: 21 :: 22 :: 23 :: 24 :: 25 :: 26 :: 27 :: 28 :: 29 :: 30 :: 31 :: 32 :: 33 :: 34 :: 35 :: 36 :: 37 :: 38 :: 39 :: 40 :: 41 :: 42 :: 43 :: 44 :: 45 :: 46 :: 47 :: 48 :: 49 :: 50 :: 51 :: 52 :: []) = A at *
          have e0 : A.tmps[0]? = some (.slice (some ⟨b, ofs, none⟩) n' c) := by rw [← hA]; exact putsA_at 0 _ (by decide +kernel)
          have e56 : A.tmps[56]? = some (x 39) := by rw [← hA]; exact putsA_in (i := 39) 56 (by rfl) (by show (56 : Nat) < 70; decide) _ (by decide +kernel) (by decide)
          obtain ⟨_, _, _, f39, _⟩ := hd 39 (by decide)
          replace f39 : x 39 = .bool false := f39
          rw [f39] at e56
          clear hA hd
          refine wpOp_step rfl (fun K' hK' => ?_)
          go_simp
          exact hK' _ _ (hK _ _ ⟨0, 0, 0, rfl, al0⟩ (Below.refl _ _) no_al)
        · generalize hA : putsA _ _ x (0 :: 1 :: 2 :: 3 :: 4 :: 5 :: 6 :: 7 :: 8 :: 9 :: 10 :: 11 :: 12 :: 13 :: 14 :: 15 :: 16 :: 17 :: 18 :: 19 :: 20 :: 21 :: 22 :: 23 :: 24 :: 25 :: 26 :: 27 :: 28 :: 29 :: 30 :: 31 :: 32 :: 33 :: 34 :: 35 :: 36 :: 37 :: 38 :: 39 :: 40 :: 41 :: 42 :: 43 :: 44 :: 45 :: 46 :: 47 :: 48 :: 49 :: 50 :: 51 :: 52 :: []) = A at *
          have e5 : A.tmps[5]? = some (.int .i64 (j : Int)) := by rw [← hA]; exact putsA_at 5 _ (by decide +kernel)
          have e56 : A.tmps[56]? = some (x 39) := by rw [← hA]; exact putsA_in (i := 39) 56 (by rfl) (by show (56 : Nat) < 70; decide) _ (by decide +kernel) (by decide)
          obtain ⟨_, _, _, f39, _⟩ := hd 39 (by decide)
          replace f39 : x 39 = .bool false := f39
          rw [f39] at e56
          clear hA hd
          refine wpOp_step rfl (fun K' hK' => ?_)
          go_simp
          exact hK' _ _ (hK _ _ ⟨0, 0, 0, rfl, al0⟩ (Below.refl _ _) no_al)
        · generalize hA : putsA _ _ x (0 :: 1 :: 2 :: 3 :: 4 :: 5 :: 6 :: 7 :: 8 :: 9 :: 10 :: 11 :: 12 :: 13 :: 14 :: 15 :: 16 :: 17 :: 18 :: 19 :: 20 :: 21 :: 22 :: 23 :: 24 :: 25 :: 26 :: 27 :: 28 :: 29 :: 30 :: 31 :: 32 :: 33 :: 34 :: 35 :: 36 :: 37 :: 38 :: 39 :: 40 :: 41 :: 42 :: 43 :: 44 :: 45 :: 46 :: 47 :: 48 :: 49 :: 50 :: 51 :: 52 :: []) = A at *
          have e56 : A.tmps[56]? = some (x 39) := by rw [← hA]; exact putsA_in (i := 39) 56 (by rfl) (by show (56 : Nat) < 70; decide) _ (by decide +kernel) (by decide)
          obtain ⟨_, _, _, f39, _⟩ := hd 39 (by decide)
          replace f39 : x 39 = .bool false := f39
          rw [f39] at e56
          have e57 : A.tmps[57]? = some (x 40) := by rw [← hA]; exact putsA_in (i := 40) 57 (by rfl) (by show (57 : Nat) < 70; decide) _ (by decide +kernel) (by decide)
          obtain ⟨_, _, _, f40, _⟩ := hd 40 (by decide)
          replace f40 : x 40 = .slice (some ⟨b, ofs, none⟩) n' c := f40
          rw [f40] at e57
          have e58 : A.tmps[58]? = some (x 41) := by rw [← hA]; exact putsA_in (i := 41) 58 (by rfl) (by show (58 : Nat) < 70; decide) _ (by decide +kernel) (by decide)
          obtain ⟨_, _, _, f41, _⟩ := hd 41 (by decide)
          replace f41 : x 41 = .int .i64 (j : Int) := f41
          rw [f41] at e58
          clear hA hd
          refine wpOp_step rfl (fun K' hK' => ?_)
          go_simp
          exact hK' _ _ (hK _ _ ⟨0, 0, 0, rfl, al0⟩ (Below.refl _ _) no_al)
        · generalize hA : putsA _ _ x (0 :: 1 :: 2 :: 3 :: 4 :: 5 :: 6 :: 7 :: 8 :: 9 :: 10 :: 11 :: 12 :: 13 :: 14 :: 15 :: 16 :: 17 :: 18 :: 19 :: 20 :: 21 :: 22 :: 23 :: 24 :: 25 :: 26 :: 27 :: 28 :: 29 :: 30 :: 31 :: 32 :: 33 :: 34 :: 35 :: 36 :: 37 :: 38 :: 39 :: 40 :: 41 :: 42 :: 43 :: 44 :: 45 :: 46 :: 47 :: 48 :: 49 :: 50 :: 51 :: 52 :: []) = A at *
          have e56 : A.tmps[56]? = some (x 39) := by rw [← hA]; exact putsA_in (i := 39) 56 (by rfl) (by show (56 : Nat) < 70; decide) _ (by decide +kernel) (by decide)
          obtain ⟨_, _, _, f39, _⟩ := hd 39 (by decide)
          replace f39 : x 39 = .bool false := f39
          rw [f39] at e56
          have e59 : A.tmps[59]? = some (x 42) := by rw [← hA]; exact putsA_in (i := 42) 59 (by rfl) (by show (59 : Nat) < 70; decide) _ (by decide +kernel) (by decide)
          obtain ⟨_, _, _, f42, _⟩ := hd 42 (by decide)
          replace f42 : x 42 = .pointer (some ⟨b, ofs + j * 4, none⟩) := f42
          rw [f42] at e59
          clear hA hd
          refine wpOp_step rfl (fun K' hK' => ?_)
          go_simp
          exact hK' _ _ (hK _ _ ⟨0, 0, 0, rfl, al0⟩ (Below.refl _ _) no_al)
        · generalize hA : putsA _ _ x (0 :: 1 :: 2 :: 3 :: 4 :: 5 :: 6 :: 7 :: 8 :: 9 :: 10 :: 11 :: 12 :: 13 :: 14 :: 15 :: 16 :: 17 :: 18 :: 19 :: 20 :: 21 :: 22 :: 23 :: 24 :: 25 :: 26 :: 27 :: 28 :: 29 :: 30 :: 31 :: 32 :: 33 :: 34 :: 35 :: 36 :: 37 :: 38 :: 39 :: 40 :: 41 :: 42 :: 43 :: 44 :: 45 :: 46 :: 47 :: 48 :: 49 :: 50 :: 51 :: 52 :: []) = A at *
          have e56 : A.tmps[56]? = some (x 39) := by rw [← hA]; exact putsA_in (i := 39) 56 (by rfl) (by show (56 : Nat) < 70; decide) _ (by decide +kernel) (by decide)
          obtain ⟨_, _, _, f39, _⟩ := hd 39 (by decide)
          replace f39 : x 39 = .bool false := f39
          rw [f39] at e56
          have e60 : A.tmps[60]? = some (x 43) := by rw [← hA]; exact putsA_in (i := 43) 60 (by rfl) (by show (60 : Nat) < 70; decide) _ (by decide +kernel) (by decide)
          obtain ⟨_, _, _, f43, _⟩ := hd 43 (by decide)
          replace f43 : x 43 = .pointer (some ⟨b, ofs + j * 4 + 3, none⟩) := f43
          rw [f43] at e60
          clear hA hd
          refine wpOp_step rfl (fun K' hK' => ?_)
          go_simp
          exact hK' _ _ (hK _ _ ⟨0, 0, 0, rfl, al0⟩ (Below.refl _ _) no_al)
        · generalize hA : putsA _ _ x (0 :: 1 :: 2 :: 3 :: 4 :: 5 :: 6 :: 7 :: 8 :: 9 :: 10 :: 11 :: 12 :: 13 :: 14 :: 15 :: 16 :: 17 :: 18 :: 19 :: 20 :: 21 :: 22 :: 23 :: 24 :: 25 :: 26 :: 27 :: 28 :: 29 :: 30 :: 31 :: 32 :: 33 :: 34 :: 35 :: 36 :: 37 :: 38 :: 39 :: 40 :: 41 :: 42 :: 43 :: 44 :: 45 :: 46 :: 47 :: 48 :: 49 :: 50 :: 51 :: 52 :: []) = A at *
          have e1 : A.tmps[1]? = some (.slice (some ⟨b', ofs', none⟩) n' c') := by rw [← hA]; exact putsA_at 1 _ (by decide +kernel)
          have e56 : A.tmps[56]? = some (x 39) := by rw [← hA]; exact putsA_in (i := 39) 56 (by rfl) (by show (56 : Nat) < 70; decide) _ (by decide +kernel) (by decide)
          obtain ⟨_, _, _, f39, _⟩ := hd 39 (by decide)
          replace f39 : x 39 = .bool false := f39
          rw [f39] at e56
          clear hA hd
          refine wpOp_step rfl (fun K' hK' => ?_)
          go_simp
          exact hK' _ _ (hK _ _ ⟨0, 0, 0, rfl, al0⟩ (Below.refl _ _) no_al)
        · generalize hA : putsA _ _ x (0 :: 1 :: 2 :: 3 :: 4 :: 5 :: 6 :: 7 :: 8 :: 9 :: 10 :: 11 :: 12 :: 13 :: 14 :: 15 :: 16 :: 17 :: 18 :: 19 :: 20 :: 21 :: 22 :: 23 :: 24 :: 25 :: 26 :: 27 :: 28 :: 29 :: 30 :: 31 :: 32 :: 33 :: 34 :: 35 :: 36 :: 37 :: 38 :: 39 :: 40 :: 41 :: 42 :: 43 :: 44 :: 45 :: 46 :: 47 :: 48 :: 49 :: 50 :: 51 :: 52 :: []) = A at *
          have e5 : A.tmps[5]? = some (.int .i64 (j : Int)) := by rw [← hA]; exact putsA_at 5 _ (by decide +kernel)
          have e56 : A.tmps[56]? = some (x 39) := by rw [← hA]; exact putsA_in (i := 39) 56 (by rfl) (by show (56 : Nat) < 70; decide) _ (by decide +kernel) (by decide)
          obtain ⟨_, _, _, f39, _⟩ := hd 39 (by decide)
          replace f39 : x 39 = .bool false := f39
          rw [f39] at e56
          clear hA hd
          refine wpOp_step rfl (fun K' hK' => ?_)
          go_simp
          exact hK' _ _ (hK _ _ ⟨0, 0, 0, rfl, al0⟩ (Below.refl _ _) no_al)
        · generalize hA : putsA _ _ x (0 :: 1 :: 2 :: 3 :: 4 :: 5 :: 6 :: 7 :: 8 :: 9 :: 10 :: 11 :: 12 :: 13 :: 14 :: 15 :: 16 :: 17 :: 18 :: 19 :: 20 :: 21 :: 22 :: 23 :: 24 :: 25 :: 26 :: 27 :: 28 :: 29 :: 30 :: 31 :: 32 :: 33 :: 34 :: 35 :: 36 :: 37 :: 38 :: 39 :: 40 :: 41 :: 42 :: 43 :: 44 :: 45 :: 46 :: 47 :: 48 :: 49 :: 50 :: 51 :: 52 :: []) = A at *
          have e56 : A.tmps[56]? = some (x 39) := by rw [← hA]; exact putsA_in (i := 39) 56 (by rfl) (by show (56 : Nat) < 70; decide) _ (by decide +kernel) (by decide)
          obtain ⟨_, _, _, f39, _⟩ := hd 39 (by decide)
          replace f39 : x 39 = .bool false := f39
          rw [f39] at e56
          have e62 : A.tmps[62]? = some (x 45) := by rw [← hA]; exact putsA_in (i := 45) 62 (by rfl) (by show (62 : Nat) < 70; decide) _ (by decide +kernel) (by decide)
          obtain ⟨_, _, _, f45, _⟩ := hd 45 (by decide)
          replace f45 : x 45 = .slice (some ⟨b', ofs', none⟩) n' c' := f45
          rw [f45] at e62
          have e63 : A.tmps[63]? = some (x 46) := by rw [← hA]; exact putsA_in (i := 46) 63 (by rfl) (by show (63 : Nat) < 70; decide) _ (by decide +kernel) (by decide)
          obtain ⟨_, _, _, f46, _⟩ := hd 46 (by decide)
          replace f46 : x 46 = .int .i64 (j : Int) := f46
          rw [f46] at e63
          clear hA hd
          refine wpOp_step rfl (fun K' hK' => ?_)
          go_simp
          exact hK' _ _ (hK _ _ ⟨0, 0, 0, rfl, al0⟩ (Below.refl _ _) no_al)
        · generalize hA : putsA _ _ x (0 :: 1 :: 2 :: 3 :: 4 :: 5 :: 6 :: 7 :: 8 :: 9 :: 10 :: 11 :: 12 :: 13 :: 14 :: 15 :: 16 :: 17 :: 18 :: 19 :: 20 :: 21 :: 22 :: 23 :: 24 :: 25 :: 26 :: 27 :: 28 :: 29 :: 30 :: 31 :: 32 :: 33 :: 34 :: 35 :: 36 :: 37 :: 38 :: 39 :: 40 :: 41 :: 42 :: 43 :: 44 :: 45 :: 46 :: 47 :: 48 :: 49 :: 50 :: 51 :: 52 :: []) = A at *
          have e56 : A.tmps[56]? = some (x 39) := by rw [← hA]; exact putsA_in (i := 39) 56 (by rfl) (by show (56 : Nat) < 70; decide) _ (by decide +kernel) (by decide)
          obtain ⟨_, _, _, f39, _⟩ := hd 39 (by decide)
          replace f39 : x 39 = .bool false := f39
          rw [f39] at e56
          have e64 : A.tmps[64]? = some (x 47) := by rw [← hA]; exact putsA_in (i := 47) 64 (by rfl) (by show (64 : Nat) < 70; decide) _ (by decide +kernel) (by decide)
          obtain ⟨_, _, _, f47, _⟩ := hd 47 (by decide)
          replace f47 : x 47 = .pointer (some ⟨b', ofs' + j * 4, none⟩) := f47
          rw [f47] at e64
          clear hA hd
          refine wpOp_step rfl (fun K' hK' => ?_)
          go_simp
          exact hK' _ _ (hK _ _ ⟨0, 0, 0, rfl, al0⟩ (Below.refl _ _) no_al)
        · generalize hA : putsA _ _ x (0 :: 1 :: 2 :: 3 :: 4 :: 5 :: 6 :: 7 :: 8 :: 9 :: 10 :: 11 :: 12 :: 13 :: 14 :: 15 :: 16 :: 17 :: 18 :: 19 :: 20 :: 21 :: 22 :: 23 :: 24 :: 25 :: 26 :: 27 :: 28 :: 29 :: 30 :: 31 :: 32 :: 33 :: 34 :: 35 :: 36 :: 37 :: 38 :: 39 :: 40 :: 41 :: 42 :: 43 :: 44 :: 45 :: 46 :: 47 :: 48 :: 49 :: 50 :: 51 :: 52 :: []) = A at *
          have e56 : A.tmps[56]? = some (x 39) := by rw [← hA]; exact putsA_in (i := 39) 56 (by rfl) (by show (56 : Nat) < 70; decide) _ (by decide +kernel) (by decide)
          obtain ⟨_, _, _, f39, _⟩ := hd 39 (by decide)
          replace f39 : x 39 = .bool false := f39
          rw [f39] at e56
          have e65 : A.tmps[65]? = some (x 48) := by rw [← hA]; exact putsA_in (i := 48) 65 (by rfl) (by show (65 : Nat) < 70; decide) _ (by decide +kernel) (by decide)
          obtain ⟨_, _, _, f48, _⟩ := hd 48 (by decide)
          replace f48 : x 48 = .pointer (some ⟨b', ofs' + j * 4 + 3, none⟩) := f48
          rw [f48] at e65
          clear hA hd
          refine wpOp_step rfl (fun K' hK' => ?_)
          go_simp
          exact hK' _ _ (hK _ _ ⟨0, 0, 0, rfl, al0⟩ (Below.refl _ _) no_al)
        · generalize hA : putsA _ _ x (0 :: 1 :: 2 :: 3 :: 4 :: 5 :: 6 :: 7 :: 8 :: 9 :: 10 :: 11 :: 12 :: 13 :: 14 :: 15 :: 16 :: 17 :: 18 :: 19 :: 20 :: 21 :: 22 :: 23 :: 24 :: 25 :: 26 :: 27 :: 28 :: 29 :: 30 :: 31 :: 32 :: 33 :: 34 :: 35 :: 36 :: 37 :: 38 :: 39 :: 40 :: 41 :: 42 :: 43 :: 44 :: 45 :: 46 :: 47 :: 48 :: 49 :: 50 :: 51 :: 52 :: []) = A at *
          have e56 : A.tmps[56]? = some (x 39) := by rw [← hA]; exact putsA_in (i := 39) 56 (by rfl) (by show (56 : Nat) < 70; decide) _ (by decide +kernel) (by decide)
          obtain ⟨_, _, _, f39, _⟩ := hd 39 (by decide)
          replace f39 : x 39 = .bool false := f39
          rw [f39] at e56
          have e61 : A.tmps[61]? = some (x 44) := by rw [← hA]; exact putsA_in (i := 44) 61 (by rfl) (by show (61 : Nat) < 70; decide) _ (by decide +kernel) (by decide)
          obtain ⟨_, _, _, f44, _⟩ := hd 44 (by decide)
          replace f44 : x 44 = .slice X.nA X.n.length X.nc := f44
          rw [f44] at e61
          have e66 : A.tmps[66]? = some (x 49) := by rw [← hA]; exact putsA_in (i := 49) 66 (by rfl) (by show (66 : Nat) < 70; decide) _ (by decide +kernel) (by decide)
          obtain ⟨_, _, _, f49, _⟩ := hd 49 (by decide)
          replace f49 : x 49 = .slice Y.nA Y.n.length Y.nc := f49
          rw [f49] at e66
          clear hA hd
          refine wpOp_step rfl (fun K' hK' => ?_)
          go_simp
          refine (HM.out W hs).mono ?_
          rintro e w6 ⟨rfl, hb6⟩
          exact hK' _ _ (hK _ _ ⟨0, 0, 0, rfl, al0⟩ hb6 no_al)
        · generalize hA : putsA _ _ x (0 :: 1 :: 2 :: 3 :: 4 :: 5 :: 6 :: 7 :: 8 :: 9 :: 10 :: 11 :: 12 :: 13 :: 14 :: 15 :: 16 :: 17 :: 18 :: 19 :: 20 :: 21 :: 22 :: 23 :: 24 :: 25 :: 26 :: 27 :: 28 :: 29 :: 30 :: 31 :: 32 :: 33 :: 34 :: 35 :: 36 :: 37 :: 38 :: 39 :: 40 :: 41 :: 42 :: 43 :: 44 :: 45 :: 46 :: 47 :: 48 :: 49 :: 50 :: 51 :: 52 :: []) = A at *
          have e56 : A.tmps[56]? = some (x 39) := by rw [← hA]; exact putsA_in (i := 39) 56 (by rfl) (by show (56 : Nat) < 70; decide) _ (by decide +kernel) (by decide)
          obtain ⟨_, _, _, f39, _⟩ := hd 39 (by decide)
          replace f39 : x 39 = .bool false := f39
          rw [f39] at e56
          have e67 : A.tmps[67]? = some (x 50) := by rw [← hA]; exact putsA_in (i := 50) 67 (by rfl) (by show (67 : Nat) < 70; decide) _ (by decide +kernel) (by decide)
          obtain ⟨_, _, _, f50, _⟩ := hd 50 (by decide)
          replace f50 : x 50 = .bool true := f50
          rw [f50] at e67
          clear hA hd
          refine wpOp_step rfl (fun K' hK' => ?_)
          go_simp
          exact hK' _ _ (hK _ _ ⟨0, 0, 0, rfl, al0⟩ (Below.refl _ _) no_al)
        · generalize hA : putsA _ _ x (0 :: 1 :: 2 :: 3 :: 4 :: 5 :: 6 :: 7 :: 8 :: 9 :: 10 :: 11 :: 12 :: 13 :: 14 :: 15 :: 16 :: 17 :: 18 :: 19 :: 20 :: 21 :: 22 :: 23 :: 24 :: 25 :: 26 :: 27 :: 28 :: 29 :: 30 :: 31 :: 32 :: 33 :: 34 :: 35 :: 36 :: 37 :: 38 :: 39 :: 40 :: 41 :: 42 :: 43 :: 44 :: 45 :: 46 :: 47 :: 48 :: 49 :: 50 :: 51 :: 52 :: []) = A at *
          have e56 : A.tmps[56]? = some (x 39) := by rw [← hA]; exact putsA_in (i := 39) 56 (by rfl) (by show (56 : Nat) < 70; decide) _ (by decide +kernel) (by decide)
          obtain ⟨_, _, _, f39, _⟩ := hd 39 (by decide)
          replace f39 : x 39 = .bool false := f39
          rw [f39] at e56
          have e68 : A.tmps[68]? = some (x 51) := by rw [← hA]; exact putsA_in (i := 51) 68 (by rfl) (by show (68 : Nat) < 70; decide) _ (by decide +kernel) (by decide)
          obtain ⟨_, _, _, f51, _⟩ := hd 51 (by decide)
          replace f51 : x 51 = .bool false := f51
          rw [f51] at e68
          clear hA hd
          refine wpOp_step rfl (fun K' hK' => ?_)
          go_simp
          exact hK' _ _ (hK _ _ ⟨0, 0, 0, rfl, al0⟩ (Below.refl _ _) no_al)
      case hend =>
        intro x W hf hg hb
        have HSE := Lib.hid (bj HB.out hb)
        have hl52 : x 52 = .bool false := by
          obtain ⟨_, _, _, h, _⟩ := hf 52 (by decide)
          exact h
        rw [putsA_lit _ _ (0 :: 1 :: 2 :: 3 :: 4 :: 5 :: 6 :: 7 :: 8 :: 9 :: 10 :: 11 :: 12 :: 13 :: 14 :: 15 :: 16 :: 17 :: 18 :: 19 :: 20 :: 21 :: 22 :: 23 :: 24 :: 25 :: 26 :: 27 :: 28 :: 29 :: 30 :: 31 :: 32 :: 33 :: 34 :: 35 :: 36 :: 37 :: 38 :: 39 :: 40 :: 41 :: 42 :: 43 :: 44 :: 45 :: 46 :: 47 :: 48 :: 49 :: 50 :: 51 :: 52 :: []) ((17, 0) :: (18, 1) :: (19, 2) :: (20, 3) :: (21, 4) :: (22, 5) :: (23, 6) :: (24, 7) :: (25, 8) :: (26, 9) :: (27, 10) :: (28, 11) :: (29, 12) :: (30, 13) :: (31, 14) :: (32, 15) :: (33, 16) :: (34, 17) :: (35, 18) :: (36, 19) :: (37, 20) :: (38, 21) :: (39, 22) :: (40, 23) :: (41, 24) :: (42, 25) :: (43, 26) :: (44, 27) :: (45, 28) :: (46, 29) :: (47, 30) :: (48, 31) :: (49, 32) :: (50, 33) :: (51, 34) :: (52, 35) :: (53, 36) :: (54, 37) :: (55, 38) :: (56, 39) :: (57, 40) :: (58, 41) :: (59, 42) :: (60, 43) :: (61, 44) :: (62, 45) :: (63, 46) :: (64, 47) :: (65, 48) :: (66, 49) :: (67, 50) :: (68, 51) :: (69, 52) :: []) (by kernel_rfl)]
        simp only [setAll, ↓reduceIte, Nat.reduceAdd, Nat.reduceEqDiff]
        rw [hl52]
        clear hf hg hb hl52
        refine wpAny_done (by kernel_rfl) ?_ _
        refine NoPanic.normal ?_
        go_wp2
        go_roundw
        case rel => exact ⟨j + 1, by omega, by go_num, HSE.out⟩
        case measure => simp [intOf]; omega
    · obtain rfl : j = n' := by omega
      go_wp2
      go_ret
      exact ⟨rfl, hbr⟩
end Go.Proofs.Ytocbdehcjcggeaa
