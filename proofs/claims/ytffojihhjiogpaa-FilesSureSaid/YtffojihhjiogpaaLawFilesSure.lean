/- Layer 3: the walk of FilesSure. Conditions: those of the theorem. -/
import Derived.Test.YtffojihhjiogpaaFi28
namespace Go.Proofs.Ytffojihhjiogpaa
open Go.RowKit Go Go.Maps
set_option linter.unusedVariables false
set_option linter.unusedSimpArgs false
theorem kd_run1 {w0 W0 W : World} {g : Nat} {d : Dk} {N : Nat} (h : Kd w0 g d N W0) (hb : Below W0.heap.size W0 W) (A : Option Addr) (l : List Fop) (n c : Nat) (hn : n = l.length) (hm : N + n ≤ 1000000) (hO : Fops W W.heap.size A l) (hA : ∀ a, A = some a → l ≠ [] → a.block < w0.heap.size ∨ W0.heap.size ≤ a.block) (hK : ∀ x ∈ l, x.ks ≠ [] → ∀ a, x.kA = some a → a.block < w0.heap.size ∨ W0.heap.size ≤ a.block) (hfit : ∀ x ∈ l, FitP x) (hlight : ∀ x ∈ l, Light x) :
    Calls Try.prog 37 #[.pointer (some ⟨g, 0, none⟩), .slice A n c] W fun e w' => e = .returned (.tuple #[]) ∧ Kd w0 g (runD d l) (N + n) w' := by
  obtain ⟨S, h1, h2, h3⟩ := h
  have hlt := dkS_lt h1
  refine (run_at W S g d N (dkS_below h1 hb) A l n c hn hm hO (fun a ha hne hs => ?_) (fun x hx hne a ha hs => ?_) hfit hlight).mono fun e w' ⟨he, hr⟩ => ⟨he, kd_r h2 (bj h3 hb) hr⟩
  · have := h2 _ hs
    have := hlt _ hs
    rcases hA a ha hne with h | h <;> omega
  · have := h2 _ hs
    have := hlt _ hs
    rcases hK x hx hne a ha with h | h <;> omega
theorem ks_mono {w : World} {B B' : Nat} {A : Option Addr} {l : List Bool} (h : KsAt w B A l) (hB : B ≤ B') : KsAt w B' A l := by
  rcases h with h | ⟨b, o, hA, hlt, hc⟩
  · exact .inl h
  · exact .inr ⟨b, o, hA, by omega, hc⟩
theorem ks_lt {w : World} {B : Nat} {A : Option Addr} {l : List Bool} (h : KsAt w B A l) (hl : l ≠ []) : ∀ a, A = some a → a.block < B := fun a ha => by
  rcases h with h | ⟨b, o, hA, hlt, hc⟩
  · exact absurd h hl
  · rw [hA] at ha; cases ha; exact hlt
theorem fops_one (W : World) (t : TypeId) (x : Fop) {B : Nat} (h : KsAt W B x.kA x.ks) (hB : B ≤ W.heap.size) : Fops (W.alloc (.cells (fopC x) t)) (W.alloc (.cells (fopC x) t)).heap.size (some ⟨W.heap.size, 0, none⟩) [x] := by
  have hq := Blk.new W t (fopC x)
  refine .inr ⟨_, 0, rfl, hq.lt, fun j y hy => ?_⟩
  have hj : j = 0 := by
    by_cases e : j = 0
    · exact e
    · rw [List.getElem?_eq_none (by simp; omega)] at hy; cases hy
  subst hj
  simp only [List.getElem?_cons_zero, Option.some.injEq] at hy
  subst hy
  refine ⟨⟨?_, ?_, ?_, ?_, ?_, ?_, ?_⟩, ?_⟩
  all_goals first
    | (rw [hq.cell]; rfl)
    | exact ks_mono (ks_below h (one_alloc.mono hB)) (Nat.le_trans hB (one_alloc (w := W)).size)
set_option maxRecDepth 100000 in
set_option maxHeartbeats 16000000 in
theorem filesSure_walk (A : Option Addr) (l : List Fop) (n c : Nat) (A1 : Option Addr) (l1 : List Fop) (n1 c1 : Nat) (f : Int) (A3 : Option Addr) (l3 : List Bool) (n3 c3 : Nat) (hn : n = l.length) (hm : n ≤ maxLen) (hfit : ∀ x ∈ l, FitP x) (hn1 : n1 = l1.length) (hm1 : n1 ≤ maxLen) (hfit1 : ∀ x ∈ l1, FitP x) (wf : (Lit.int .i64 f).wf = true) (hn3 : n3 = l3.length) (hm3 : n3 ≤ maxLen) (w : World) (hO : Fops w w.heap.size A l) (hO1 : Fops w w.heap.size A1 l1) (hO3 : KsAt w w.heap.size A3 l3) :
    Calls Try.prog 5 #[.slice A n c, .slice A1 n1 c1, .int .i64 f, .slice A3 n3 c3] w fun e w' => e = .returned (.bool true) ∧ Below w.heap.size w w' := by
  have HW := Lib.hid works_any
  have HHV := Lib.hid (fun W (hb : Below w.heap.size w W) => heavy_any A l n c W (fops_mono (fops_below hO hb) hb.size) hn hm hfit)
  have HHV1 := Lib.hid (fun W (hb : Below w.heap.size w W) => heavy_any A1 l1 n1 c1 W (fops_mono (fops_below hO1 hb) hb.size) hn1 hm1 hfit1)
  have HFA := Lib.hid (fun W (hb : Below w.heap.size w W) => far_any A l n c W (fops_mono (fops_below hO hb) hb.size) hn hm hfit)
  have HFA1 := Lib.hid (fun W (hb : Below w.heap.size w W) => far_any A1 l1 n1 c1 W (fops_mono (fops_below hO1 hb) hb.size) hn1 hm1 hfit1)
  have HRN := Lib.hid (fun (W : World) (g : Nat) (d : Dk) (h : Kd w g d 0 W) (h200 : l.length ≤ 200) (hl : ∀ x ∈ l, Light x) => kd_run h A l n c hn (by omega) hO hfit hl)
  have HN := Lib.hid (And.intro hn hn1)
  have HO1 := Lib.hid hO1
  have HF1 := Lib.hid hfit1
  have HK3 := Lib.hid (And.intro hO3 (And.intro hn3 hm3))
  clear hn hm hfit hn1 hm1 hfit1 wf hO hO1 hO3 hn3 hm3
  go_enter Try.func5, Try.ntmps5
  go_wp2_with fail
  refine (HW.out _).mono ?_
  rintro e w1 ⟨rfl, hb⟩
  have HB1 := Lib.hid hb
  clear hb
  go_wp2_with fail
  refine (HHV.out _ HB1.out).mono ?_
  rintro e w2 ⟨⟨r, rfl, hr⟩, hb⟩
  have HB2 := Lib.hid (bj HB1.out hb)
  have HR := Lib.hid hr
  clear hb hr
  cases r with
  | true =>
    go_wp2
    go_ret
    exact ⟨by first | rfl | simp, HB2.out⟩
  | false =>
  go_wp2_with fail
  refine (HHV1.out _ HB2.out).mono ?_
  rintro e w3 ⟨⟨r, rfl, hr⟩, hb⟩
  have HB3 := Lib.hid (bj HB2.out hb)
  have HR1 := Lib.hid hr
  clear hb hr
  cases r with
  | true =>
    go_wp2
    go_ret
    exact ⟨by first | rfl | simp, HB3.out⟩
  | false =>
  go_wp2_with fail
  refine (HFA.out _ HB3.out).mono ?_
  rintro e w4 ⟨⟨r, rfl⟩, hb⟩
  have HB4 := Lib.hid (bj HB3.out hb)
  clear hb
  cases r with
  | true =>
    go_wp2
    go_ret
    exact ⟨by first | rfl | simp, HB4.out⟩
  | false =>
  go_wp2_with fail
  refine (HFA1.out _ HB4.out).mono ?_
  rintro e w5 ⟨⟨r, rfl⟩, hb⟩
  have HB5 := Lib.hid (bj HB4.out hb)
  clear hb
  cases r with
  | true =>
    go_wp2
    go_ret
    exact ⟨by first | rfl | simp, HB5.out⟩
  | false =>
  by_cases h0 : f < 0
  · have hd0 : decide (f < 0) = true := decide_eq_true h0
    go_wp2
    go_ret
    exact ⟨by first | rfl | simp, HB5.out⟩
  have hd0 : decide (f < 0) = false := decide_eq_false h0
  by_cases h8 : 8 ≤ f
  · have hd8 : decide (8 ≤ f) = true := decide_eq_true h8
    go_wp2
    go_ret
    exact ⟨by first | rfl | simp, HB5.out⟩
  have hd8 : decide (8 ≤ f) = false := decide_eq_false h8
  by_cases hk : (4096 : Int) < n3
  · have hdk : decide ((4096 : Int) < n3) = true := decide_eq_true hk
    go_wp2
    go_ret
    exact ⟨by first | rfl | simp, HB5.out⟩
  have hdk : decide ((4096 : Int) < n3) = false := decide_eq_false hk
  have HF := Lib.hid (show 0 ≤ f ∧ f < 8 from ⟨by omega, by omega⟩)
  have HK4 := Lib.hid (show n3 ≤ 4096 by omega)
  clear h0 h8 hk
  go_wp2_with fail
  refine (kd_new HB5.out).mono ?_
  rintro e w6 ⟨rfl, hk⟩
  have H6 := Lib.hid hk
  clear hk
  generalize w5.heap.size + 1 = g at *
  go_wp2_with fail
  refine (HRN.out _ _ _ H6.out (HR.out trivial).1 (HR.out trivial).2).mono ?_
  rintro e w7 ⟨rfl, hk⟩
  have H7 := Lib.hid hk
  have HJ := Lib.hid (jd_run l newD jd_new)
  clear hk
  generalize runD newD l = D1 at *
  go_wp2_with fail
  refine (kd_sync H7.out f (by have := HN.out; have := (HR.out trivial).1; omega)).mono ?_
  rintro e w8 ⟨rfl, hk⟩
  have H8 := Lib.hid hk
  clear hk
  by_cases hs : (syncD D1 f).2 = 0
  case neg =>
    generalize (syncD D1 f).2 = v at *
    have hvb : (v == 0) = false := by simpa using hs
    go_wp2
    go_ret
    exact ⟨by first | rfl | simp, kd_b H8.out⟩
  have hsg := sync_good HJ.out hs
  rw [hs]
  generalize (syncD D1 f).1 = D2 at *
  obtain ⟨i, hi⟩ : ∃ i, f.toNat = i := ⟨_, rfl⟩
  rw [hi] at hsg
  obtain ⟨X, hX⟩ : ∃ X, D2.fl i = X := ⟨_, rfl⟩
  rw [hX] at hsg
  have HI := Lib.hid hsg.2.2.2
  have HFI := Lib.hid hi
  have ea : allF D2 f = bstr (X.take (min X.length 300)).flatten := by rw [allF_of HF.out.1 HF.out.2 hsg.2.2.1, hi, hX]
  have es : sizeD D2 f = (X.length : Nat) := by rw [sizeD_of _ HF.out.1 HF.out.2, hi, hX]
  have EA := Lib.hid ea
  have ES := Lib.hid es
  clear hs hsg hX ea es hi H7
  go_wp2_with fail
  refine (all_any H8.out f).mono ?_
  rintro e w9 ⟨he, hb⟩
  rw [EA.out] at he
  subst he
  have H9 := Lib.hid (kd_below H8.out hb)
  clear hb
  go_wp2_with fail
  refine (kd_size H9.out f).mono ?_
  rintro e w10 ⟨he, rfl⟩
  rw [ES.out] at he
  subst he
  have EI := Lib.hid (fun (d : Dk) (h : Id i X d) => id_all HF.out.1 HF.out.2 HFI.out h l3)
  have hne1 : (n1 = 0 ∧ l1 = []) ∨ (∃ b o, A1 = some ⟨b, o, none⟩ ∧ b < w.heap.size ∧ ∀ W, Below w.heap.size w W → ∀ (j : Nat) x, l1[j]? = some x → FopAt W b (o + j * 7) x ∧ KsAt W w.heap.size x.kA x.ks) := by
    by_cases e : l1 = []
    · exact .inl ⟨by have := HN.out.2; rw [e] at this; exact this, e⟩
    · exact .inr (fops_get HO1.out e)
  have HLN := Lib.hid (show n ≤ 200 ∧ n1 ≤ 200 from ⟨by have := HN.out.1; have := (HR.out trivial).1; omega, by have := HN.out.2; have := (HR1.out trivial).1; omega⟩)
  generalize bstr (X.take (min X.length 300)).flatten = WAS at *
  generalize X.length = Z at *
  have HFIN := Lib.hid (fun (D : Dk) (N : Nat) (W : World) (h : Kd w g D N W) => kd_crash h (Below.refl _ _) A3 l3 n3 c3 HK3.out.2.1 (ks_bs (ks_below HK3.out.1 (kd_b h)) (kd_b h).size) (fun hne a ha => .inl (ks_lt HK3.out.1 hne a ha)) (by have := HK4.out; omega))
  rcases hne1 with ⟨hz, hl1⟩ | ⟨b, o, rfl, hbl, hc⟩
  · subst hz
    go_wp2
    go_loopw [59] (fun v wr => v = .int .i64 0 ∧ Kd w g D2 (0 + n + 1) wr) (fun _ _ => 0)
    case atStart => exact ⟨rfl, H9.out⟩
    case round =>
      obtain ⟨rfl, hk⟩ := hrel
      have H10 := Lib.hid hk
      have EQ := Lib.hid (EI.out D2 HI.out)
      clear hk
      generalize hDD : D2 = D at *
      clear hDD
      go_wp2_with fail
      refine (HFIN.out _ _ _ H10.out).mono ?_
      rintro e wa ⟨rfl, hk⟩
      have H11 := Lib.hid hk
      clear hk
      go_wp2_with fail
      refine (all_any H11.out f).mono ?_
      rintro e wb ⟨he, hb⟩
      rw [EQ.out.2] at he
      subst he
      have H12 := Lib.hid (kd_below H11.out hb)
      clear hb
      go_wp2_with fail
      refine (kd_size H12.out f).mono ?_
      rintro e wc ⟨he, rfl⟩
      rw [EQ.out.1] at he
      subst he
      go_wp2_with fail
      refine (kd_loose H12.out).mono ?_
      rintro e wd ⟨he, rfl⟩
      rw [show (((crashD D l3).loose.length : Nat) : Int) = 0 from rfl] at he
      subst he
      go_wp2_with fail
      refine (kd_on H12.out).mono ?_
      rintro e we ⟨he, rfl⟩
      rw [show (crashD D l3).off = false from rfl] at he
      subst he
      go_wp2
      go_ret
      exact ⟨by first | rfl | simp, kd_b H12.out⟩
  · have HC := Lib.hid hc
    clear hc
    go_wp2
    go_loopw [59] (fun v wr => ∃ (j : Nat), j ≤ n1 ∧ v = .int .i64 j ∧ ∃ D N', N' ≤ 0 + n + 1 + j ∧ Kd w g D N' wr ∧ Id i X D) (fun v _ => n1 - (intOf v).toNat)
    case atStart => exact ⟨0, by omega, rfl, D2, _, Nat.le_refl _, H9.out, HI.out⟩
    case round =>
      obtain ⟨j, hj, rfl, D, N', hN', hk, hid⟩ := hrel
      by_cases hjn : j < n1
      · have hjl : j < l1.length := by have := HN.out.2; omega
        have hmem := List.getElem_mem hjl
        obtain ⟨⟨a0, a1, a2, a3, a4, a5, a6⟩, hks⟩ := HC.out wr (kd_b hk) j l1[j] (List.getElem?_eq_getElem hjl)
        have hfx := HF1.out l1[j] hmem
        have hlx := (HR1.out trivial).2 l1[j] hmem
        clear hmem
        generalize l1[j] = x at *
        have hjI : (j : Int) < n1 := by omega
        have h0j : (0 : Int) ≤ j := by omega
        have hj200 : (j : Int) < 200 := by have := HLN.out.2; omega
        have hwj : IntKind.i64.wrap ((j : Int) + 1) = j + 1 := by rw [IntKind.wrap_i64]; omega
        have hNj : N' + 1 ≤ 1000000 := by have := HLN.out; omega
        have HFI2 := Lib.hid HFI.out
        have HST := Lib.hid (fun (h : ¬ x.fi = f) => id_step hid x (by have h1 := HFI2.out; have h2 := HF.out; omega))
        have HRU := Lib.hid (fun (W : World) (q : Nat) (hq : W.heap.size = q) (hb : Below wr.heap.size wr W) => (show Calls Try.prog 37 #[.pointer (some ⟨g, 0, none⟩), .slice (some ⟨q, 0, none⟩) 1 1] (W.alloc (.cells (fopC x) 42)) fun e w' => e = .returned (.tuple #[]) ∧ Kd w g (runD D [x]) (N' + 1) w' from by
          subst hq
          exact kd_run1 hk (hb.trans ((one_alloc (w := W) (o := .cells (fopC x) 42)).mono hb.size)) (some ⟨W.heap.size, 0, none⟩) [x] 1 1 rfl hNj (fops_one W 42 x (ks_mono (ks_below hks (hb.mono (kd_b hk).size)) (Nat.le_refl _)) (Nat.le_trans (kd_b hk).size hb.size)) (fun a ha _ => by cases ha; exact .inr hb.size) (fun y hy hne a ha => by rw [List.mem_singleton.1 hy] at hne ha; exact .inl (ks_lt hks hne a ha)) (fun y hy => by rw [List.mem_singleton.1 hy]; exact hfx) (fun y hy => by rw [List.mem_singleton.1 hy]; exact hlx)))
        have HIN := Lib.hid (And.intro hk hid)
        obtain ⟨xk, xf, xp, xn, xc, xs, xA, xkc, xks⟩ := x
        simp only at a0 a1 a2 a3 a4 a5 a6
        clear hk hid hks hfx hlx
        by_cases hxf : xf = f
        · subst hxf
          have HB := Lib.hid (kd_below HIN.out.1 (one_alloc (o := .cells (fopC ⟨xk, xf, xp, xn, xc, xs, xA, xkc, xks⟩) 42)))
          go_wp2
          go_roundw
          case rel => exact ⟨j + 1, by omega, by go_num, D, N', by omega, HB.out, HIN.out.2⟩
          case measure => simp [intOf]; omega
        · have hxb : (xf == f) = false := by simpa using hxf
          have HST2 := Lib.hid (HST.out hxf)
          go_wp2_with fail
          refine (HRU.out (wr.alloc (.cells (fopC ⟨xk, xf, xp, xn, xc, xs, xA, xkc, xks⟩) 42)) (wr.heap.size + 1) (by show (wr.heap.push _).size = _; rw [Array.size_push]) one_alloc).mono ?_
          rintro e wq ⟨rfl, hk⟩
          have HB := Lib.hid hk
          clear hk
          go_wp2
          go_roundw
          case rel => exact ⟨j + 1, by omega, by go_num, _, N' + 1, by omega, HB.out, HST2.out⟩
          case measure => simp [intOf]; omega
      · obtain rfl : j = n1 := by omega
        have H10 := Lib.hid hk
        have EQ := Lib.hid (EI.out D hid)
        clear hk hid
        go_wp2_with fail
        refine (HFIN.out _ _ _ H10.out).mono ?_
        rintro e wa ⟨rfl, hk⟩
        have H11 := Lib.hid hk
        clear hk
        go_wp2_with fail
        refine (all_any H11.out f).mono ?_
        rintro e wb ⟨he, hb⟩
        rw [EQ.out.2] at he
        subst he
        have H12 := Lib.hid (kd_below H11.out hb)
        clear hb
        go_wp2_with fail
        refine (kd_size H12.out f).mono ?_
        rintro e wc ⟨he, rfl⟩
        rw [EQ.out.1] at he
        subst he
        go_wp2_with fail
        refine (kd_loose H12.out).mono ?_
        rintro e wd ⟨he, rfl⟩
        rw [show (((crashD D l3).loose.length : Nat) : Int) = 0 from rfl] at he
        subst he
        go_wp2_with fail
        refine (kd_on H12.out).mono ?_
        rintro e we ⟨he, rfl⟩
        rw [show (crashD D l3).off = false from rfl] at he
        subst he
        go_wp2
        go_ret
        exact ⟨by first | rfl | simp, kd_b H12.out⟩
end Go.Proofs.Ytffojihhjiogpaa
