/- Layer 3: the laws' run. Conditions: those of each lemma. -/
import Derived.Test.YtffojihhjiogpaaFi25
namespace Go.Proofs.Ytffojihhjiogpaa
open Go.RowKit Go Go.Maps
set_option linter.unusedVariables false
set_option linter.unusedSimpArgs false
/-- what an operation of a script makes of a disk -/
def stepD (d : Dk) (x : Fop) : Dk :=
  if x.kd = 1 then (cutD d x.fi x.n).1 else if x.kd = 2 then (syncD d x.fi).1 else if x.kd = 3 ∨ x.kd = 7 then d else if x.kd = 4 then (armD d x.n (errF x)).1
  else if x.kd = 5 then (powerD d x.n).1 else if x.kd = 6 then crashD d x.ks else (writeD d x.fi (placeF x) (bytesF x)).1
def runD (d : Dk) (l : List Fop) : Dk := l.foldl stepD d
theorem runD_snoc (d : Dk) (l : List Fop) (x : Fop) : runD d (l ++ [x]) = stepD (runD d l) x := by unfold runD; rw [List.foldl_append]; rfl
theorem dkR_join {w u v x : World} {S S' : Nat → Prop} {g : Nat} {d : Dk} {N : Nat} (h2 : Fr S w u) (h3 : ∀ b, S' b → S b ∨ w.heap.size ≤ b) (hb : Below u.heap.size u v) (k : DkR v S' g d N x) : DkR w S g d N x := by
  obtain ⟨S2, k1, k2, k3⟩ := k
  refine ⟨S2, k1, fr_trans (fr_step h2 hb) k2 h3, fun b hs => ?_⟩
  rcases k3 b hs with h4 | h4
  · exact h3 b h4
  · exact .inr (Nat.le_trans h2.size (Nat.le_trans hb.size h4))
theorem dkR_more {w w' : World} {S : Nat → Prop} {g : Nat} {d : Dk} {N : Nat} (h : DkR w S g d N w') (hN : N + 1 ≤ 1000000) : DkR w S g d (N + 1) w' := by
  obtain ⟨S', h1, h2, h3⟩ := h
  exact ⟨S', dkS_more h1 hN, h2, h3⟩
theorem dkS_lt {w : World} {S : Nat → Prop} {g : Nat} {d : Dk} {N : Nat} (h : DkS w S g d N) : ∀ b, S b → b < w.heap.size := by
  obtain ⟨m, hm⟩ := h
  exact hm.lt
theorem fopAt_fr {S : Nat → Prop} {w W : World} {b o : Nat} {x : Fop} (h : FopAt w b o x) (hf : Fr S w W) (hlt : b < w.heap.size) (hS : ¬ S b) : FopAt W b o x :=
  have e : ∀ i : Nat, W.cell? ⟨b, i, none⟩ = w.cell? ⟨b, i, none⟩ := fun i => World.cell?_of_block (a := ⟨b, i, none⟩) (hf.block b hlt hS)
  ⟨(e _).trans h.c0, (e _).trans h.c1, (e _).trans h.c2, (e _).trans h.c3, (e _).trans h.c4, (e _).trans h.c5, (e _).trans h.c6⟩
theorem q_blk {V V' : World} {S : Nat → Prop} {g q : Nat} {d : Dk} {N : Nat} {t : TypeId} {cs : Array Value} (h : Blk V q t cs) (hr : DkR V S g d N V') (hq : ¬ S q) : Blk V' q t cs := by
  obtain ⟨S', _, hf, _⟩ := hr
  exact fr_blk hf h hq
theorem s7 {V : World} {q : Nat} {t : TypeId} {a0 a1 a2 a3 a4 a5 a6 : Value} (h : Blk V q t #[a0, a1, a2, a3, a4, a5, a6]) :
    V.cell? ⟨q, 0, none⟩ = some a0 ∧ V.cell? ⟨q, 1, none⟩ = some a1 ∧ V.cell? ⟨q, 2, none⟩ = some a2 ∧ V.cell? ⟨q, 3, none⟩ = some a3 ∧ V.cell? ⟨q, 4, none⟩ = some a4 ∧ V.cell? ⟨q, 5, none⟩ = some a5 ∧ V.cell? ⟨q, 6, none⟩ = some a6 :=
  ⟨by rw [h.cell]; rfl, by rw [h.cell]; rfl, by rw [h.cell]; rfl, by rw [h.cell]; rfl, by rw [h.cell]; rfl, by rw [h.cell]; rfl, by rw [h.cell]; rfl⟩
set_option maxRecDepth 100000 in
set_option maxHeartbeats 16000000 in
theorem run_at (u : World) (S0 : Nat → Prop) (g : Nat) (d : Dk) (N : Nat) (h : DkS u S0 g d N) (A : Option Addr) (l : List Fop) (n c : Nat) (hn : n = l.length) (hm : N + n ≤ 1000000) (hO : Fops u u.heap.size A l) (hdis : ∀ a, A = some a → l ≠ [] → ¬ S0 a.block) (hdk : ∀ x ∈ l, x.ks ≠ [] → ∀ a, x.kA = some a → ¬ S0 a.block) (hfit : ∀ x ∈ l, FitP x) (hlight : ∀ x ∈ l, Light x) :
    Calls Try.prog 37 #[.pointer (some ⟨g, 0, none⟩), .slice A n c] u fun e w' => e = .returned (.tuple #[]) ∧ DkR u S0 g (runD d l) (N + n) w' := by
  by_cases h0 : n = 0
  · subst h0
    obtain rfl : l = [] := List.eq_nil_of_length_eq_zero hn.symm
    have HD := Lib.hid (dkR_refl h)
    clear hO hn hfit hlight hdis hdk h
    go_enter Try.func37, Try.ntmps37
    go_wp2
    go_loopw [8] (fun i wr => i = .int .i64 0 ∧ u = wr) (fun _ _ => 0)
    case atStart => exact ⟨rfl, rfl⟩
    case round =>
      obtain ⟨rfl, rfl⟩ := hrel
      go_wp2
      refine bodyPost_end (v := .tuple #[]) (by simp [results, Try.results37, go_sem]) rfl ⟨rfl, ?_⟩
      exact HD.out
  · have hne : l ≠ [] := fun e => by rw [e] at hn; exact h0 hn
    rcases hO with hO | ⟨b, o, rfl, hbl, hc⟩
    · exact absurd hO hne
    have hSb : ¬ S0 b := hdis _ rfl hne
    have hc2 : ∀ V, Fr S0 u V → ∀ (j : Nat) x, l[j]? = some x → FopAt V b (o + j * 7) x ∧ BsAt V x.kA x.ks := fun V hf j x hx =>
      ⟨fopAt_fr (hc j x hx).1 hf hbl hSb, bs_fr (ks_bs (hc j x hx).2 (Nat.le_refl _)) hf (hdk x (List.mem_of_getElem? hx))⟩
    have hks : ∀ x ∈ l, x.ks ≠ [] → ∀ a, x.kA = some a → a.block < u.heap.size := fun x hx hk a ha => by
      obtain ⟨j, hj⟩ := List.mem_iff_getElem?.1 hx
      rcases (hc j x hj).2 with h | ⟨b', o', hA, hlt, _⟩
      · exact absurd h hk
      · rw [hA] at ha; cases ha; exact hlt
    have HC := Lib.hid hc2
    have HN := Lib.hid hn
    have HMX := Lib.hid hm
    have HF := Lib.hid hfit
    have HL := Lib.hid hlight
    have HKS := Lib.hid hks
    have HDK := Lib.hid hdk
    have HD0 := Lib.hid (dkR_refl h)
    clear hc hc2 hn h0 hm hfit hlight hks hdk hdis h
    go_enter Try.func37, Try.ntmps37
    go_wp2
    go_loopw [8] (fun i wr => ∃ (j : Nat), j ≤ n ∧ i = .int .i64 j ∧ DkR u S0 g (runD d (l.take j)) (N + j) wr) (fun i _ => n - (intOf i).toNat)
    case atStart => exact ⟨0, by omega, rfl, HD0.out⟩
    case round =>
      obtain ⟨j, hj, rfl, hR⟩ := hrel
      by_cases hjn : j < n
      · have hjl : j < l.length := by have := HN.out; omega
        have hmem := List.getElem_mem hjl
        obtain ⟨S, hd, hf, hS⟩ := hR
        obtain ⟨⟨a0, a1, a2, a3, a4, a5, a6⟩, hbs⟩ := HC.out wr hf j l[j] (List.getElem?_eq_getElem hjl)
        have hfx := HF.out l[j] hmem
        have hlx := HL.out l[j] hmem
        have hkx := HKS.out l[j] hmem
        have hdx := HDK.out l[j] hmem
        have hrs : runD d (l.take (j + 1)) = stepD (runD d (l.take j)) l[j] := by rw [take_snoc (List.getElem?_eq_getElem hjl), runD_snoc]
        clear hmem
        have HRS := Lib.hid hrs
        clear hrs
        generalize l[j] = x at *
        generalize runD d (l.take j) = dj at *
        have hjI : (j : Int) < n := by omega
        have h0j : (0 : Int) ≤ j := by omega
        have hwj : IntKind.i64.wrap ((j : Int) + 1) = j + 1 := by have := HMX.out; rw [IntKind.wrap_i64]; omega
        have hNj : N + j + 1 ≤ 1000000 := by have := HMX.out; omega
        have HBY := Lib.hid (fun W => bytes_any x W hfx)
        have HBZ := Lib.hid (bytesF_size hlx)
        have HPL := Lib.hid (fun W => place_any x W)
        have HER := Lib.hid (fun W => error_any x W hfx)
        obtain ⟨xk, xf, xp, xn, xc, xs, xA, xkc, xks⟩ := x
        simp only at a0 a1 a2 a3 a4 a5 a6 hbs hkx hdx
        have hlk : xks.length ≤ 4096 := hlx.2
        have hql := dkS_lt hd
        have hqS : ¬ S wr.heap.size := fun e => by have := hql _ e; omega
        have HQS := Lib.hid hqS
        have HV := Lib.hid (dkS_below hd (one_alloc (o := .cells (fopC ⟨xk, xf, xp, xn, xc, xs, xA, xkc, xks⟩) 42)))
        have HQ0 := Lib.hid (Blk.new wr 42 (fopC ⟨xk, xf, xp, xn, xc, xs, xA, xkc, xks⟩))
        have HJ := Lib.hid (fun (V : World) (d2 : Dk) (w' : World) (hb : Below (wr.alloc (.cells (fopC ⟨xk, xf, xp, xn, xc, xs, xA, xkc, xks⟩) 42)).heap.size (wr.alloc (.cells (fopC ⟨xk, xf, xp, xn, xc, xs, xA, xkc, xks⟩) 42)) V) (k : DkR V S g d2 (N + j + 1) w') => (show DkR u S0 g d2 (N + (j + 1)) w' from dkR_join hf hS (bj one_alloc hb) k))
        have HKK := Lib.hid (show BsAt (wr.alloc (.cells (fopC ⟨xk, xf, xp, xn, xc, xs, xA, xkc, xks⟩) 42)) xA xks from bs_fr hbs (fr_of (S := fun _ => False) one_alloc) (fun _ _ _ h => h))
        have HKD := Lib.hid (show xks ≠ [] → ∀ a, xA = some a → ¬ S a.block from fun hk a ha e => by
          rcases hS _ e with h | h
          · exact hdx hk a ha h
          · have := hkx hk a ha; omega)
        clear hd hf hS hbs hfx hlx hkx hdx hql hqS
        by_cases hk1 : xk = 1
        · subst hk1
          have HS := Lib.hid (cut_any S g dj (N + j) hNj xf xn _ HV.out)
          go_wp2_with fail
          refine (HS.out).mono ?_
          rintro e w2 ⟨rfl, hr⟩
          have HR := Lib.hid hr
          clear hr
          go_wp2
          go_roundw
          case rel => exact ⟨j + 1, by omega, by go_num, by rw [HRS.out]; exact HJ.out _ _ _ (Below.refl _ _) HR.out⟩
          case measure => simp [intOf]; omega
        have hb1 : (xk == 1) = false := by simpa using hk1
        by_cases hk2 : xk = 2
        · subst hk2
          have HS := Lib.hid (sync_any S g dj (N + j) hNj xf _ HV.out)
          go_wp2_with fail
          refine (HS.out).mono ?_
          rintro e w2 ⟨rfl, hr⟩
          have HR := Lib.hid hr
          clear hr
          go_wp2
          go_roundw
          case rel => exact ⟨j + 1, by omega, by go_num, by rw [HRS.out]; exact HJ.out _ _ _ (Below.refl _ _) HR.out⟩
          case measure => simp [intOf]; omega
        have hb2 : (xk == 2) = false := by simpa using hk2
        by_cases hk3 : xk = 3
        · subst hk3
          have HS := Lib.hid (dkR_more (dkR_refl HV.out) hNj)
          have HR := HS
          go_wp2
          go_roundw
          case rel => exact ⟨j + 1, by omega, by go_num, by rw [HRS.out]; exact HJ.out _ _ _ (Below.refl _ _) HR.out⟩
          case measure => simp [intOf]; omega
        have hb3 : (xk == 3) = false := by simpa using hk3
        by_cases hk7 : xk = 7
        · subst hk7
          have HS := Lib.hid (dkR_more (dkR_refl HV.out) hNj)
          have HR := HS
          go_wp2
          go_roundw
          case rel => exact ⟨j + 1, by omega, by go_num, by rw [HRS.out]; exact HJ.out _ _ _ (Below.refl _ _) HR.out⟩
          case measure => simp [intOf]; omega
        have hb7 : (xk == 7) = false := by simpa using hk7
        by_cases hk4 : xk = 4
        · subst hk4
          have hE : ∃ E, errF ⟨4, xf, xp, xn, xc, xs, xA, xkc, xks⟩ = E := ⟨_, rfl⟩
          obtain ⟨E, hE⟩ := hE
          rw [hE] at HER
          have HRS2 := Lib.hid (show runD d (l.take (j + 1)) = (armD dj xn E).1 from by rw [HRS.out, ← hE]; rfl)
          have HA := Lib.hid (fun V (hb : Below (wr.alloc (.cells (fopC ⟨4, xf, xp, xn, xc, xs, xA, xkc, xks⟩) 42)).heap.size (wr.alloc (.cells (fopC ⟨4, xf, xp, xn, xc, xs, xA, xkc, xks⟩) 42)) V) => arm_any S g dj (N + j) hNj xn E V (dkS_below HV.out hb))
          have HB0 := Lib.hid (show Below (wr.alloc (.cells (fopC ⟨4, xf, xp, xn, xc, xs, xA, xkc, xks⟩) 42)).heap.size (wr.alloc (.cells (fopC ⟨4, xf, xp, xn, xc, xs, xA, xkc, xks⟩) 42)) (wr.alloc (.cells (fopC ⟨4, xf, xp, xn, xc, xs, xA, xkc, xks⟩) 42)).drew from (Below.refl _ _).drew)
          have HQA := Lib.hid HQ0.out.drew
          clear HBY HPL HBZ hE
          go_wp2_with fail
          go_region_held3 (fun V => V.cell? ⟨wr.heap.size, 0, none⟩ = some (.int .i64 4) ∧ V.cell? ⟨wr.heap.size, 1, none⟩ = some (.int .i64 xf) ∧ V.cell? ⟨wr.heap.size, 2, none⟩ = some (.int .i64 xp) ∧ V.cell? ⟨wr.heap.size, 3, none⟩ = some (.int .i64 xn) ∧ V.cell? ⟨wr.heap.size, 4, none⟩ = some (.int .u8 xc) ∧ V.cell? ⟨wr.heap.size, 5, none⟩ = some (.string xs) ∧ V.cell? ⟨wr.heap.size, 6, none⟩ = some (.slice xA xks.length xkc))
            (first | exact s7 HQA.out | exact s7 HQ1.out | exact s7 HQ2.out)
            (first
              | (go_at_call 30; (with_reducible refine (HER.out _).mono ?_); rintro e w1 ⟨rfl, hb1⟩; (have HQ1 := Lib.hid (blk_step HQA.out hb1)); (have HB1 := Lib.hid (bj HB0.out hb1)); clear hb1)
              | (go_at_call 17; (with_reducible refine (HA.out _ HB1.out).mono ?_); rintro e w2 ⟨rfl, hr2⟩; (have HQ2 := Lib.hid (q_blk HQ1.out hr2 HQS.out)); (have HR2 := Lib.hid hr2); clear hr2))
          go_wp2
          go_roundw
          case rel => exact ⟨j + 1, by omega, by go_num, by rw [HRS2.out]; exact HJ.out _ _ _ HB1.out HR2.out⟩
          case measure => simp [intOf]; omega
        have hb4 : (xk == 4) = false := by simpa using hk4
        by_cases hk5 : xk = 5
        · subst hk5
          have HS := Lib.hid (power_any S g dj (N + j) xn _ HV.out)
          go_wp2_with fail
          refine (HS.out).mono ?_
          rintro e w2 ⟨rfl, hr⟩
          have HR := Lib.hid hr
          clear hr
          go_wp2
          go_roundw
          case rel => exact ⟨j + 1, by omega, by go_num, by rw [HRS.out]; exact HJ.out _ _ _ (Below.refl _ _) (dkR_more HR.out hNj)⟩
          case measure => simp [intOf]; omega
        have hb5 : (xk == 5) = false := by simpa using hk5
        by_cases hk6 : xk = 6
        · subst hk6
          have HS := Lib.hid (crash_any S g dj (N + j) xA xks xks.length xkc rfl _ HKK.out HKD.out (by omega) HV.out)
          go_wp2_with fail
          refine (HS.out).mono ?_
          rintro e w2 ⟨rfl, hr⟩
          have HR := Lib.hid hr
          clear hr
          go_wp2
          go_roundw
          case rel => exact ⟨j + 1, by omega, by go_num, by rw [HRS.out]; exact HJ.out _ _ _ (Below.refl _ _) (dkR_more HR.out hNj)⟩
          case measure => simp [intOf]; omega
        have hb6 : (xk == 6) = false := by simpa using hk6
        obtain ⟨P, hP⟩ : ∃ P, placeF ⟨xk, xf, xp, xn, xc, xs, xA, xkc, xks⟩ = P := ⟨_, rfl⟩
        obtain ⟨Y, hY⟩ : ∃ Y, bytesF ⟨xk, xf, xp, xn, xc, xs, xA, xkc, xks⟩ = Y := ⟨_, rfl⟩
        rw [hP] at HPL
        rw [hY] at HBY HBZ
        have HRS2 := Lib.hid (show runD d (l.take (j + 1)) = (writeD dj xf P Y).1 from by
          rw [HRS.out, ← hP, ← hY]
          unfold stepD
          simp only
          rw [if_neg hk1, if_neg hk2, if_neg (fun h => h.elim hk3 hk7), if_neg hk4, if_neg hk5, if_neg hk6])
        have HA := Lib.hid (fun V (hb : Below (wr.alloc (.cells (fopC ⟨xk, xf, xp, xn, xc, xs, xA, xkc, xks⟩) 42)).heap.size (wr.alloc (.cells (fopC ⟨xk, xf, xp, xn, xc, xs, xA, xkc, xks⟩) 42)) V) => write_any S g dj (N + j) hNj xf P Y (by have := HBZ.out; omega) V (dkS_below HV.out hb))
        have HB0 := Lib.hid (show Below (wr.alloc (.cells (fopC ⟨xk, xf, xp, xn, xc, xs, xA, xkc, xks⟩) 42)).heap.size (wr.alloc (.cells (fopC ⟨xk, xf, xp, xn, xc, xs, xA, xkc, xks⟩) 42)) (wr.alloc (.cells (fopC ⟨xk, xf, xp, xn, xc, xs, xA, xkc, xks⟩) 42)).drew from (Below.refl _ _).drew)
        have HQA := Lib.hid HQ0.out.drew
        clear HER hP hY
        go_wp2_with fail
        go_region_held3 (fun V => V.cell? ⟨wr.heap.size, 0, none⟩ = some (.int .i64 xk) ∧ V.cell? ⟨wr.heap.size, 1, none⟩ = some (.int .i64 xf) ∧ V.cell? ⟨wr.heap.size, 2, none⟩ = some (.int .i64 xp) ∧ V.cell? ⟨wr.heap.size, 3, none⟩ = some (.int .i64 xn) ∧ V.cell? ⟨wr.heap.size, 4, none⟩ = some (.int .u8 xc) ∧ V.cell? ⟨wr.heap.size, 5, none⟩ = some (.string xs) ∧ V.cell? ⟨wr.heap.size, 6, none⟩ = some (.slice xA xks.length xkc))
          (first | exact s7 HQA.out | exact s7 HQ1.out | exact s7 HQ2.out | exact s7 HQ3.out)
          (first
            | (go_at_call 34; (with_reducible refine (HPL.out _).mono ?_); rintro e w1 ⟨rfl, hb1⟩; (have HQ1 := Lib.hid (blk_step HQA.out hb1)); (have HB1 := Lib.hid (bj HB0.out hb1)); clear hb1)
            | (go_at_call 35; (with_reducible refine (HBY.out _).mono ?_); rintro e w2 ⟨rfl, hb2⟩; (have HQ2 := Lib.hid (blk_step HQ1.out hb2)); (have HB2 := Lib.hid (bj HB1.out hb2)); clear hb2)
            | (go_at_call 10; (with_reducible refine (HA.out _ HB2.out).mono ?_); rintro e w3 ⟨rfl, hr3⟩; (have HQ3 := Lib.hid (q_blk HQ2.out hr3 HQS.out)); (have HR3 := Lib.hid hr3); clear hr3))
        go_wp2
        go_roundw
        case rel => exact ⟨j + 1, by omega, by go_num, by rw [HRS2.out]; exact HJ.out _ _ _ HB2.out HR3.out⟩
        case measure => simp [intOf]; omega
      · obtain rfl : j = n := by omega
        have HE := Lib.hid (show DkR u S0 g (runD d l) (N + j) wr by
          rw [List.take_of_length_le (by have := HN.out; omega)] at hR
          exact hR)
        clear hR
        go_wp2
        refine bodyPost_end (v := .tuple #[]) (by simp [results, Try.results37, go_sem]) rfl ⟨rfl, ?_⟩
        exact HE.out
end Go.Proofs.Ytffojihhjiogpaa
