/- The walk of EvalSound. Conditions: how its arguments lie in memory. -/
import Derived.Test.YtkgpcodccpckeaaEg11
import Derived.Test.YtkgpcodccpckeaaEg6
import Derived.Test.YtkgpcodccpckeaaOpenRow
import Derived.Test.YtkgpcodccpckeaaEv12
namespace Go.Proofs.Ytkgpcodccpckeaa
open Go Go.RowKit
set_option linter.unusedVariables false
set_option linter.unusedSimpArgs false
set_option maxRecDepth 100000 in
set_option maxHeartbeats 8000000 in
theorem sound_walk (op vk vn : Int) (vs tb nm : ByteArray) (n : Int) (A : Option Addr) (m c : Nat) (RA : Option Addr) (rs : List Rw) (rn rc : Nat) (CA : Option Addr) (cn cc : Nat) (z : Nat) (k0 e0 k1 e1 : Int) (zE : Rw → Val × Int) (zF : Val × Int) (P : Prop) (w : World)
    (HN : Hid (rn = rs.length)) (HR : Hid (Rws w w.heap.size RA rs))
    (HS : Hid (∀ W : World, Below w.heap.size w W → Calls Try.prog 22 #[exV ⟨op, (vk, vn, vs), tb, nm, n, A, m, c⟩, .int .i64 0] W fun e w' => e = .returned (.int .i64 z) ∧ Below W.heap.size W w'))
    (HG : Hid (∀ W : World, Below w.heap.size w W → Calls Try.prog 24 #[.slice RA rn rc] W fun e w' => ∃ B : Bool, e = .returned (.bool B) ∧ (B = false → rs.length ≤ 2000 ∧ ∀ r ∈ rs, r.l.length ≤ 40) ∧ Below W.heap.size W w'))
    (HK : Hid (rs.length ≤ 2000 → cn ≤ 40 → ∀ W : World, Below w.heap.size w W → Calls Try.prog 27 #[.slice RA rn rc, .slice CA cn cc] W fun e w' => ∃ B : Bool, e = .returned (.bool B) ∧ (B = true → P) ∧ Below W.heap.size W w'))
    (HT0 : Hid (∀ W : World, Below w.heap.size w W → Calls Try.prog 11 #[exV ⟨op, (vk, vn, vs), tb, nm, n, A, m, c⟩, .slice CA cn cc, .bool false] W fun e w' => e = .returned (.tuple #[.int .u8 k0, .int .i64 e0]) ∧ Below W.heap.size W w'))
    (HT1 : Hid (∀ W : World, Below w.heap.size w W → Calls Try.prog 11 #[exV ⟨op, (vk, vn, vs), tb, nm, n, A, m, c⟩, .slice CA cn cc, .bool true] W fun e w' => e = .returned (.tuple #[.int .u8 k1, .int .i64 e1]) ∧ Below W.heap.size W w'))
    (HE : Hid ((∀ r ∈ rs, r.l.length ≤ 40) → ∀ r ∈ rs, ∀ W : World, Below w.heap.size w W → Calls Try.prog 15 #[exV ⟨op, (vk, vn, vs), tb, nm, n, A, m, c⟩, .slice r.A r.l.length r.c] W fun e w' => e = .returned (.tuple #[valV (zE r).1, .int .i64 (zE r).2]) ∧ Below W.heap.size W w'))
    (HF : Hid (rs.length ≤ 2000 → (∀ r ∈ rs, r.l.length ≤ 40) → ∀ W : World, Below w.heap.size w W → Calls Try.prog 20 #[exV ⟨op, (vk, vn, vs), tb, nm, n, A, m, c⟩, .slice RA rn rc, .int .i64 cn] W fun e w' => e = .returned (.tuple #[valV zF.1, .int .i64 zF.2]) ∧ Below W.heap.size W w'))
    (HE0 : Hid (P → e0 = 0 → ∀ r ∈ rs, okk k0 (zE r))) (HF1 : Hid (P → e1 = 0 → okk k1 zF)) :
    Calls Try.prog 7 #[exV ⟨op, (vk, vn, vs), tb, nm, n, A, m, c⟩, .slice RA rn rc, .slice CA cn cc] w fun e w' => e = .returned (.bool true) ∧ Below w.heap.size w w' := by
  have HB := Lib.hid (bx_new w ⟨op, (vk, vn, vs), tb, nm, n, A, m, c⟩)
  by_cases hz : 200 < z
  · have hzI : decide (200 < (z : Int)) = true := decide_eq_true (by omega)
    clear hz HR HE HG HK HT0 HT1 HF HE0 HF1
    go_enter Try.func7, Try.ntmps7
    go_wp2_with fail
    refine (works15 _).mono ?_
    rintro e w1 ⟨rfl, hb1⟩
    have HB1 := Lib.hid (bx_below HB.out hb1)
    obtain ⟨c0, c1, c2, c3, c4, c5, c6, c7⟩ := bx_cells (bx_below HB.out hb1)
    clear hb1
    go_wp2_with fail
    refine (HS.out _ HB1.out.2).mono ?_
    rintro e w2 ⟨rfl, hb2⟩
    have HB2 := Lib.hid (bx_below HB1.out hb2)
    clear hb2
    go_wp2
    go_ret
    exact ⟨rfl, HB2.out.2⟩
  have hzI : decide (200 < (z : Int)) = false := decide_eq_false (by omega)
  clear hz
  go_enter Try.func7, Try.ntmps7
  go_wp2_with fail
  refine (works15 _).mono ?_
  rintro e w1 ⟨rfl, hb1⟩
  have HB1 := Lib.hid (bx_below HB.out hb1)
  obtain ⟨c0, c1, c2, c3, c4, c5, c6, c7⟩ := bx_cells (bx_below HB.out hb1)
  clear hb1 HB
  go_wp2_with fail
  refine (HS.out _ HB1.out.2).mono ?_
  rintro e w2 ⟨rfl, hb2⟩
  have HB2 := Lib.hid (bx_below HB1.out hb2)
  clear hb2 c0 c1 c2 c3 c4 c5 c6 c7 HB1 HS
  go_wp2_with fail
  refine (HG.out _ HB2.out.2).mono ?_
  rintro e w3 ⟨B, rfl, hB, hb3⟩
  have HB3 := Lib.hid (bx_below HB2.out hb3)
  clear hb3 HB2 HG
  cases B
  case' true =>
    clear hB
    go_wp2
    go_ret
    exact ⟨rfl, HB3.out.2⟩
  have HGR := Lib.hid (hB rfl)
  clear hB
  by_cases hc : 40 < cn
  · have hcI : decide (40 < (cn : Int)) = true := decide_eq_true (by omega)
    clear hc HK HF HE
    go_wp2
    go_ret
    exact ⟨rfl, HB3.out.2⟩
  have hcI : decide (40 < (cn : Int)) = false := decide_eq_false (by omega)
  have HK2 := Lib.hid (HK.out HGR.out.1 (by omega))
  have HE2 := Lib.hid (HE.out HGR.out.2)
  have HF2 := Lib.hid (HF.out HGR.out.1 HGR.out.2)
  clear hc HK HE HF
  go_wp2_with fail
  refine (HK2.out _ HB3.out.2).mono ?_
  rintro e w4 ⟨B, rfl, hB, hb4⟩
  have HB4 := Lib.hid (bx_below HB3.out hb4)
  clear hb4 HB3 HK2
  cases B
  case' false =>
    clear hB
    go_wp2
    go_ret
    exact ⟨rfl, HB4.out.2⟩
  have HE3 := Lib.hid (HE0.out (hB rfl))
  have HF3 := Lib.hid (HF1.out (hB rfl))
  clear hB HE0 HF1
  obtain ⟨c0, c1, c2, c3, c4, c5, c6, c7⟩ := bx_cells HB4.out
  go_wp2_with fail
  refine (HT0.out _ HB4.out.2).mono ?_
  rintro e w5 ⟨rfl, hb5⟩
  have HB5 := Lib.hid (bx_below HB4.out hb5)
  clear hb5 c0 c1 c2 c3 c4 c5 c6 c7 HB4 HT0
  have hnI : (rn : Int) ≤ 2000 := by have := HN.out; have := HGR.out.1; omega
  go_wp2
  go_loopw [43] (fun i wr => ∃ (j : Nat), j ≤ rn ∧ i = .int .i64 j ∧ Bx w ⟨op, (vk, vn, vs), tb, nm, n, A, m, c⟩ wr) (fun i _ => rn - (intOf i).toNat)
  case atStart => exact ⟨0, by omega, rfl, HB5.out⟩
  case round =>
    clear HB5
    obtain ⟨j, hj, rfl, hst⟩ := hrel
    have HST := Lib.hid hst
    obtain ⟨c0, c1, c2, c3, c4, c5, c6, c7⟩ := bx_cells hst
    by_cases hjn : j < rn
    · have hjl : j < rs.length := by have := HN.out; omega
      obtain ⟨b, o, rfl, hbl, hcc⟩ := rws_get HR.out (fun e => by rw [e] at hjl; simp at hjl)
      obtain ⟨hcell, hrow⟩ := hcc j rs[j] (List.getElem?_eq_getElem hjl)
      have hx := (hst.2.cell (p := ⟨b, o + j, none⟩) hbl).trans hcell
      have hmem := List.getElem_mem hjl
      have he := HE2.out rs[j] hmem
      have hok := fun h => HE3.out h rs[j] hmem
      generalize rs[j] = r at *
      generalize zE r = zz at *
      obtain ⟨⟨p1, q1, s1⟩, f1⟩ := zz
      obtain ⟨rA, rcc, rl⟩ := r
      simp only at hx he
      generalize rl.length = L at *
      have HCE := Lib.hid he
      have HOK := Lib.hid hok
      have hjI : (j : Int) < rn := by omega
      clear hcell hrow hcc he hok hmem hst
      go_wp2_with fail
      refine (HCE.out _ HST.out.2).mono ?_
      rintro e w6 ⟨rfl, hb6⟩
      have HS6 := Lib.hid (bx_below (bx_below HST.out hb6) (one_alloc (o := .cells (valC (p1, q1, s1)) 23)))
      clear hb6 c0 c1 c2 c3 c4 c5 c6 c7 HCE hx
      by_cases he0 : e0 = 0
      · obtain ⟨o1, o2, o3⟩ := HOK.out he0
        simp only at o1 o2 o3
        have g1 := beq_no o1
        have g2 := beq_no o2
        subst he0
        clear HOK o1 o2
        by_cases hp : p1 = 0
        · subst hp
          clear o3
          go_wp2
          go_roundw
          case rel => exact ⟨j + 1, by omega, by go_num, HS6.out⟩
          case measure => simp [intOf]; omega
        · obtain rfl : p1 = k0 := o3.resolve_left hp
          have hpb : (p1 != 0) = true := by rw [bne_iff_ne]; exact hp
          clear o3 hp
          go_wp2
          go_roundw
          case rel => exact ⟨j + 1, by omega, by go_num, HS6.out⟩
          case measure => simp [intOf]; omega
      · have g0 := beq_no he0
        clear he0 HOK
        go_wp2
        go_roundw
        case rel => exact ⟨j + 1, by omega, by go_num, HS6.out⟩
        case measure => simp [intOf]; omega
    · obtain rfl : j = rn := by omega
      clear hst
      go_wp2_with fail
      refine (HT1.out _ HST.out.2).mono ?_
      rintro e w6 ⟨rfl, hb6⟩
      have HB6 := Lib.hid (bx_below HST.out hb6)
      clear hb6 c0 c1 c2 c3 c4 c5 c6 c7
      obtain ⟨c0, c1, c2, c3, c4, c5, c6, c7⟩ := bx_cells HB6.out
      obtain ⟨⟨p1, q1, s1⟩, f1⟩ := zF
      go_wp2_with fail
      refine (HF2.out _ HB6.out.2).mono ?_
      rintro e w7 ⟨rfl, hb7⟩
      have HS7 := Lib.hid (bx_below (bx_below HB6.out hb7) (one_alloc (o := .cells (valC (p1, q1, s1)) 23)))
      clear hb7 c0 c1 c2 c3 c4 c5 c6 c7 HF2 HE2 HE3
      by_cases he1 : e1 = 0
      · obtain ⟨o1, o2, o3⟩ := HF3.out he1
        simp only at o1 o2 o3
        have g1 : (f1 != 150) = true := by rw [bne_iff_ne]; exact o1
        have g2 : (f1 != 2) = true := by rw [bne_iff_ne]; exact o2
        subst he1
        clear HF3 o1 o2
        by_cases hp : p1 = 0
        · subst hp
          clear o3
          go_wp2
          go_ret
          exact ⟨rfl, HS7.out.2⟩
        · obtain rfl : p1 = k1 := o3.resolve_left hp
          have hpb := beq_no hp
          clear o3 hp
          go_wp2
          go_ret
          exact ⟨rfl, HS7.out.2⟩
      · have g0 : (e1 != 0) = true := by rw [bne_iff_ne]; exact he1
        clear he1 HF3
        go_wp2
        go_ret
        exact ⟨rfl, HS7.out.2⟩
theorem evalSound_walk (T0 : XT) (A1 : Option Addr) (rs1 : List Rw) (k1_ : Nat) (A2 : Option Addr) (l2 : List Int) (n2 k2_ : Nat) (hn1 : rs1.length ≤ maxLen) (hm1 : rs1.length ≤ k1_) (hc1 : k1_ ≤ maxLen) (hz1 : A1 = none → rs1 = [] ∧ k1_ = 0) (hV1 : ∀ r ∈ rs1, ∀ y ∈ r.l, Vk y) (hn2 : n2 = l2.length) (hm2 : n2 ≤ maxLen) (w : World) (I0 : InT w w.heap.size T0) (I1 : Rws w w.heap.size A1 rs1) (I2 : U8s w w.heap.size A2 l2) :
    Calls Try.prog 7 #[exV T0.ex, .slice A1 rs1.length k1_, .slice A2 n2 k2_] w fun e w' => e = .returned (.bool true) ∧ Below w.heap.size w w' := by
  have h1 := fun (W : World) (hb : Below w.heap.size w W) => size_tree T0 W 0 (int_step I0 hb) (by omega)
  have h2 := fun (W : World) (hb : Below w.heap.size w W) => great_all A1 rs1 k1_ W (rws_step I1 hb) hn1
  have h3 := fun (h20 : rs1.length ≤ 2000) (h40 : n2 ≤ 40) (W : World) (hb : Below w.heap.size w W) => kinds_any A1 rs1 rs1.length k1_ A2 l2 n2 k2_ W (rws_step I1 hb) rfl (by omega) (u8s_step I2 hb) hn2 (by omega)
  have h4 := fun (W : World) (hb : Below w.heap.size w W) => type_tree l2 A2 n2 k2_ hn2 T0 W false (int_step I0 hb) (u8s_step I2 hb)
  have h5 := fun (W : World) (hb : Below w.heap.size w W) => type_tree l2 A2 n2 k2_ hn2 T0 W true (int_step I0 hb) (u8s_step I2 hb)
  have hrok : ∀ r ∈ rs1, RwOk w w.heap.size r := by
    intro r hr
    rcases I1 with e | ⟨b, o, _, _, hc⟩
    · rw [e] at hr; cases hr
    · obtain ⟨j, hj⟩ := List.mem_iff_getElem?.1 hr
      exact (hc j r hj).2
  have h6 := fun (h40 : ∀ r ∈ rs1, r.l.length ≤ 40) (r : Rw) (hr : r ∈ rs1) (W : World) (hb : Below w.heap.size w W) => eval_tree r.l r.A r.l.length r.c rfl (by have := h40 r hr; omega) (hV1 r hr) T0 W (int_step I0 hb) (vals_step (hrok r hr).1 hb)
  have h7 := fun (h20 : rs1.length ≤ 2000) (h40 : ∀ r ∈ rs1, r.l.length ≤ 40) (W : World) (hb : Below w.heap.size w W) => fold_tree rs1 A1 rs1.length k1_ n2 rfl (by omega) (fun r hr => ⟨by have := h40 r hr; omega, hV1 r hr⟩) T0 W (int_step I0 hb) (rws_step I1 hb)
  have h8 : (∀ r ∈ rs1, RowK l2 r.l) → (typeP l2 T0 false).2 = 0 → ∀ r ∈ rs1, okk (typeP l2 T0 false).1 (evP r.l T0) := fun hP h r hr => sound_eval l2 r.l T0 (hP r hr) h
  have h9 : (∀ r ∈ rs1, RowK l2 r.l) → (typeP l2 T0 true).2 = 0 → okk (typeP l2 T0 true).1 (foldP n2 rs1 T0) := fun hP h => by rw [hn2]; exact sound_fold l2 rs1 T0 hP h
  generalize typeP l2 T0 false = t0 at *
  generalize typeP l2 T0 true = t1 at *
  generalize foldP n2 rs1 T0 = zf at *
  generalize hze : (fun r : Rw => evP r.l T0) = ze
  have h6' := fun h40 r hr W hb => by have h := h6 h40 r hr W hb; rw [show evP r.l T0 = ze r by rw [← hze]] at h; exact h
  have h8' : (∀ r ∈ rs1, RowK l2 r.l) → t0.2 = 0 → ∀ r ∈ rs1, okk t0.1 (ze r) := fun hP h r hr => by rw [← hze]; exact h8 hP h r hr
  generalize szT T0 0 = zs at *
  clear h6 h8 hze I0 I2
  obtain ⟨op, ⟨vk, vn, vs⟩, tb, nm, n, A, c, ks⟩ := T0
  exact sound_walk op vk vn vs tb nm n A ks.length c A1 rs1 rs1.length k1_ A2 n2 k2_ zs t0.1 t0.2 t1.1 t1.2 ze zf (∀ r ∈ rs1, RowK l2 r.l) w (Lib.hid rfl) (Lib.hid I1) (Lib.hid h1) (Lib.hid h2) (Lib.hid h3) (Lib.hid h4) (Lib.hid h5) (Lib.hid h6') (Lib.hid h7) (Lib.hid h8') (Lib.hid h9)
end Go.Proofs.Ytkgpcodccpckeaa
