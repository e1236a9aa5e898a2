/- eval.Fold of any expression, any group. Conditions: how they lie in memory. -/
import Derived.Test.YtkgpcodccpckeaaEg4
namespace Go.Proofs.Ytkgpcodccpckeaa
open Go Go.RowKit
set_option linter.unusedVariables false
set_option linter.unusedSimpArgs false
/-- Fold's boxes and answer -/
def Fz (w : World) (x : Ex) (R : Option Addr) (rn rc : Nat) (W : World) : Prop := Blk W w.heap.size 29 (exC x) ∧ Blk W (w.heap.size + 1) 43 #[.slice R rn rc] ∧ Blk W (w.heap.size + 1 + 1) 23 #[.int .u8 0, .int .i64 0, .string ⟨#[]⟩] ∧ Below w.heap.size w W
theorem fz_below {w W W' : World} {x : Ex} {R : Option Addr} {rn rc : Nat} (h : Fz w x R rn rc W) (hb : Below W.heap.size W W') : Fz w x R rn rc W' := ⟨blk_step h.1 hb, blk_step h.2.1 hb, blk_step h.2.2.1 hb, bj h.2.2.2 hb⟩
theorem fz_new (w : World) (x : Ex) (R : Option Addr) (rn rc : Nat) : Fz w x R rn rc (((w.alloc (.cells (exC x) 29)).alloc (.cells #[.slice R rn rc] 43)).alloc (.cells #[.int .u8 0, .int .i64 0, .string ⟨#[]⟩] 23)) :=
  ⟨((Blk.new _ _ _).alloc _).alloc _, (blk_new _ _ _ _ (by simp)).alloc _, blk_new _ _ _ _ (by simp), bj3⟩
set_option maxRecDepth 100000 in
set_option maxHeartbeats 8000000 in
theorem fold_bad (op k q n : Int) (s tb nm : ByteArray) (A : Option Addr) (m c : Nat) (R : Option Addr) (rn rc : Nat) (cl : Int) (w : World)
    (hmay : ∀ W, Below w.heap.size w W → Calls Try.prog 30 #[.agg #[.int .u8 op, .int .u8 k, .int .i64 q, .string s, .string tb, .string nm, .int .i64 n, .slice A m c], .int .i64 cl, .int .i64 1] W fun e w' => e = .returned (.bool false) ∧ Below W.heap.size W w') :
    Calls Try.prog 20 #[.agg #[.int .u8 op, .int .u8 k, .int .i64 q, .string s, .string tb, .string nm, .int .i64 n, .slice A m c], .slice R rn rc, .int .i64 cl] w fun e w' => e = .returned (.tuple #[.agg #[.int .u8 0, .int .i64 0, .string ⟨#[]⟩], .int .i64 2]) ∧ Below w.heap.size w w' := by
  have HM := Lib.hid hmay
  have HS := Lib.hid (fz_new w ⟨op, (k, q, s), tb, nm, n, A, m, c⟩ R rn rc)
  clear hmay
  go_enter Try.func20, Try.ntmps20
  go_wp2_with fail
  refine (HM.out _ HS.out.2.2.2).mono ?_
  rintro e w3 ⟨rfl, hb3⟩
  have hs := fz_below HS.out hb3
  obtain ⟨y0, y1, y2, f0, f1, f2⟩ := cell3 hs.2.2.1
  clear hb3
  go_wp2
  obtain ⟨e0, e1, e2, _, _, _⟩ := cell3 (blk3_set hs.2.2.1 (.int .u8 0) (.int .i64 0) (.string ⟨#[]⟩))
  exact bodyPost_ret (v := .tuple #[.agg #[.int .u8 0, .int .i64 0, .string ⟨#[]⟩], .int .i64 2]) (by simp [results, Try.results20, go_sem, e0, e1, e2]) rfl ⟨rfl, below3_at hs.2.2.2 (by omega) _ _ _⟩
set_option maxRecDepth 100000 in
set_option maxHeartbeats 8000000 in
theorem fold_ok (op k q n : Int) (s tb nm : ByteArray) (A : Option Addr) (m c : Nat) (R : Option Addr) (rs : List Rw) (rn rc : Nat) (cl : Int) (z zz : Val × Int) (w : World) (hzz : (if ∀ r ∈ rs, (r.l.length : Int) = cl then z else (zV, 2)) = zz) (hR : Rws w w.heap.size R rs) (hn : rn = rs.length) (hn1 : rn ≤ 100000) (hl1 : ∀ r ∈ rs, r.l.length ≤ 1000)
    (hmay : ∀ W, Below w.heap.size w W → Calls Try.prog 30 #[.agg #[.int .u8 op, .int .u8 k, .int .i64 q, .string s, .string tb, .string nm, .int .i64 n, .slice A m c], .int .i64 cl, .int .i64 1] W fun e w' => e = .returned (.bool true) ∧ Below W.heap.size W w')
    (hcome : (∀ r ∈ rs, (r.l.length : Int) = cl) → ∀ W, Below w.heap.size w W → Blk W (w.heap.size + 1) 43 #[.slice R rn rc] → Calls Try.prog 34 #[.agg #[.func (.func 35) #[] #[.pointer (some ⟨w.heap.size + 1, 0, none⟩)], .slice R rn rc], .agg #[.int .u8 op, .int .u8 k, .int .i64 q, .string s, .string tb, .string nm, .int .i64 n, .slice A m c]] W fun e w' => e = .returned (.tuple #[valV z.1, .int .i64 z.2]) ∧ Below W.heap.size W w') :
    Calls Try.prog 20 #[.agg #[.int .u8 op, .int .u8 k, .int .i64 q, .string s, .string tb, .string nm, .int .i64 n, .slice A m c], .slice R rn rc, .int .i64 cl] w fun e w' => e = .returned (.tuple #[valV zz.1, .int .i64 zz.2]) ∧ Below w.heap.size w w' := by
  have HM := Lib.hid hmay
  have HCM := Lib.hid hcome
  have HRS := Lib.hid hR
  obtain ⟨⟨q1, q2, q3⟩, qe⟩ := zz
  have HZZ := Lib.hid hzz
  have HN := Lib.hid hn
  have HL := Lib.hid hl1
  have HS := Lib.hid (fz_new w ⟨op, (k, q, s), tb, nm, n, A, m, c⟩ R rn rc)
  have hnI : (rn : Int) ≤ 100000 := by omega
  clear hmay hcome hR hn hn1 hl1 hzz
  go_enter Try.func20, Try.ntmps20
  go_wp2_with fail
  refine (HM.out _ HS.out.2.2.2).mono ?_
  rintro e w3 ⟨rfl, hb3⟩
  have HS3 := Lib.hid (fz_below HS.out hb3)
  have r0 := cell1 HS3.out.2.1
  clear hb3
  go_wp2
  go_loopw [18] (fun i wr => ∃ (j : Nat), j ≤ rn ∧ i = .int .i64 j ∧ (∀ r ∈ rs.take j, (r.l.length : Int) = cl) ∧ Fz w ⟨op, (k, q, s), tb, nm, n, A, m, c⟩ R rn rc wr) (fun i _ => rn - (intOf i).toNat)
  case atStart => exact ⟨0, by omega, rfl, (fun r hr => by simp at hr), HS3.out⟩
  case round =>
    clear HS HS3 r0
    obtain ⟨j, hj, rfl, hall, hst⟩ := hrel
    have HST := Lib.hid hst
    have HA := Lib.hid hall
    clear hall
    by_cases hjm : j < rn
    · have hjl : j < rs.length := by have := HN.out; omega
      obtain ⟨rb, ro, rfl, hrbl, hrc⟩ := rws_get HRS.out (fun e => by rw [e] at hjl; simp at hjl)
      obtain ⟨hx0, hxr⟩ := hrc j rs[j] (List.getElem?_eq_getElem hjl)
      have x0 := (hst.2.2.2.cell (p := ⟨rb, ro + j, none⟩) hrbl).trans hx0
      have hmem := List.getElem_mem hjl
      have hl1 := HL.out rs[j] hmem
      have htk : rs.take (j + 1) = rs.take j ++ [rs[j]] := by rw [List.take_add_one, List.getElem?_eq_getElem hjl]; rfl
      have HTK := Lib.hid htk
      have HMEM := Lib.hid hmem
      generalize rs[j] = r at *
      obtain ⟨rA, rcc, rl⟩ := r
      simp only at x0 hl1
      have hjI : (j : Int) < rn := by omega
      by_cases he : (rl.length : Int) = cl
      · have HALL : Hid (∀ r ∈ rs.take (j + 1), (r.l.length : Int) = cl) := Lib.hid (by
          rw [HTK.out]
          intro r hr
          rcases List.mem_append.1 hr with hr | hr
          · exact HA.out r hr
          · rw [List.mem_singleton.1 hr]; exact he)
        have hb : ((rl.length : Int) != cl) = false := by rw [he]; simp
        generalize rl.length = L at *
        have hLI : (L : Int) ≤ 1000 := by omega
        clear he htk hmem hx0 hxr hrc hst hl1
        go_wp2
        go_roundw
        case rel => exact ⟨j + 1, by omega, by go_num, HALL.out, HST.out⟩
        case measure => simp [intOf]; omega
      · have hb : ((rl.length : Int) != cl) = true := by rw [bne_iff_ne]; exact he
        have hzz := HZZ.out
        rw [if_neg (fun h => he (h _ HMEM.out))] at hzz
        simp only [Prod.mk.injEq] at hzz
        obtain ⟨⟨rfl, rfl, rfl⟩, rfl⟩ := hzz
        clear HZZ
        obtain ⟨y0, y1, y2, f0, f1, f2⟩ := cell3 hst.2.2.1
        generalize rl.length = L at *
        have hLI : (L : Int) ≤ 1000 := by omega
        clear he htk hmem hx0 hxr hrc hst hl1 HTK HMEM
        go_wp2
        obtain ⟨e0, e1, e2, _, _, _⟩ := cell3 (blk3_set HST.out.2.2.1 (.int .u8 0) (.int .i64 0) (.string ⟨#[]⟩))
        exact bodyPost_ret (v := .tuple #[.agg #[.int .u8 0, .int .i64 0, .string ⟨#[]⟩], .int .i64 2]) (by simp [results, Try.results20, go_sem, e0, e1, e2]) rfl ⟨rfl, below3_at HST.out.2.2.2 (by omega) _ _ _⟩
    · obtain rfl : j = rn := by omega
      have hyes : ∀ r ∈ rs, (r.l.length : Int) = cl := fun r hr => HA.out r (by rw [List.take_of_length_le (by have := HN.out; omega)]; exact hr)
      have hcm := HCM.out hyes
      have hzz := HZZ.out
      rw [if_pos hyes] at hzz
      rw [hzz] at hcm
      have HC := Lib.hid hcm
      have r0 := cell1 hst.2.1
      have hs4 := fz_below hst (one_alloc (o := .cells #[.func (.func 35) #[] #[.pointer (some ⟨w.heap.size + 1, 0, none⟩)], .slice R j rc] 62))
      have HS4 := Lib.hid hs4
      obtain ⟨k0, k1, k2, k3, k4, k5, k6, k7⟩ := cell8_all hs4.1
      clear hyes hcm hst hs4 HCM hzz HZZ
      go_wp2_with fail
      refine (HC.out _ HS4.out.2.2.2 HS4.out.2.1).mono ?_
      rintro e w5 ⟨rfl, hb5⟩
      have hs := fz_below HS4.out hb5
      obtain ⟨y0, y1, y2, f0, f1, f2⟩ := cell3 hs.2.2.1
      clear hb5
      go_wp2
      obtain ⟨e0, e1, e2, _, _, _⟩ := cell3 (blk3_set hs.2.2.1 (.int .u8 q1) (.int .i64 q2) (.string q3))
      exact bodyPost_ret (v := .tuple #[.agg #[.int .u8 q1, .int .i64 q2, .string q3], .int .i64 qe]) (by simp [results, Try.results20, go_sem, e0, e1, e2]) rfl ⟨rfl, below3_at hs.2.2.2 (by omega) _ _ _⟩
def foldP (cl : Int) (rs : List Rw) (T : XT) : Val × Int := if mayP cl T 1 = true then (if ∀ r ∈ rs, (r.l.length : Int) = cl then comG rs T else (zV, 2)) else (zV, 2)
/-- Fold, of any expression and group -/
theorem fold_tree (rs : List Rw) (R : Option Addr) (rn rc : Nat) (cl : Int) (hn : rn = rs.length) (hn1 : rn ≤ 100000) (hl1 : ∀ r ∈ rs, r.l.length ≤ 1000 ∧ ∀ x ∈ r.l, Vk x) (T : XT) (w : World) (hin : InT w w.heap.size T) (hR : Rws w w.heap.size R rs) :
    Calls Try.prog 20 #[exV T.ex, .slice R rn rc, .int .i64 cl] w fun e w' => e = .returned (.tuple #[valV (foldP cl rs T).1, .int .i64 (foldP cl rs T).2]) ∧ Below w.heap.size w w' := by
  have hm := fun (W : World) (hb : Below w.heap.size w W) => may_tree cl T W 1 (int_step hin hb) (by omega) (by omega)
  have hc := fun (hM : mayP cl T 1 = true) (hy : ∀ r ∈ rs, (r.l.length : Int) = cl) (W : World) (hb : Below w.heap.size w W) (hg : Blk W (w.heap.size + 1) 43 #[.slice R rn rc]) => come_treeG rs R rn rc (w.heap.size + 1) cl T W (int_step hin hb) ⟨hg, rws_step hR hb, hn, hn1, fun r hr => ⟨hy r hr, (hl1 r hr).1, (hl1 r hr).2⟩⟩ hM
  unfold foldP
  generalize comG rs T = z at *
  obtain ⟨op, ⟨vk, vn, vs⟩, tb, nm, n, A, c, ks⟩ := T
  cases hM : mayP cl (.mk op (vk, vn, vs) tb nm n A c ks) 1
  · rw [hM] at hm
    rw [if_neg (by simp)]
    exact fold_bad op vk vn n vs tb nm A ks.length c R rn rc cl w hm
  · rw [hM] at hm
    rw [if_pos rfl]
    exact fold_ok op vk vn n vs tb nm A ks.length c R rs rn rc cl z _ w rfl hR hn hn1 (fun r hr => (hl1 r hr).1) hm (hc hM)
end Go.Proofs.Ytkgpcodccpckeaa
