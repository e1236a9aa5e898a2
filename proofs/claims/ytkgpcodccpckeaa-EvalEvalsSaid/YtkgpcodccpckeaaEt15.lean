/- ref15.At of any expression without groups. Conditions: how it, and the row, lie in memory; that it may be. -/
import Derived.Test.YtkgpcodccpckeaaEt14
import Derived.Test.YtkgpcodccpckeaaEv22
namespace Go.Proofs.Ytkgpcodccpckeaa
open Go Go.RowKit
set_option linter.unusedVariables false
set_option linter.unusedSimpArgs false
set_option maxRecDepth 100000 in
set_option maxHeartbeats 16000000 in
theorem at_leafx (v : Val) (tb nm : ByteArray) (n : Int) (A : Option Addr) (m c : Nat) (RA : Option Addr) (rn rc : Nat) (w : World) :
    Calls Try.prog 38 #[exV ⟨1, v, tb, nm, n, A, m, c⟩, .slice RA rn rc, .slice none 0 0] w fun e w' => e = .returned (.tuple #[valV v, .int .i64 0]) ∧ Below w.heap.size w w' := by
  obtain ⟨k, q, s⟩ := v
  have HA := Lib.hid (ax_new w ⟨1, (k, q, s), tb, nm, n, A, m, c⟩)
  go_enter Try.func38, Try.ntmps38
  go_wp2
  first
    | (obtain ⟨e0, e1, e2, _, _, _⟩ := cell3 (blk3_set HA.out.2.1 (.int .u8 k) (.int .i64 q) (.string s))
       exact bodyPost_ret (v := .tuple #[.agg #[.int .u8 k, .int .i64 q, .string s], .int .i64 0]) (by simp [results, Try.results38, go_sem, e0, e1, e2]) rfl ⟨rfl, below3_at HA.out.2.2.1 (by omega) _ _ _⟩)
    | exact bodyPost_ret (v := .tuple #[.agg #[.int .u8 k, .int .i64 q, .string s], .int .i64 0]) (by simp [results, Try.results38, go_sem]) rfl ⟨rfl, bj one_alloc one_alloc⟩
set_option maxRecDepth 100000 in
set_option maxHeartbeats 16000000 in
theorem at_colx (v : Val) (tb nm : ByteArray) (p : Nat) (A : Option Addr) (m c : Nat) (RA : Option Addr) (rn rc : Nat) (row : List Val) (w : World) (hV : Vals w w.heap.size RA row) (hn : rn = row.length) (hp : p < rn) :
    Calls Try.prog 38 #[exV ⟨2, v, tb, nm, p, A, m, c⟩, .slice RA rn rc, .slice none 0 0] w fun e w' => e = .returned (.tuple #[valV (row.getD p zV), .int .i64 0]) ∧ Below w.heap.size w w' := by
  obtain ⟨b, o, rfl, hbl, hc⟩ := vals_get hV (fun e => by rw [e] at hn; simp at hn; omega)
  have hpl : p < row.length := by omega
  obtain ⟨x0, x1, x2⟩ := hc p row[p] (List.getElem?_eq_getElem hpl)
  rw [show row.getD p zV = row[p] by rw [List.getD_eq_getElem?_getD, List.getElem?_eq_getElem hpl]; rfl]
  generalize row[p] = y at *
  obtain ⟨k, q, s⟩ := y
  obtain ⟨v1, v2, v3⟩ := v
  have HA := Lib.hid (ax_new w ⟨2, (v1, v2, v3), tb, nm, p, A, m, c⟩)
  simp only at x0 x1 x2
  have c0 := (HA.out.2.2.1.cell (p := ⟨b, o + p * 3, none⟩) hbl).trans x0
  have c1 := (HA.out.2.2.1.cell (p := ⟨b, o + p * 3 + 1, none⟩) hbl).trans x1
  have c2 := (HA.out.2.2.1.cell (p := ⟨b, o + p * 3 + 2, none⟩) hbl).trans x2
  have hpI : (p : Int) < rn := by omega
  clear hV hn hp hbl hc hpl x0 x1 x2
  go_enter Try.func38, Try.ntmps38
  go_wp2
  first
    | (obtain ⟨e0, e1, e2, _, _, _⟩ := cell3 (blk3_set HA.out.2.1 (.int .u8 k) (.int .i64 q) (.string s))
       exact bodyPost_ret (v := .tuple #[.agg #[.int .u8 k, .int .i64 q, .string s], .int .i64 0]) (by simp [results, Try.results38, go_sem, e0, e1, e2]) rfl ⟨rfl, below3_at HA.out.2.2.1 (by omega) _ _ _⟩)
    | exact bodyPost_ret (v := .tuple #[.agg #[.int .u8 k, .int .i64 q, .string s], .int .i64 0]) (by simp [results, Try.results38, go_sem]) rfl ⟨rfl, bj one_alloc one_alloc⟩
set_option maxRecDepth 100000 in
set_option maxHeartbeats 16000000 in
theorem at_node (op : Int) (v : Val) (tb nm : ByteArray) (n : Int) (A : Option Addr) (m c : Nat) (ks : List XT) (row : List Val) (RA : Option Addr) (rn rc : Nat) (w : World) (h1 : 3 ≤ op) (h2 : op ≤ 19) (hm : m = ks.length) (hm12 : m = 1 ∨ m = 2) (hop1 : op ≤ 5 → m = 1) (hop2 : 6 ≤ op → m = 2) (hK : Kids w w.heap.size A (ks.map XT.ex)) (hvk : ∀ x ∈ ks, Vk (comeP row x).1)
    (hk : ∀ (j : Nat) x, ks[j]? = some x → ∀ W, Below w.heap.size w W → Calls Try.prog 38 #[exV x.ex, .slice RA rn rc, .slice none 0 0] W fun e w' => e = .returned (.tuple #[valV (comeP row x).1, .int .i64 (comeP row x).2]) ∧ Below W.heap.size W w') :
    Calls Try.prog 38 #[exV ⟨op, v, tb, nm, n, A, m, c⟩, .slice RA rn rc, .slice none 0 0] w fun e w' => e = .returned (.tuple #[valV (comeF op m (comeL row ks)).1, .int .i64 (comeF op m (comeL row ks)).2]) ∧ Below w.heap.size w w' := by
  obtain ⟨vk, vn, vs⟩ := v
  have HST := Lib.hid (ax_new w ⟨op, (vk, vn, vs), tb, nm, n, A, m, c⟩)
  have HK := Lib.hid hk
  have HKI := Lib.hid hK
  have HN := Lib.hid hm
  have HVK := Lib.hid hvk
  have HOP := Lib.hid (And.intro h1 (And.intro h2 (And.intro hm12 (And.intro hop1 hop2))))
  have e1 := beq_no (a := op) (b := 1) (by omega)
  have e2 := beq_no (a := op) (b := 2) (by omega)
  have d20 : decide (20 ≤ op) = false := decide_eq_false (by omega)
  have hmI : (m : Int) ≤ 2 := by omega
  obtain ⟨iv, hv1, hv2, hv3, hv4⟩ := info_parts (show (Try.prog.info? 23).map (fun i => (i.zero, i.size, i.bytes)) = some (some (.agg #[.int .u8 0, .int .i64 0, .string ⟨#[]⟩]), 3, 32) by kernel_rfl)
  obtain ⟨R, hR⟩ : ∃ R, comeL row ks = R := ⟨_, rfl⟩
  have HR := Lib.hid hR
  rw [hR]
  clear hk hK hm hvk hm12 hop1 hop2 h1 h2 hR
  go_enter Try.func38, Try.ntmps38
  go_wp2
  go_loopw [8, 9] (fun lv i wr => ∃ (j : Nat) (K : List Val), j ≤ m ∧ i = .int .i64 j ∧ K.length = j ∧ (∀ x ∈ K, Vk x) ∧ wr.ownsRow (w.heap.size + 1 + 1) 23 3 lv j (valCs K) ∧ R = (K ++ (comeL row (ks.drop j)).1, (comeL row (ks.drop j)).2) ∧ Ax w ⟨op, (vk, vn, vs), tb, nm, n, A, m, c⟩ wr) (fun _ i _ => m - (intOf i).toNat)
  case atStart => exact ⟨0, [], by omega, rfl, rfl, (fun x hx => by cases hx), World.ownsRow_nil _ _ _ _, by rw [← HR.out]; rfl, HST.out⟩
  case round =>
    clear HST HR
    obtain ⟨j, K, hj, rfl, hKl, hKv, hown, heq, hst⟩ := hrel
    obtain ⟨c0, c7⟩ := ax_cells hst
    have HKL := Lib.hid (And.intro hKl hKv)
    have HO := Lib.hid hown
    have HST := Lib.hid hst
    have HQ := Lib.hid heq
    clear hKl hKv hown hst heq
    by_cases hjm : j < m
    · have hjl : j < ks.length := by have := HN.out; omega
      have hjx : (ks.map XT.ex)[j]? = some ks[j].ex := by rw [List.getElem?_map, List.getElem?_eq_getElem hjl]; rfl
      obtain ⟨b, o, rfl, hbl, hc⟩ := kids_get HKI.out (fun e => by rw [e] at hjx; simp at hjx)
      obtain ⟨a0, a1, a2, a3, a4, a5, a6, a7⟩ := cells8_below (hc j _ hjx) HST.out.2.2.1 hbl
      have hkc := HK.out j ks[j] (List.getElem?_eq_getElem hjl)
      have hkv := HVK.out ks[j] (List.getElem_mem hjl)
      have hd : ks.drop j = ks[j] :: ks.drop (j + 1) := List.drop_eq_getElem_cons hjl
      have heq := HQ.out
      rw [hd, comeL] at heq
      generalize ks[j] = y at *
      obtain ⟨yo, ⟨y1, y2, y3⟩, yt, yn, yN, yA, yc, yk⟩ := y
      simp only [XT.ex] at a0 a1 a2 a3 a4 a5 a6 a7
      generalize hkk : comeP row (XT.mk yo (y1, y2, y3) yt yn yN yA yc yk) = r at *
      obtain ⟨⟨r1, r2, r3⟩, re⟩ := r
      have HKC := Lib.hid hkc
      have HKV := Lib.hid hkv
      clear hkc hkv hd hjx hbl hc hkk HQ
      by_cases hr : re = 0
      · subst hr
        have HQ2 := Lib.hid (show R = ((K ++ [(r1, r2, r3)]) ++ (comeL row (ks.drop (j + 1))).1, (comeL row (ks.drop (j + 1))).2) by rw [heq, if_neg (by simp)]; simp)
        clear heq
        go_wp2_with fail
        refine (HKC.out _ HST.out.2.2.1).mono ?_
        rintro e w5 ⟨rfl, hb5⟩
        have HS7 := Lib.hid (ax_step (ax_step (ax_step HST.out hb5) (one_alloc (o := .cells (valC (r1, r2, r3)) 23))) (one_alloc (o := .cells (valC (r1, r2, r3)) 23)))
        have HO7 := Lib.hid (own_below (own_below (own_below HO.out hb5) (one_alloc (o := .cells (valC (r1, r2, r3)) 23))) (one_alloc (o := .cells (valC (r1, r2, r3)) 23)))
        have HBS := Lib.hid HS7.out.2.2.2
        have hrd := reads3g (w5.alloc (.cells (valC (r1, r2, r3)) 23)) (w5.heap.size + 1) (r1, r2, r3) 23 (by simp)
        have hKj := HKL.out.1
        have HKA := Lib.hid (show ∀ x ∈ K ++ [(r1, r2, r3)], Vk x from fun x hx => by
          rcases List.mem_append.1 hx with hx | hx
          · exact HKL.out.2 x hx
          · rw [List.mem_singleton.1 hx]; exact HKV.out)
        clear hb5 HKC HO HST c0 c7 a0 a1 a2 a3 a4 a5 a6 a7
        go_wp2_with (at_builtin; refine wpList_append_any _ rfl (.tmp 55) (.tmp 57) 42 rfl (w.heap.size + 1 + 1) 23 iv _ 3 32 Try.underlying42 hv1 hv2 hv3 hv4 rfl (by omega) _ j (valCs K) rfl HO7.out (w5.heap.size + 1 + 1) (some ⟨w5.heap.size + 1, 0, none⟩) 1 1 [Value.int .u8 r1, .int .i64 r2, .string r3] rfl hrd (by intro u hu; simp at hu; rcases hu with rfl | rfl | rfl <;> rfl) (by simp only [maxLen]; omega) (by omega) HBS.out ?_; intro v1 w6 hown1 hg1 hat1; (have HS8 := Lib.hid (ax_grown HS7.out hg1 (fun z hz => (HO7.out.lt z hz).1))); (have HO8 : Hid (w6.ownsRow (w.heap.size + 1 + 1) 23 3 v1 (j + 1) (valCs (K ++ [(r1, r2, r3)]))) := Lib.hid (by rw [valCs_snoc]; exact hown1)); clear hown1 hg1 hat1 hrd)
        go_roundw
        case rel => exact ⟨j + 1, K ++ [(r1, r2, r3)], by omega, by go_num, by simp [hKj], HKA.out, HO8.out, HQ2.out, HS8.out⟩
        case measure => simp [intOf]; omega
      · have hrb : (re != 0) = true := by simp [bne, hr]
        have HQ2 := Lib.hid (show comeF op m R = (zV, re) by rw [heq, if_pos hr]; unfold comeF; rw [if_pos hr])
        clear heq
        go_wp2_with fail
        refine (HKC.out _ HST.out.2.2.1).mono ?_
        rintro e w5 ⟨rfl, hb5⟩
        have HS6 := Lib.hid (ax_step (ax_step HST.out hb5) (one_alloc (o := .cells (valC (r1, r2, r3)) 23)))
        obtain ⟨z0, z1, z2, f0, f1, f2⟩ := cell3 HS6.out.2.1
        clear hb5 HKC hr
        go_wp2
        obtain ⟨e0, e1, e2, _, _, _⟩ := cell3 (blk3_set HS6.out.2.1 (.int .u8 0) (.int .i64 0) (.string ⟨#[]⟩))
        exact bodyPost_ret (v := .tuple #[.agg #[.int .u8 0, .int .i64 0, .string ⟨#[]⟩], .int .i64 re]) (by simp [results, Try.results38, go_sem, e0, e1, e2]) rfl ⟨by rw [HQ2.out], below3_at HS6.out.2.2.1 (by omega) _ _ _⟩
    · obtain rfl : j = m := by omega
      have HQ2 := Lib.hid (show R = (K, 0) by rw [HQ.out, List.drop_of_length_le (by have := HN.out; omega)]; simp [comeL])
      have HF := Lib.hid (show comeF op j R = doK op j (K.getD 0 zV) (K.getD 1 zV) by rw [HQ2.out]; unfold comeF; rw [if_neg (by simp)])
      obtain ⟨A2, cv, rfl⟩ := own_form HO.out
      have hvs := vals_of_own HO.out HKL.out.1
      obtain ⟨bq, oq, rfl, _, _⟩ := vals_get hvs (fun e => by have h := HKL.out.1; rw [e] at h; simp at h; have := HOP.out.2.2.1; omega)
      have HDO := Lib.hid (do_any op K bq oq j cv wr HOP.out.1 HOP.out.2.1 HKL.out.1.symm HOP.out.2.2.1 HOP.out.2.2.2.1 HOP.out.2.2.2.2 hvs HKL.out.2)
      generalize doK op j (K.getD 0 zV) (K.getD 1 zV) = z at *
      obtain ⟨⟨z1, z2, z3⟩, ze⟩ := z
      clear hvs HQ HO
      go_wp2_with fail
      refine HDO.out.mono ?_
      rintro e w9 ⟨rfl, hb9⟩
      have HS9 := Lib.hid (ax_step HST.out hb9)
      obtain ⟨r0, r1, r2, f0, f1, f2⟩ := cell3 HS9.out.2.1
      clear hb9 c0 c7
      go_wp2
      obtain ⟨e0, e1, e2, _, _, _⟩ := cell3 (blk3_set HS9.out.2.1 (.int .u8 z1) (.int .i64 z2) (.string z3))
      exact bodyPost_ret (v := .tuple #[.agg #[.int .u8 z1, .int .i64 z2, .string z3], .int .i64 ze]) (by simp [results, Try.results38, go_sem, e0, e1, e2]) rfl ⟨by rw [HF.out], below3_at HS9.out.2.2.1 (by omega) _ _ _⟩
/-- ref15's At, of any expression that may be for a row -/
theorem at_tree (row : List Val) (hr : ∀ x ∈ row, Vk x) (RA : Option Addr) (rn rc : Nat) (hn : rn = row.length) (T : XT) : ∀ w : World, InT w w.heap.size T → Vals w w.heap.size RA row → mayP rn T 0 = true →
    Calls Try.prog 38 #[exV T.ex, .slice RA rn rc, .slice none 0 0] w fun e w' => e = .returned (.tuple #[valV (comeP row T).1, .int .i64 (comeP row T).2]) ∧ Below w.heap.size w w' := by
  induction T using xt_ind with
  | h op v tb nm n A c ks ih =>
    intro w hin hV hM
    obtain ⟨m1, m19, hf, m2, mk⟩ := mayP_parts hM rfl
    cases hin with
    | mk _ _ _ _ _ _ _ _ h0 h1 h2 h3 h4 hk hi =>
    show Calls Try.prog 38 #[exV ⟨op, v, tb, nm, n, A, ks.length, c⟩, .slice RA rn rc, .slice none 0 0] w _
    rw [comeP]
    by_cases o1 : op = 1
    · subst o1
      rw [if_pos rfl]
      exact at_leafx v tb nm n A ks.length c RA rn rc w
    rw [if_neg o1]
    by_cases o2 : op = 2
    · subst o2
      rw [if_pos rfl]
      have hr := m2 rfl
      obtain ⟨p, rfl⟩ : ∃ p : Nat, (p : Int) = n := ⟨n.toNat, by omega⟩
      rw [Int.toNat_natCast]
      exact at_colx v tb nm p A ks.length c RA rn rc row w hV hn (by omega)
    rw [if_neg o2]
    have hlen : (op ≤ 5 → ks.length = 1) ∧ (6 ≤ op → ks.length = 2) := by
      unfold fitsB at hf
      repeat' split at hf
      all_goals simp at hf
      all_goals omega
    refine at_node op v tb nm n A ks.length c ks row RA rn rc w (by omega) m19 rfl (fits_m hf (by omega) m19) hlen.1 hlen.2 hk (fun x hx => vk_come row hr (hi x hx)) ?_
    intro j x hx W hW
    have hm := List.mem_of_getElem? hx
    exact ih x hm W (int_step (hi x hm) hW) (vals_step hV hW) (mk x hm)
end Go.Proofs.Ytkgpcodccpckeaa
