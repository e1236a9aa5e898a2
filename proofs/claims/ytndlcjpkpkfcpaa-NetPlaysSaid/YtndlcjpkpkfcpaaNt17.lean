/- ref25's Spoil of a letter. Conditions: those of each lemma. -/
import Derived.Test.YtndlcjpkpkfcpaaNt18
import Derived.BigRegion
namespace Go.Proofs.Ytndlcjpkpkfcpaa
open Go.RowKit Go Go.Maps
set_option linter.unusedVariables false
set_option linter.unusedSimpArgs false
theorem own_slots {W : World} {base g c : Nat} {L : List Lt} {j : Nat} {x : Lt} (h : W.ownsRow base 31 5 (.slice (some ⟨g, 0, none⟩) L.length c) L.length (ltCs L)) (hx : L[j]? = some x) :
    (W.frozen? ⟨g, j * 5, none⟩ = false ∧ W.frozen? ⟨g, j * 5 + 1, none⟩ = false ∧ W.frozen? ⟨g, j * 5 + 2, none⟩ = false ∧ W.frozen? ⟨g, j * 5 + 3, none⟩ = false ∧ W.frozen? ⟨g, j * 5 + 4, none⟩ = false) ∧ W.cell? ⟨g, j * 5, none⟩ = some (.int .i64 x.id) ∧ W.cell? ⟨g, j * 5 + 1, none⟩ = some (.int .i64 x.fr) ∧ W.cell? ⟨g, j * 5 + 2, none⟩ = some (.int .i64 x.to) ∧ W.cell? ⟨g, j * 5 + 3, none⟩ = some (.string x.bytes) ∧ W.cell? ⟨g, j * 5 + 4, none⟩ = some (.bool x.sp) := by
  obtain ⟨A, c', hv, hlt⟩ := lts_of_own h
  rcases hlt with rfl | ⟨g', o, hA, hgl, hc⟩
  · simp at hx
  · rcases h.2 with ⟨h0, _⟩ | ⟨g2, cap, cur, hv2, hbg, hg, _⟩
    · simp at h0
    · have hb : Blk W g2 31 cur := hg
      cases hv2
      cases hv
      cases hA
      have hq := hc j x hx
      simp only [Nat.zero_add] at hq
      exact ⟨⟨hb.frozen _, hb.frozen _, hb.frozen _, hb.frozen _, hb.frozen _⟩, hq⟩
theorem spoil_end {W : World} {gr base g1 c1 B j : Nat} {L : List Lt} {N k : Int} {x : Lt} (h1 : Blk W gr 42 #[.slice (some ⟨g1, 0, none⟩) L.length c1, .int .i64 N]) (h2 : W.ownsRow B 31 5 (.slice (some ⟨g1, 0, none⟩) L.length c1) L.length (ltCs L)) (hu : Up L) (hx : L[j]? = some x) (hk : x.id = k) (hB : gr < B) (hbase : base ≤ gr) (a : Lt) : RefS gr base (setLt L k a) N (((((W.setCell ⟨g1, j * 5, none⟩ (.int .i64 a.id)).setCell ⟨g1, j * 5 + 1, none⟩ (.int .i64 a.fr)).setCell ⟨g1, j * 5 + 2, none⟩ (.int .i64 a.to)).setCell ⟨g1, j * 5 + 3, none⟩ (.string a.bytes)).setCell ⟨g1, j * 5 + 4, none⟩ (.bool a.sp)) := by
  have hj : j < L.length := (List.getElem?_eq_some_iff.1 hx).1
  have hg1 : B ≤ g1 := by
    obtain ⟨g, c, e, hg⟩ := own_some h2 (by omega)
    cases e; exact hg
  have hl : (setLt L k a).length = L.length := by unfold setLt; simp
  have h5 := own_set5 h2 hj a
  rw [← ltCs_set a L j hu hx hk] at h5
  have hgz : gr ≠ g1 := by omega
  refine ⟨_, ((((h1.far (p := ⟨g1, j * 5, none⟩) hgz _).far (p := ⟨g1, j * 5 + 1, none⟩) hgz _).far (p := ⟨g1, j * 5 + 2, none⟩) hgz _).far (p := ⟨g1, j * 5 + 3, none⟩) hgz _).far (p := ⟨g1, j * 5 + 4, none⟩) hgz _, ?_, fun q hq => ?_, hbase⟩
  · rw [hl]
    exact own_base h5 (by omega)
  · have := (h2.lt q hq).1; omega
/-- the stored letters, behind the append: all that the rest wants -/
theorem sp_arm {w W6 w8 : World} {gr base z g1 c1 B j : Nat} {L : List Lt} {N k : Int} {x a : Lt} (hs : RefS gr base L N W6) (hz : Blk W6 z 31 (ltC a)) (hzg : z ≠ gr) (hbw : But gr gr w W6) (hB : W6.heap.size = B) (hu : Up L) (hx : L[j]? = some x) (hk : x.id = k) (hb : Below B W6 w8) (ho : w8.ownsRow B 31 5 (.slice (some ⟨g1, 0, none⟩) L.length c1) L.length (ltCs L)) :
    (w8.frozen? ⟨gr, 0, none⟩ = false ∧ ∃ u, w8.cell? ⟨gr, 0, none⟩ = some u) ∧
    ((w8.setCell ⟨gr, 0, none⟩ (.slice (some ⟨g1, 0, none⟩) L.length c1)).cell? ⟨gr, 0, none⟩ = some (.slice (some ⟨g1, 0, none⟩) L.length c1)) ∧
    Blk (w8.setCell ⟨gr, 0, none⟩ (.slice (some ⟨g1, 0, none⟩) L.length c1)) z 31 (ltC a) ∧
    (((w8.setCell ⟨gr, 0, none⟩ (.slice (some ⟨g1, 0, none⟩) L.length c1)).frozen? ⟨g1, j * 5, none⟩ = false ∧ (w8.setCell ⟨gr, 0, none⟩ (.slice (some ⟨g1, 0, none⟩) L.length c1)).frozen? ⟨g1, j * 5 + 1, none⟩ = false ∧ (w8.setCell ⟨gr, 0, none⟩ (.slice (some ⟨g1, 0, none⟩) L.length c1)).frozen? ⟨g1, j * 5 + 2, none⟩ = false ∧ (w8.setCell ⟨gr, 0, none⟩ (.slice (some ⟨g1, 0, none⟩) L.length c1)).frozen? ⟨g1, j * 5 + 3, none⟩ = false ∧ (w8.setCell ⟨gr, 0, none⟩ (.slice (some ⟨g1, 0, none⟩) L.length c1)).frozen? ⟨g1, j * 5 + 4, none⟩ = false) ∧ (w8.setCell ⟨gr, 0, none⟩ (.slice (some ⟨g1, 0, none⟩) L.length c1)).cell? ⟨g1, j * 5, none⟩ = some (.int .i64 x.id) ∧ (w8.setCell ⟨gr, 0, none⟩ (.slice (some ⟨g1, 0, none⟩) L.length c1)).cell? ⟨g1, j * 5 + 1, none⟩ = some (.int .i64 x.fr) ∧ (w8.setCell ⟨gr, 0, none⟩ (.slice (some ⟨g1, 0, none⟩) L.length c1)).cell? ⟨g1, j * 5 + 2, none⟩ = some (.int .i64 x.to) ∧ (w8.setCell ⟨gr, 0, none⟩ (.slice (some ⟨g1, 0, none⟩) L.length c1)).cell? ⟨g1, j * 5 + 3, none⟩ = some (.string x.bytes) ∧ (w8.setCell ⟨gr, 0, none⟩ (.slice (some ⟨g1, 0, none⟩) L.length c1)).cell? ⟨g1, j * 5 + 4, none⟩ = some (.bool x.sp)) ∧
    RefS gr base (setLt L k a) N ((((((w8.setCell ⟨gr, 0, none⟩ (.slice (some ⟨g1, 0, none⟩) L.length c1)).setCell ⟨g1, j * 5, none⟩ (.int .i64 a.id)).setCell ⟨g1, j * 5 + 1, none⟩ (.int .i64 a.fr)).setCell ⟨g1, j * 5 + 2, none⟩ (.int .i64 a.to)).setCell ⟨g1, j * 5 + 3, none⟩ (.string a.bytes)).setCell ⟨g1, j * 5 + 4, none⟩ (.bool a.sp)) ∧
    But gr gr w ((((((w8.setCell ⟨gr, 0, none⟩ (.slice (some ⟨g1, 0, none⟩) L.length c1)).setCell ⟨g1, j * 5, none⟩ (.int .i64 a.id)).setCell ⟨g1, j * 5 + 1, none⟩ (.int .i64 a.fr)).setCell ⟨g1, j * 5 + 2, none⟩ (.int .i64 a.to)).setCell ⟨g1, j * 5 + 3, none⟩ (.string a.bytes)).setCell ⟨g1, j * 5 + 4, none⟩ (.bool a.sp)) := by
  subst hB
  obtain ⟨v, hv, hvo, _, hbase⟩ := hs
  have hl := hv.lt
  have hj : j < L.length := (List.getElem?_eq_some_iff.1 hx).1
  have hg1 : W6.heap.size ≤ g1 := by
    obtain ⟨g, c, e, hg⟩ := own_some ho (by omega)
    cases e; exact hg
  have q1 := blk_step hv hb
  have q2 := q1.set_ 0 (.slice (some ⟨g1, 0, none⟩) L.length c1)
  have q3 := (blk_step hz hb).far (p := ⟨gr, 0, none⟩) hzg (.slice (some ⟨g1, 0, none⟩) L.length c1)
  have q4 := own_far ho (p := ⟨gr, 0, none⟩) (fun y hy => by have := (ho.lt y hy).1; show y ≠ gr; omega) (.slice (some ⟨g1, 0, none⟩) L.length c1)
  have q5 := but_trans (but_trans hbw (but_of hb)) (but_set (p := ⟨gr, 0, none⟩) (.inl rfl) (.slice (some ⟨g1, 0, none⟩) L.length c1))
  have hwz := hbw.size
  have hlow : w.heap.size ≤ g1 := by omega
  exact ⟨⟨q1.frozen 0, _, q1.cell 0⟩, q2.cell 0, q3, own_slots q4 hx, spoil_end q2 q4 hu hx hk hl hbase a, but_far (p := ⟨g1, j * 5 + 4, none⟩) (but_far (p := ⟨g1, j * 5 + 3, none⟩) (but_far (p := ⟨g1, j * 5 + 2, none⟩) (but_far (p := ⟨g1, j * 5 + 1, none⟩) (but_far (p := ⟨g1, j * 5, none⟩) q5 hlow _) hlow _) hlow _) hlow _) hlow _⟩
set_option maxRecDepth 100000 in
set_option maxHeartbeats 8000000 in
theorem rspoil_ok (k : Int) (at_ : Nat) (y : Int) (gr base : Nat) (L : List Lt) (N : Int) (w : World) (hs : RefS gr base L N w) (hl : L.length ≤ 64) (hu : Up L) (f t : Int) (b : ByteArray) (hf : findL L k = some ⟨k, f, t, b, false⟩) (hat : at_ < b.size) (hsz : b.size ≤ 262144) (hy0 : 0 < y) (hy1 : y < 256) :
    Calls Try.prog 19 #[.pointer (some ⟨gr, 0, none⟩), .int .i64 k, .int .i64 at_, .int .u8 y] w fun e w' => e = .returned (.int .i64 0) ∧ RefS gr base (setLt L k ⟨k, f, t, spoilB b at_ (xorB b at_ y), true⟩) N w' ∧ But gr gr w w' := by
  obtain ⟨j, hj, hx⟩ := at_some L 0 hf
  rw [Nat.zero_add] at hj
  have HF := Lib.hid (at_below gr base L N k _ hs hl _ hj)
  have hjl : j < L.length := (List.getElem?_eq_some_iff.1 hx).1
  have hjI : (j : Int) < L.length := by omega
  have hlI : (L.length : Int) ≤ 64 := by omega
  have HX := Lib.hid hx
  have HS := Lib.hid hs
  have HU := Lib.hid hu
  have hz1 : decide ((at_ : Int) < 0) = false := decide_eq_false (by omega)
  have hz2 : decide ((b.size : Int) ≤ at_) = false := decide_eq_false (by omega)
  have hz3 : (y == 0) = false := by simp; omega
  have hatI : (at_ : Int) < b.size := by omega
  have hszI : (b.size : Int) ≤ 262144 := by omega
  have hw : IntKind.i64.wrap ((at_ : Int) + 1) = at_ + 1 := by rw [IntKind.wrap_i64]; omega
  have hby := byte_at b at_ hat
  have h256 := bts_getD_lt b at_
  obtain ⟨c, hc⟩ : ∃ c, xorB b at_ y = c := ⟨_, rfl⟩
  have hxor : bits .xor .u8 ((b[at_].toNat : Nat) : Int) y = (c : Int) := by
    rw [hby, ← hc, u8_xor _ y (by omega) (by omega) (by omega) hy1]
    rfl
  rw [hc]
  obtain ⟨B', hB'⟩ : ∃ B', spoilB b at_ c = B' := ⟨_, rfl⟩
  rw [hB']
  obtain ⟨iv, hv1, hv2, hv3, hv4⟩ := info_parts (show (Try.prog.info? 31).map (fun i => (i.zero, i.size, i.bytes)) = some (some (.agg #[.int .i64 0, .int .i64 0, .int .i64 0, .string ⟨#[]⟩, .bool false]), 5, 48) by kernel_rfl)
  go_enter Try.func19, Try.ntmps19
  go_wp2_with fail
  refine HF.out.mono ?_
  rintro e w2 ⟨rfl, hb2⟩
  have h2 := ref_step HS.out hb2
  have HB2 := Lib.hid hb2
  obtain ⟨g, o, cp, c0, b0, b1, b2, b3, b4⟩ := ref_at h2 HX.out
  simp only at b0 b1 b2 b3 b4
  obtain ⟨W, hW⟩ : ∃ W, w2.alloc (.cells (ltC ⟨k, f, t, b, false⟩) 31) = W := ⟨_, rfl⟩
  have hWs : W.heap.size = w2.heap.size + 1 := by rw [← hW]; simp
  have hcv := run_convert_bytes_arg (P := Try.prog) (W.alloc (.cells #[Value.int IntKind.u8 (c : Int)] 5)).drew 52 5 Try.underlying52 Try.underlying5 W.heap.size 0 1 1 ([c].map Int.ofNat) rfl (fun i hi => by
    show (W.alloc (.cells #[Value.int IntKind.u8 (c : Int)] 5)).cell? _ = _
    rw [World.cell?_alloc_mark]
    obtain rfl : i = 0 := by omega
    rfl) 9 Try.underlying9
  rw [bstr_nums, hWs] at hcv
  have hxs : (b.extract 0 at_).size = at_ := by rw [ByteArray.size_extract]; omega
  have hys : (bstr [c]).size = 1 := by rw [bstr_size]; rfl
  have hzs : (b.extract (at_ + 1) b.size).size ≤ b.size := by rw [ByteArray.size_extract]; omega
  have hBB : b.extract 0 at_ ++ bstr [c] ++ b.extract (at_ + 1) b.size = B' := hB'
  have H2 := Lib.hid h2
  clear hb2 h2
  subst hW
  clear hWs
  have m1' : min at_ b.size = at_ := by omega
  have m2' : min (at_ : Int) (b.size : Int) = at_ := by omega
  have u1 : (at_ : Int) + 1 ≤ b.size := by omega
  have HSZ := Lib.hid hsz
  clear hby h256 hc hf hs hsz hl hu hx hj
  go_wp2_with fail
  obtain ⟨Y, hY⟩ : ∃ Y, bstr [c] = Y := ⟨_, rfl⟩
  obtain ⟨Z, hZ⟩ : ∃ Z, b.extract (at_ + 1) b.size = Z := ⟨_, rfl⟩
  rw [hY] at hcv hys hBB
  rw [hZ] at hzs hBB
  have y1 : at_ + Y.size ≤ 9223372036854775807 := by omega
  have y2 : (at_ : Int) + Y.size ≤ 9223372036854775807 := by omega
  have y3 : ¬ (9223372036854775807 < at_ + Y.size) := by omega
  have y4 : at_ + Y.size + Z.size ≤ 9223372036854775807 := by omega
  have y5 : (at_ : Int) + Y.size + Z.size ≤ 9223372036854775807 := by omega
  have y6 : ¬ (9223372036854775807 < at_ + Y.size + Z.size) := by omega
  clear hys hxs hzs
  obtain ⟨W6, hW6⟩ : ∃ W6, ((w2.alloc (.cells (ltC ⟨k, f, t, B', true⟩) 31)).alloc (.cells #[Value.int .u8 (c : Int)] 5)) = W6 := ⟨_, rfl⟩
  have hb6 : Below w2.heap.size w2 W6 := by rw [← hW6]; exact bj one_alloc one_alloc
  have hs6 : W6.heap.size = w2.heap.size + 1 + 1 := by rw [← hW6]; simp
  have X6 : Blk W6 w2.heap.size 31 (ltC ⟨k, f, t, B', true⟩) := by rw [← hW6]; exact blk_step (Blk.new _ _ _) one_alloc
  have h6 := ref_step H2.out hb6
  have H6 := Lib.hid h6
  have h7 := ref_step h6 (one_alloc (o := .cells #[] 31))
  obtain ⟨v7, r1, r2, _⟩ := h7
  have c7 : (W6.alloc (.cells #[] 31)).cell? ⟨gr, 0, none⟩ = some (.slice (some ⟨g, o, none⟩) L.length cp) := by
    obtain ⟨u, u1, _⟩ := H2.out
    have e1 : some u = some (.slice (some ⟨g, o, none⟩) L.length cp) := (u1.cell 0).symm.trans c0
    cases e1
    exact (blk_step u1 (bj hb6 (one_alloc (o := .cells #[] 31)))).cell 0
  have c7' : (W6.alloc (.cells #[] 31)).drew.cell? ⟨gr, 0, none⟩ = some (.slice (some ⟨g, o, none⟩) L.length cp) := c7
  have hrd := (ref_reads (ref_step (ref_step h6 (one_alloc (o := .cells #[] 31))) (Below.refl _ _).drew) c7').2
  have hE := own_e0 (blk_new W6 (w2.heap.size + 1 + 1) 31 #[] hs6).drew (Nat.le_refl _)
  have hE2 : w2.heap.size + 1 + 1 ≤ (W6.alloc (.cells #[] 31)).drew.heap.size := by simp [hs6]
  have HX6 := Lib.hid X6
  have HE := Lib.hid hE
  have HRD := Lib.hid hrd
  have HE2 := Lib.hid hE2
  clear h6 r1 r2 X6 hE hrd hE2
  have HS6 := Lib.hid hs6
  have HB6 := Lib.hid hb6
  have HNG : Hid (w2.heap.size ≠ gr) := Lib.hid (by obtain ⟨_, q, _⟩ := H2.out; have := q.lt; omega)
  have HBT : Hid (But gr gr w W6) := Lib.hid (but_of (bj HB2.out hb6))
  clear hs6 hb6
  subst hW6
  go_region
  all_goals
    go_wp2_with (at_builtin; refine wpList_append_any _ rfl (.tmp 61) (.tmp 65) 35 rfl _ 31 iv _ 5 48 Try.underlying35 hv1 hv2 hv3 hv4 rfl (by omega) _ 0 [] rfl HE.out _ (some ⟨g, o, none⟩) L.length cp (ltCs L) rfl HRD.out (ltCs_one _) (by simp only [maxLen]; omega) (by omega) HE2.out ?_; intro v1 w8 hown1 hg1 hat1; (simp only [Nat.zero_add, List.nil_append] at hown1); obtain ⟨g1, c1, rfl, hgb⟩ := own_some hown1 (by omega); (have hb8 := ((Below.refl _ _).alloc (Nat.le_of_eq HS6.out.symm) (.cells #[] 31)).drew.grown hg1 HE2.out (fun z hz => (HE.out.lt z hz).1)); (have F8 := Lib.hid (sp_arm H6.out HX6.out HNG.out HBT.out HS6.out HU.out HX.out rfl hb8 hown1)); clear hown1 hg1 hat1 hgb hb8; (obtain ⟨z0, z9, z1⟩ := F8.out.1))
    obtain ⟨_, y0, y1, ⟨⟨f0, f1, f2, f3, f4⟩, d0, d1, d2, d3, d4⟩, _, _⟩ := F8.out
    obtain ⟨x0, x1, x2, x3, x4⟩ := cell5 y1
    clear y1
    go_region
    all_goals
      go_wp2
      go_ret
      exact ⟨rfl, ref_step F8.out.2.2.2.2.1 (Below.refl _ _).drew, but_trans F8.out.2.2.2.2.2 (but_of (Below.refl _ _).drew)⟩
end Go.Proofs.Ytndlcjpkpkfcpaa
