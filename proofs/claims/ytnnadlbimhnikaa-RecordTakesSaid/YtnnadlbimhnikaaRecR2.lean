/- counterfoilref09.Take. Condition: the text is no longer than a machine has addresses. -/
import Derived.Test.YtnnadlbimhnikaaProg
import Derived.Test.YtnnadlbimhnikaaRecR1
import Derived.Deep.RegionWith
namespace Go.Proofs.Ytnnadlbimhnikaa
open Go.RowKit
set_option linter.unusedVariables false
set_option maxRecDepth 100000 in
set_option maxHeartbeats 1000000 in
theorem refTake_empty (w : World) : Calls Try.prog 18 #[.string ⟨#[]⟩] w (TakeP [] w) := by
  have HP := Lib.hid (takeP_none (w := w) (w' := w) (takeR_head (L := []) (.inl rfl)) (Below.refl _ _))
  go_enter Try.func18, Try.ntmps18
  go_wp2
  go_ret2
  exact HP.out
set_option maxRecDepth 100000 in
set_option maxHeartbeats 1000000 in
theorem refTake_head (s : ByteArray) (m : Nat) (w : World) (h1 : 1 ≤ s.size) (hm : (bts s).getD 0 0 = m) (h : 4000 < s.size ∨ s.size ≤ 4000 ∧ 16 < m) :
    Calls Try.prog 18 #[.string s] w (TakeP (bts s) w) := by
  have HP := Lib.hid (takeP_none (w := w) (w' := w) (takeR_head (L := bts s) (by rw [hm, bts_length]; omega)) (Below.refl _ _))
  have h0I : 0 < s.size := by omega
  have hb0 := byte_at s 0 h0I
  rw [hm] at hb0
  have h1I : (1 : Int) ≤ s.size := by omega
  have e1 : ((s.size : Int) == 0) = false := by rw [beq_eq_false_iff_ne]; omega
  rcases h with h | ⟨h, h'⟩
  · have hI : (4000 : Int) < s.size := by omega
    clear h hm h1
    go_enter Try.func18, Try.ntmps18
    go_wp2
    go_ret2
    exact HP.out
  · have hI : (s.size : Int) ≤ 4000 := by omega
    have h'I : (16 : Int) < m := by omega
    have hmx : (m : Int) ≤ 255 := by have := bts_getD_lt s 0; omega
    clear h h' hm h1
    go_enter Try.func18, Try.ntmps18
    go_wp2
    go_ret2
    exact HP.out
theorem wrap_small {x : Int} (h0 : 0 ≤ x) (h1 : x ≤ 1000000) : IntKind.i64.wrap x = x := by simp [IntKind.wrap, IntKind.bits, IntKind.signed]; omega
theorem conv_u64_int (K : Int) (h0 : 0 ≤ K) (h1 : K ≤ 1000000) (w : World) : (convert 53 3 (.int .u64 K)).run Try.prog w = .ok (.int .i64 K) w := by
  have e := wrap_small h0 h1
  simp [convert, run_underlying Try.underlying53, run_underlying Try.underlying3, go_sem, e]
theorem kind_byte {T r : Int} (h : 2 + T % 2 = r) (h0 : 1 < T) : IntKind.u8.wrap (IntKind.u64.wrap (2 + T.tmod 2)) = r := by
  rw [Int.tmod_eq_emod_of_nonneg (by omega)]
  simp [IntKind.wrap, IntKind.bits, IntKind.signed]
  omega
set_option maxRecDepth 100000 in
set_option maxHeartbeats 8000000 in
theorem refTake_main (s : ByteArray) (m : Nat) (w : World) (h1 : 1 ≤ s.size) (hm : (bts s).getD 0 0 = m) (h16 : m ≤ 16) (h4 : s.size ≤ 4000) :
    Calls Try.prog 18 #[.string s] w (TakeP (bts s) w) := by
  have HH : Hid (¬ (bts s = [] ∨ 16 < (bts s).getD 0 0 ∨ 4000 < (bts s).length)) := Lib.hid (by
    rw [hm, bts_length]
    rintro (h | h | h)
    · have := bts_length s; rw [h] at this; simp at this; omega
    · omega
    · omega)
  have h0I : 0 < s.size := by omega
  have hb0 := byte_at s 0 h0I
  rw [hm] at hb0
  have h1I : (1 : Int) ≤ s.size := by omega
  have e1 : ((s.size : Int) == 0) = false := by rw [beq_eq_false_iff_ne]; omega
  have hI : (m : Int) ≤ 16 := by omega
  have h4I : (s.size : Int) ≤ 4000 := by omega
  have H4 := Lib.hid h4
  have HM := Lib.hid hm
  obtain ⟨iu, hu1, hu2, hu3, hu4⟩ := info_parts (show (Try.prog.info? 53).map (fun i => (i.zero, i.size, i.bytes)) = some (some (.int .u64 0), 1, 8) by kernel_rfl)
  obtain ⟨iv, hv1, hv2, hv3, hv4⟩ := info_parts (show (Try.prog.info? 26).map (fun i => (i.zero, i.size, i.bytes)) = some (some (.agg #[.int .u8 0, .int .i64 0, .string ⟨#[]⟩]), 3, 32) by kernel_rfl)
  have HT0 : Hid (∀ a W, a ≤ s.size → Calls Try.prog 40 #[.string (s.extract a s.size)] W (Took ((bts s).drop a) W)) := Lib.hid fun a W ha => by
    have h := refTake_any (s.extract a s.size) W (by rw [ByteArray.size_extract]; unfold maxLen; omega)
    rwa [bts_cutr] at h
  have HLT : Hid (∀ a, ∀ x ∈ (bts s).drop a, x < 256) := Lib.hid fun a x hx => bts_lt s x (List.mem_of_mem_drop hx)
  clear hm h1 h16 h4
  go_enter Try.func18, Try.ntmps18
  go_wp2
  go_loopw [4, 5] (fun i v wr => ∃ (a : Nat) (acc : List Nat), a ≤ s.size ∧ i = .int .i64 a ∧ acc.length ≤ m ∧ (∀ t ∈ acc, t < 18446744073709551616) ∧ tagsA [] m ((bts s).drop 1) = tagsA acc (m - acc.length) ((bts s).drop a) ∧ R1 w acc v wr) (fun _ v _ => m - lenOf v)
  case atStart => exact ⟨1, [], by omega, rfl, by simp, (fun t ht => by cases ht), rfl, r1_start w⟩
  case round =>
    obtain ⟨a, acc, ha, rfl, hj, hacc, heq, hr⟩ := hrel
    obtain ⟨A, c, rfl⟩ := own_form hr.1
    by_cases hjm : acc.length < m
    · have htk := fun W => HT0.out a W ha
      have hle := takeS_le (HLT.out a)
      rw [List.length_drop, bts_length] at hle
      have he := takeS_e ((bts s).drop a)
      have hs1 : m - acc.length = (m - (acc.length + 1)) + 1 := by omega
      rw [hs1] at heq
      simp only [tagsA, List.drop_drop] at heq
      unfold Took at htk
      generalize takeS ((bts s).drop a) = p at *
      obtain ⟨n, k, er⟩ := p
      simp only at htk hle he heq
      have HTK := Lib.hid htk
      have HR := Lib.hid hr
      have haI : (a : Int) ≤ s.size := by omega
      have hjI : (acc.length : Int) < m := by omega
      have HACC := Lib.hid hacc
      clear htk hr hacc hs1
      by_cases her : er = 0
      · subst her
        simp only [↓reduceIte] at heq
        have HE := Lib.hid heq
        have HLE := Lib.hid hle
        have hkI : (k : Int) + a ≤ s.size := by omega
        clear heq hle he
        go_wp2_with fail
        refine (HTK.out _).mono ?_
        rintro e w2 ⟨rfl, hb2⟩
        have hr2 := r1_step HR.out hb2
        have hra := r1_step hr2 ((Below.refl _ _).alloc (Nat.le_refl _) (.cells #[.int .u64 (n : Int)] 53))
        have hrd := reads1 w2 (.int .u64 (n : Int)) 53
        have hbs := hra.2.size
        have HRA := Lib.hid hra
        have HO := Lib.hid hra.1
        clear hr2 hra hb2
        go_wp2_with (at_builtin; refine wpList_append_any _ rfl (.tmp 46) (.tmp 48) 61 rfl w.heap.size 53 iu _ 1 8 Try.underlying61 hu1 hu2 hu3 hu4 rfl (by omega) _ acc.length (tagV acc) rfl HO.out (w2.heap.size + 1) (some ⟨w2.heap.size, 0, none⟩) 1 1 [Value.int .u64 (n : Int)] rfl hrd (by intro u hu; simp at hu; subst hu; rfl) (by simp only [maxLen]; omega) (by omega) hbs ?_; intro v1 w3 hown1 hg1 hat1; obtain ⟨A1, c1, rfl⟩ := own_form hown1; (have HR3 := Lib.hid (r1_app HRA.out hown1 hg1)); clear hown1 hg1 hat1 hrd)
        go_wp2
        go_roundw
        case rel =>
          refine ⟨a + k, acc ++ [n], by have := HLE.out; omega, by go_num, by simp; omega, fun t ht => ?_, ?_, HR3.out⟩
          · rcases List.mem_append.1 ht with ht | ht
            · exact HACC.out t ht
            · rw [List.mem_singleton.1 ht]; exact HLE.out.2
          · rw [HE.out, List.length_append]; rfl
        case measure => simp [lenOf]; omega
      · rw [if_neg her] at heq
        have HP := Lib.hid (ref_tags HH.out (by rw [HM.out]; exact heq))
        have he' : ((er : Int) != 0) = true := by rw [bne_iff_ne]; omega
        clear heq hle he her
        go_wp2_with fail
        refine (HTK.out _).mono ?_
        rintro e w2 ⟨rfl, hb2⟩
        go_wp2
        go_ret2
        exact takeP_none HP.out (r1_step HR.out hb2).2
    · obtain hjm' : acc.length = m := by omega
      rw [hjm', Nat.sub_self] at heq
      simp only [tagsA] at heq
      have HB := Lib.hid (ref_bods HH.out (by rw [HM.out]; exact heq))
      have HACC := Lib.hid hacc
      have HR := Lib.hid hr
      subst hjm'
      clear heq hr hacc hjm hj
      go_wp2
      go_loopw [4, 9, 10] (fun p v i W => ∃ (a' k : Nat) (l : List Val), a' ≤ s.size ∧ p = .int .i64 a' ∧ k ≤ acc.length ∧ i = .int .i64 k ∧ l.length = k ∧ (∀ x ∈ l, Fits x) ∧ bodsG [] acc ((bts s).drop a) = bodsG l (acc.drop k) ((bts s).drop a') ∧ R2 w acc (.slice A acc.length c) l v W) (fun _ _ i _ => acc.length - (intOf i).toNat)
      case atStart => exact ⟨a, 0, [], ha, rfl, by omega, rfl, rfl, (fun x hx => by cases hx), rfl, r2_start HR.out⟩
      case round =>
        clear HR ha
        obtain ⟨a', k, l, ha', rfl, hk, rfl, hlk, hfit, heq, hr⟩ := hrel
        obtain ⟨Av, cv, rfl⟩ := own_form hr.2
        by_cases hkm : k < acc.length
        · obtain ⟨g, rfl, hgl, hc⟩ := r1_tag hr.1 hkm
          have htl : acc.getD k 0 < 18446744073709551616 := by
            rw [List.getD_eq_getElem?_getD, List.getElem?_eq_getElem hkm]
            exact HACC.out _ (List.getElem_mem _)
          have hd : acc.drop k = acc.getD k 0 :: acc.drop (k + 1) := by
            rw [List.drop_eq_getElem_cons hkm, List.getD_eq_getElem?_getD, List.getElem?_eq_getElem hkm]; rfl
          rw [hd] at heq
          simp only [bodsG] at heq
          generalize acc.getD k 0 = t at *
          have hz1 : Below wr.heap.size wr (wr.alloc (.cells #[.int .u8 0, .int .i64 0, .string ⟨#[]⟩] 26)) := (Below.refl _ _).alloc (Nat.le_refl _) _
          have d1 : (wr.alloc (.cells #[.int .u8 0, .int .i64 0, .string ⟨#[]⟩] 26)).cell? ⟨g, k, none⟩ = some (.int .u64 (t : Nat)) := (World.cell?_alloc_lt wr _ _ hgl).trans hc
          have HR := Lib.hid hr
          have HF := Lib.hid hfit
          have HLK := Lib.hid hlk
          have hl16 : l.length ≤ 16 := by omega
          have hkI : (k : Int) < acc.length := by omega
          have haI : (a' : Int) ≤ s.size := by omega
          have hbase := hr.1.2.size
          have HGL := Lib.hid hgl
          have HCC := Lib.hid hc
          clear hr hfit hd hgl hlk
          by_cases t0 : t = 0
          · subst t0
            simp only [oneG, ↓reduceIte] at heq
            have HE := Lib.hid heq
            have hra := r2_step HR.out (hz1.alloc hz1.size (.cells (valC (0, 0, ⟨#[]⟩)) 26))
            have hrd := reads3g (wr.alloc (.cells #[.int .u8 0, .int .i64 0, .string ⟨#[]⟩] 26)) (wr.heap.size + 1) (0, 0, ⟨#[]⟩) 26 (by simp)
            have HBS := Lib.hid hra.1.2.size
            have HRA := Lib.hid hra
            have HO := Lib.hid hra.2
            clear heq hra hc hz1
            go_wp2_with (at_builtin; refine wpList_append_any _ rfl (.tmp 122) (.tmp 124) 27 rfl w.heap.size 26 iv _ 3 32 Try.underlying27 hv1 hv2 hv3 hv4 rfl (by omega) _ l.length (valCs l) rfl HO.out (wr.heap.size + 1 + 1) (some ⟨wr.heap.size + 1, 0, none⟩) 1 1 [Value.int .u8 0, .int .i64 0, .string ⟨#[]⟩] rfl hrd (by intro u hu; simp at hu; rcases hu with rfl | rfl | rfl <;> rfl) (by simp only [maxLen]; omega) (by omega) HBS.out ?_; intro v1 w3 hown1 hg1 hat1; obtain ⟨A1, c1, rfl⟩ := own_form hown1; (have HR3 := Lib.hid (r2_app (x := (0, 0, ⟨#[]⟩)) HRA.out hown1 hg1)); clear hown1 hg1 hat1 hrd)
            go_wp2
            go_roundw
            case rel =>
              refine ⟨a', k + 1, l ++ [(0, 0, ⟨#[]⟩)], ha', rfl, by omega, by go_num, by rw [List.length_append, HLK.out]; rfl, fun x hx => ?_, HE.out, HR3.out⟩
              rcases List.mem_append.1 hx with hx | hx
              · exact HF.out x hx
              · rw [List.mem_singleton.1 hx]; unfold Fits; simp
            case measure => simp [intOf]; omega
          · by_cases t1 : t = 1
            · subst t1
              have htk := fun W => HT0.out a' W ha'
              have hle := takeS_le (HLT.out a')
              rw [List.length_drop, bts_length] at hle
              have he := takeS_e ((bts s).drop a')
              have hone : oneG 1 ((bts s).drop a') = if (takeS ((bts s).drop a')).2.2 = 0 then some ((1, unfoldZ (takeS ((bts s).drop a')).1, bstr []), ((bts s).drop a').drop (takeS ((bts s).drop a')).2.1) else none := by simp [oneG]
              rw [hone] at heq
              unfold Took at htk
              generalize takeS ((bts s).drop a') = p at *
              obtain ⟨n, q, er⟩ := p
              simp only [List.drop_drop] at htk hle he heq
              have HTK := Lib.hid htk
              have HZ1 := Lib.hid hz1
              clear htk hone hz1 hc t0
              by_cases her : er = 0
              · subst her
                simp only [↓reduceIte] at heq
                have HE := Lib.hid heq
                have HLE := Lib.hid hle
                have hqI : (q : Int) + a' ≤ s.size := by omega
                have hun := fun W => refUnfold_any n W hle.2
                have hbu := unfoldZ_fits hle.2
                generalize unfoldZ n = z at *
                have HUN := Lib.hid hun
                have HBU := Lib.hid hbu
                clear heq hle he hun hbu
                go_wp2_with fail
                refine (HTK.out _).mono ?_
                rintro e w2 ⟨rfl, hb2⟩
                have hblk : Blk w2 wr.heap.size 26 #[.int .u8 0, .int .i64 0, .string ⟨#[]⟩] := blk_at hb2
                obtain ⟨x0, x1, x2, f0, f1, f2⟩ := cell3 hblk
                obtain ⟨y0, y1, y2, _, _, _⟩ := cell3 (blk_set3 hblk (1, z, ⟨#[]⟩))
                have hbw : Below wr.heap.size wr (set3 w2 wr.heap.size 0 (1, z, ⟨#[]⟩)) := (((bj HZ1.out hb2).setCell (Nat.le_refl _) _).setCell (Nat.le_refl _) _).setCell (Nat.le_refl _) _
                have d3 := (hbw.cell (p := ⟨g, k, none⟩) HGL.out).trans HCC.out
                have hra := r2_step HR.out (hbw.alloc hbw.size (.cells (valC (1, z, ⟨#[]⟩)) 26))
                have hrd := reads3g (set3 w2 wr.heap.size 0 (1, z, ⟨#[]⟩)) w2.heap.size (1, z, ⟨#[]⟩) 26 (by simp [World.setCell])
                have HBS := Lib.hid hra.1.2.size
                have HRA := Lib.hid hra
                have HO := Lib.hid hra.2
                clear hra hbw hblk hb2
                go_wp2_with fail
                refine (HUN.out _).mono ?_
                rintro e w3 ⟨rfl, rfl⟩
                go_wp2_with (at_builtin; refine wpList_append_any _ rfl (.tmp 122) (.tmp 124) 27 rfl w.heap.size 26 iv _ 3 32 Try.underlying27 hv1 hv2 hv3 hv4 rfl (by omega) _ l.length (valCs l) rfl HO.out (w2.heap.size + 1) (some ⟨w2.heap.size, 0, none⟩) 1 1 [Value.int .u8 1, .int .i64 z, .string ⟨#[]⟩] rfl hrd (by intro u hu; simp at hu; rcases hu with rfl | rfl | rfl <;> rfl) (by simp only [maxLen]; omega) (by omega) HBS.out ?_; intro v1 w4 hown1 hg1 hat1; obtain ⟨A1, c1, rfl⟩ := own_form hown1; (have HR3 := Lib.hid (r2_app (x := (1, z, ⟨#[]⟩)) HRA.out hown1 hg1)); clear hown1 hg1 hat1 hrd)
                go_wp2
                go_roundw
                case rel =>
                  refine ⟨a' + q, k + 1, l ++ [(1, z, ⟨#[]⟩)], by have := HLE.out; omega, by go_num, by omega, by go_num, by rw [List.length_append, HLK.out]; rfl, fun x hx => ?_, HE.out, HR3.out⟩
                  rcases List.mem_append.1 hx with hx | hx
                  · exact HF.out x hx
                  · rw [List.mem_singleton.1 hx]; exact ⟨by simp, by simp, HBU.out.1, HBU.out.2⟩
                case measure => simp [intOf]; omega
              · rw [if_neg her] at heq
                have HP := Lib.hid (show takeR (bts s) = none by rw [HB.out, heq])
                have he' : ((er : Int) != 0) = true := by rw [bne_iff_ne]; omega
                clear heq hle he her
                go_wp2_with fail
                refine (HTK.out _).mono ?_
                rintro e w2 ⟨rfl, hb2⟩
                go_wp2
                go_ret2
                exact takeP_none HP.out (bj (HR.out.1.2.trans (HZ1.out.mono hbase)) hb2)
            · have hone : oneG t ((bts s).drop a') = if 1000 < t / 2 - 1 ∨ s.size - a' < t / 2 - 1 then none else some ((((2 + t % 2 : Nat) : Int), 0, bstr (((bts s).drop a').take (t / 2 - 1))), (bts s).drop (a' + (t / 2 - 1))) := by
                unfold oneG
                rw [if_neg t0, if_neg t1, List.length_drop, bts_length, List.drop_drop]
              rw [hone] at heq
              have e0 : ((t : Int) == 1) = false := by rw [beq_eq_false_iff_ne]; omega
              have e5 : (1 : Int) < t := by omega
              have e3 : (t : Int) / 2 - 1 = ((t / 2 - 1 : Nat) : Int) := by omega
              have e4 : (2 : Int) + (t : Int) % 2 = ((2 + t % 2 : Nat) : Int) := by omega
              have e6 : (((t / 2 - 1 : Nat) : Int)) ≤ 9223372036854775807 := by omega
              have e7 : ((2 + t % 2 : Nat) : Int) ≤ 3 ∧ 2 ≤ ((2 + t % 2 : Nat) : Int) := by omega
              have HTL3 := Lib.hid htl
              generalize t / 2 - 1 = K at *
              generalize ((2 + t % 2 : Nat) : Int) = r at *
              generalize hT : (t : Int) = T at *
              have tT : T < 18446744073709551616 := by have := HTL3.out; omega
              obtain ⟨e7a, e7b⟩ := e7
              clear hone htl t0 t1 HTL3 hT
              by_cases hb1 : 1000 < K
              · rw [if_pos (.inl hb1)] at heq
                have HP := Lib.hid (takeP_none (w := w) (show takeR (bts s) = none by rw [HB.out, heq]) (HR.out.1.2.trans (hz1.mono hbase)))
                have k1 : (1000 : Int) < K := by omega
                clear heq hz1 hc hb1
                go_wp2
                go_ret2
                exact HP.out
              · have k1 : (K : Int) ≤ 1000 := by omega
                by_cases hb2 : s.size - a' < K
                · rw [if_pos (.inr hb2)] at heq
                  have HP := Lib.hid (takeP_none (w := w) (show takeR (bts s) = none by rw [HB.out, heq]) (HR.out.1.2.trans (hz1.mono hbase)))
                  have k2 : (s.size : Int) - a' < K := by omega
                  clear heq hz1 hc hb1 hb2
                  go_wp2
                  go_ret2
                  exact HP.out
                · rw [if_neg (by omega)] at heq
                  simp only at heq
                  have hX : bstr (((bts s).drop a').take K) = s.extract a' (a' + K) := by rw [← bts_cutn, bstr_bts]
                  rw [hX] at heq
                  have hsz : (s.extract a' (a' + K)).size ≤ 140737488351232 := by rw [ByteArray.size_extract]; omega
                  have HE := Lib.hid heq
                  have k2 : (K : Int) ≤ (s.size : Int) - a' := by omega
                  have k3 : (a' : Int) + K ≤ s.size := by omega
                  have k4 : a' + K ≤ s.size := by omega
                  have HK := Lib.hid k4
                  have HZ1 := Lib.hid hz1
                  clear heq hX hsz hb1 hb2 k4 hz1 hc
                  go_wp2_with fail
                  have k5 : (0 : Int) ≤ a' := by omega
                  have k6 : (0 : Int) ≤ K := by omega
                  have k7 : (a' : Int) ≤ a' + K := by omega
                  have k8 : (0 : Int) ≤ (a' : Int) + K := by omega
                  have k9 : ((a' : Int) + K).toNat = a' + K := by omega
                  have kB : (K : Int) ≤ 1000000 := by omega
                  have kA : (a' : Int) + K ≤ 1000000 := by omega
                  have w3 : IntKind.i64.wrap (K : Int) = K := wrap_small k6 kB
                  have w1 : IntKind.i64.wrap ((a' : Int) + K) = (a' : Int) + K := wrap_small k8 kA
                  go_region_with (fail)
                  rw [kind_byte e4 e5]
                  generalize hXX : s.extract a' (a' + K) = X at *
                  have hbw : Below wr.heap.size wr (wr.alloc (.cells #[.int .u8 r, .int .i64 0, .string X] 26)).drew := ((Below.refl _ _).alloc (Nat.le_refl _) _).drew
                  have hra := r2_step HR.out (hbw.alloc hbw.size (.cells (valC (r, 0, X)) 26))
                  have hrd := reads3g (wr.alloc (.cells #[.int .u8 r, .int .i64 0, .string X] 26)).drew (wr.heap.size + 1) (r, 0, X) 26 (by simp)
                  have HBS := Lib.hid hra.1.2.size
                  have HRA := Lib.hid hra
                  have HO := Lib.hid hra.2
                  clear hra hbw
                  go_wp2_with (at_builtin; refine wpList_append_any _ rfl (.tmp 122) (.tmp 124) 27 rfl w.heap.size 26 iv _ 3 32 Try.underlying27 hv1 hv2 hv3 hv4 rfl (by omega) _ l.length (valCs l) rfl HO.out (wr.heap.size + 1 + 1) (some ⟨wr.heap.size + 1, 0, none⟩) 1 1 [Value.int .u8 r, .int .i64 0, .string X] rfl hrd (by intro u hu; simp at hu; rcases hu with rfl | rfl | rfl <;> rfl) (by simp only [maxLen]; omega) (by omega) HBS.out ?_; intro v1 w4 hown1 hg1 hat1; obtain ⟨A1, c1, rfl⟩ := own_form hown1; (have HR3 := Lib.hid (r2_app (x := (r, 0, X)) HRA.out hown1 hg1)); clear hown1 hg1 hat1 hrd)
                  go_wp2
                  go_roundw
                  case rel =>
                    refine ⟨a' + K, k + 1, l ++ [(r, 0, X)], HK.out, by go_num, by omega, by go_num, by rw [List.length_append, HLK.out]; rfl, fun x hx => ?_, HE.out, HR3.out⟩
                    rcases List.mem_append.1 hx with hx | hx
                    · exact HF.out x hx
                    · rw [List.mem_singleton.1 hx]; exact ⟨by simp only; omega, by simp only; omega, by simp, by simp⟩
                  case measure => simp [intOf]; omega
        · obtain rfl : k = acc.length := by omega
          rw [List.drop_of_length_le (Nat.le_refl _)] at heq
          simp only [bodsG] at heq
          have hB := HB.out
          rw [heq] at hB
          have hvals := vals_of_own hr.2 rfl
          have hbel := hr.1.2
          have HV := Lib.hid hvals
          have HBEL := Lib.hid hbel
          have HF := Lib.hid hfit
          have HLK := Lib.hid hlk
          have H16 := Lib.hid (show l.length ≤ 16 by omega)
          by_cases hE : a' = s.size
          · have HT := Lib.hid (show takeR (bts s) = some l by rw [hB]; simp only; rw [if_pos (by rw [hE]; exact List.drop_of_length_le (by rw [bts_length]; exact Nat.le_refl _))])
            have e2 : ((a' : Int) != s.size) = false := by rw [hE]; simp
            clear heq hB hvals hbel hr hfit hlk hE
            go_wp2
            go_ret2
            exact ⟨_, _, _, 0, l, rfl, HV.out, rfl, H16.out, HF.out, HBEL.out, .inr ⟨HT.out, rfl⟩⟩
          · have HT := Lib.hid (takeP_none (w := w) (by rw [hB]; simp only; rw [if_neg (fun e => hE (by
              have := congrArg List.length e
              rw [List.length_drop, bts_length] at this
              simp at this
              omega))]) hbel)
            have e2 : ((a' : Int) != s.size) = true := by rw [bne_iff_ne]; omega
            clear heq hB hvals hbel hr hfit hlk hE
            go_wp2
            go_ret2
            exact HT.out
theorem refTakeR_any (s : ByteArray) (w : World) : Calls Try.prog 18 #[.string s] w (TakeP (bts s) w) := by
  by_cases h0 : s.size = 0
  · obtain rfl := empty_of h0
    exact refTake_empty w
  · by_cases h4 : s.size ≤ 4000
    · by_cases hm : (bts s).getD 0 0 ≤ 16
      · exact refTake_main s _ w (by omega) rfl hm h4
      · exact refTake_head s _ w (by omega) rfl (.inr ⟨h4, by omega⟩)
    · exact refTake_head s _ w (by omega) rfl (.inl (by omega))
end Go.Proofs.Ytnnadlbimhnikaa
