/- net's Spoil. Conditions: those of each lemma. -/
import Derived.Test.YtndlcjpkpkfcpaaNt5
import Derived.Test.YtndlcjpkpkfcpaaWords
import Derived.Laws.BytesArg
import Derived.Laws.BitsAllLaws
import Derived.Deep.RegionWith
import Derived.BigRegion
namespace Go.Proofs.Ytndlcjpkpkfcpaa
open Go.RowKit Go Go.Maps
set_option linter.unusedVariables false
set_option linter.unusedSimpArgs false
/-- the bytes of which one has become another one -/
def spoilB (b : ByteArray) (at_ : Nat) (c : Nat) : ByteArray := b.extract 0 at_ ++ bstr [c] ++ b.extract (at_ + 1) b.size
def xorB (b : ByteArray) (at_ : Nat) (y : Int) : Nat := (bts b).getD at_ 0 ^^^ y.toNat
def spoilE (x : Lt) (at_ y : Int) : Int := if x.sp = true then 9 else if at_ < 0 ∨ (x.bytes.size : Int) ≤ at_ then 5 else if y = 0 then 2 else 0
set_option maxRecDepth 100000 in
set_option maxHeartbeats 4000000 in
theorem spoil_none (k at_ y : Int) (gn gm : Nat) (L : List Lt) (N : Int) (w : World) (hs : NetS gn gm L N w) (hk : I64' k) (hf : findL L k = none) :
    Calls Try.prog 10 #[.pointer (some ⟨gn, 0, none⟩), .int .i64 k, .int .i64 at_, .int .u8 y] w fun e w' => e = .returned (.int .i64 4) ∧ Below w.heap.size w w' := by
  have HF := Lib.hid (find_x hs hk (.inl ⟨hf, rfl, rfl⟩))
  clear hs hk hf
  go_enter Try.func10, Try.ntmps10
  go_wp2_with fail
  refine HF.out.mono ?_
  rintro e w2 ⟨rfl, hb2⟩
  have HB := Lib.hid hb2
  clear hb2
  go_wp2
  go_ret
  exact ⟨rfl, bj HB.out one_alloc⟩
set_option maxRecDepth 100000 in
set_option maxHeartbeats 4000000 in
theorem spoil_err (k at_ y : Int) (gn gm : Nat) (L : List Lt) (N : Int) (w : World) (hs : NetS gn gm L N w) (hk : I64' k) (x : Lt) (hf : findL L k = some x) (E : Int) (hE : spoilE x at_ y = E) (h0 : E ≠ 0) :
    Calls Try.prog 10 #[.pointer (some ⟨gn, 0, none⟩), .int .i64 k, .int .i64 at_, .int .u8 y] w fun e w' => e = .returned (.int .i64 E) ∧ Below w.heap.size w w' := by
  obtain ⟨i, f, t, b, s⟩ := x
  have HF := Lib.hid (find_x hs hk (.inr ⟨hf, rfl⟩))
  unfold spoilE at hE
  clear hs hk hf
  have key : (s = true ∧ E = 9) ∨ (s = false ∧ at_ < 0 ∧ E = 5) ∨ (s = false ∧ decide (at_ < 0) = false ∧ (b.size : Int) ≤ at_ ∧ E = 5) ∨ (s = false ∧ decide (at_ < 0) = false ∧ decide ((b.size : Int) ≤ at_) = false ∧ y = 0 ∧ E = 2) := by
    cases s
    · right
      rw [if_neg (by simp)] at hE
      by_cases h1 : at_ < 0
      · exact .inl ⟨rfl, h1, by rw [if_pos (.inl h1)] at hE; exact hE.symm⟩
      · by_cases h2 : (b.size : Int) ≤ at_
        · exact .inr (.inl ⟨rfl, decide_eq_false h1, h2, by rw [if_pos (.inr h2)] at hE; exact hE.symm⟩)
        · rw [if_neg (by rintro (h | h); exact h1 h; exact h2 h)] at hE
          by_cases h3 : y = 0
          · exact .inr (.inr ⟨rfl, decide_eq_false h1, decide_eq_false h2, h3, by rw [if_pos h3] at hE; exact hE.symm⟩)
          · rw [if_neg h3] at hE; exact absurd hE.symm h0
    · exact .inl ⟨rfl, by simpa using hE.symm⟩
  clear hE h0
  rcases key with ⟨rfl, rfl⟩ | ⟨rfl, k1, rfl⟩ | ⟨rfl, k1, k2, rfl⟩ | ⟨rfl, k1, k2, rfl, rfl⟩
  all_goals
    go_enter Try.func10, Try.ntmps10
    go_wp2_with fail
    refine HF.out.mono ?_
    rintro e w2 ⟨rfl, hb2⟩
    have HB := Lib.hid hb2
    clear hb2
    go_wp2
    go_ret
    exact ⟨rfl, bj HB.out one_alloc⟩
theorem ad_step {w W W' : World} {gn gm : Nat} {L : List Lt} {N : Int} {g : Nat} {x : Lt} (h : Ad w gn gm L N g x W) (hb : Below W.heap.size W W') : Ad w gn gm L N g x W' := ⟨blk_step h.1 hb, owns_block h.2.1 (hb.block gm h.2.1.lt), blk_step h.2.2.1 hb, but_trans h.2.2.2.1 (but_of hb), h.2.2.2.2⟩
theorem ad_setB {w W : World} {gn gm : Nat} {L : List Lt} {N : Int} {g : Nat} {i f t : Int} {b : ByteArray} {s : Bool} (h : Ad w gn gm L N g ⟨i, f, t, b, s⟩ W) (b' : ByteArray) : Ad w gn gm L N g ⟨i, f, t, b', s⟩ (W.setCell ⟨g, 3, none⟩ (.string b')) := by
  obtain ⟨h1, h2, h3, h4, h5, h6, h7, h8⟩ := h
  exact ⟨h1.far h6 _, h2.setCell (a := ⟨g, 3, none⟩) h7 _, h3.set_ 3 _, but_far h4 h8 _, h5, h6, h7, h8⟩
theorem ad_setS {w W : World} {gn gm : Nat} {L : List Lt} {N : Int} {g : Nat} {i f t : Int} {b : ByteArray} {s : Bool} (h : Ad w gn gm L N g ⟨i, f, t, b, s⟩ W) (s' : Bool) : Ad w gn gm L N g ⟨i, f, t, b, s'⟩ (W.setCell ⟨g, 4, none⟩ (.bool s')) := by
  obtain ⟨h1, h2, h3, h4, h5, h6, h7, h8⟩ := h
  exact ⟨h1.far h6 _, h2.setCell (a := ⟨g, 4, none⟩) h7 _, h3.set_ 4 _, but_far h4 h8 _, h5, h6, h7, h8⟩
theorem any_of_find {L : List Lt} {k : Int} {x : Lt} (h : findL L k = some x) : L.any (fun z => decide (z.id = k)) = true := by rw [find_has, h]; rfl
theorem nok_put {L : List Lt} {N : Int} (h : NOk L N) (a : Lt) (ha : ∃ x ∈ L, x.id = a.id) : NOk (setLt L a.id a) N := by
  refine ⟨up_put h.1 a, fun x hx => ?_, by unfold setLt; rw [List.length_map]; exact h.2.2.1, h.2.2.2⟩
  obtain ⟨z, hz, rfl⟩ := List.mem_map.1 hx
  by_cases e : z.id = a.id
  · rw [if_pos e, ← e]; exact h.2.1 z hz
  · rw [if_neg e]; exact h.2.1 z hz
set_option maxRecDepth 100000 in
set_option maxHeartbeats 8000000 in
theorem spoil_ok (k : Int) (at_ : Nat) (y : Int) (gn gm : Nat) (L : List Lt) (N : Int) (w : World) (hs : NetS gn gm L N w) (hk : I64' k) (f t : Int) (b : ByteArray) (hf : findL L k = some ⟨k, f, t, b, false⟩) (hat : at_ < b.size) (hsz : b.size ≤ 262144) (hy0 : 0 < y) (hy1 : y < 256) :
    Calls Try.prog 10 #[.pointer (some ⟨gn, 0, none⟩), .int .i64 k, .int .i64 at_, .int .u8 y] w fun e w' => e = .returned (.int .i64 0) ∧ NetS gn gm (setLt L k ⟨k, f, t, spoilB b at_ (xorB b at_ y), true⟩) N w' ∧ But gn gm w w' := by
  have HF := Lib.hid (find_x hs hk (.inr ⟨hf, rfl⟩))
  have HS := Lib.hid hs
  have hz1 : decide ((at_ : Int) < 0) = false := decide_eq_false (by omega)
  have hz2 : decide ((b.size : Int) ≤ at_) = false := decide_eq_false (by omega)
  have hz3 : (y == 0) = false := by simp; omega
  have hatI : (at_ : Int) < b.size := by omega
  have hszI : (b.size : Int) ≤ 262144 := by omega
  have hw : IntKind.i64.wrap ((at_ : Int) + 1) = at_ + 1 := by rw [IntKind.wrap_i64]; omega
  have hby := byte_at b at_ hat
  have h256 := bts_getD_lt b at_
  obtain ⟨c, hc⟩ : ∃ c, xorB b at_ y = c := ⟨_, rfl⟩
  have hxor : bits .xor .u8 ((b[at_].toNat : Nat) : Int) y = (c : Int) := by
    rw [hby, ← hc, u8_xor _ y (by omega) (by omega) (by omega) hy1]
    rfl
  rw [hc]
  go_enter Try.func10, Try.ntmps10
  go_wp2_with fail
  refine HF.out.mono ?_
  rintro e w2 ⟨rfl, hb2⟩
  have hn2 := net_step HS.out hb2
  have hlt := hb2.size
  obtain ⟨B', hB'⟩ : ∃ B', spoilB b at_ c = B' := ⟨_, rfl⟩
  have A0 : Ad w gn gm L N w2.heap.size ⟨k, f, t, B', true⟩ (w2.alloc (.cells (ltC ⟨k, f, t, B', true⟩) 31)) := by
    have h1 := net_step hn2 (one_alloc (o := .cells (ltC ⟨k, f, t, B', true⟩) 31))
    have hl := hn2.1.lt
    have hm := hn2.2.1.lt
    exact ⟨h1.1, h1.2.1, Blk.new _ _ _, but_of (bj hb2 one_alloc), hn2.2.2.1, by omega, by omega, hlt⟩
  have A4 := ad_drew (ad_drew (ad_step A0 (one_alloc (o := .cells #[Value.int .u8 (c : Int)] 5))))
  obtain ⟨w4, hrun, hown, hgr⟩ := A4.2.1.update keyed Try.underlying46 (by have := hn2.2.2.2.2.2.1; unfold maxLen; omega) (key := .int .i64 k) (val := ltV ⟨k, f, t, B', true⟩) (key_int k hk.1 hk.2) (d := .held (ltV ⟨k, f, t, B', true⟩)) (ps := []) rfl
  have hput := map_put_old L ⟨k, f, t, B', true⟩ hn2.2.2.2.1 (any_of_find hf)
  have HOW := Lib.hid (hput ▸ hown)
  have HE : Hid (NetS gn gm (setLt L k ⟨k, f, t, B', true⟩) N w4 ∧ But gn gm w w4) := Lib.hid ⟨⟨A4.1.grown hgr (fun e => A4.2.2.2.2.1 (Option.some.inj e)), owns_tight HOW.out, A4.2.2.2.2.1, nok_put hn2.2.2.2 ⟨k, f, t, B', true⟩ ⟨_, (find_id hf).2, rfl⟩⟩, but_trans A4.2.2.2.1 (but_grown hgr (fun z hz => .inr (Option.some.inj hz).symm))⟩
  obtain ⟨W, hW⟩ : ∃ W, w2.alloc (.cells (ltC ⟨k, f, t, b, false⟩) 31) = W := ⟨_, rfl⟩
  have hWs : W.heap.size = w2.heap.size + 1 := by rw [← hW]; simp
  have hcv := run_convert_bytes_arg (P := Try.prog) (W.alloc (.cells #[Value.int IntKind.u8 (c : Int)] 5)).drew 52 5 Try.underlying52 Try.underlying5 W.heap.size 0 1 1 ([c].map Int.ofNat) rfl (fun i hi => by
    show (W.alloc (.cells #[Value.int IntKind.u8 (c : Int)] 5)).cell? _ = _
    rw [World.cell?_alloc_mark]
    obtain rfl : i = 0 := by omega
    rfl) 9 Try.underlying9
  rw [bstr_nums, hWs] at hcv
  have hxs : (b.extract 0 at_).size = at_ := by rw [ByteArray.size_extract]; omega
  have hys : (bstr [c]).size = 1 := by rw [bstr_size]; rfl
  have hzs : (b.extract (at_ + 1) b.size).size ≤ b.size := by rw [ByteArray.size_extract]; omega
  have hBB : b.extract 0 at_ ++ bstr [c] ++ b.extract (at_ + 1) b.size = B' := hB'
  obtain ⟨k0, k1, k2, m0, m1, m2, m3, m4, m5⟩ := ad_cells A4
  clear hn2 A0 A4 hown hgr hput hb2 hlt
  subst hW
  clear hWs
  have m1' : min at_ b.size = at_ := by omega
  have m2' : min (at_ : Int) (b.size : Int) = at_ := by omega
  have u1 : (at_ : Int) + 1 ≤ b.size := by omega
  have HSZ := Lib.hid hsz
  clear hby h256 hc hf hs hk hsz
  go_wp2_with fail
  obtain ⟨Y, hY⟩ : ∃ Y, bstr [c] = Y := ⟨_, rfl⟩
  obtain ⟨Z, hZ⟩ : ∃ Z, b.extract (at_ + 1) b.size = Z := ⟨_, rfl⟩
  rw [hY] at hcv hys hBB
  rw [hZ] at hzs hBB
  have y1 : at_ + Y.size ≤ 9223372036854775807 := by omega
  have y2 : (at_ : Int) + Y.size ≤ 9223372036854775807 := by omega
  have y3 : ¬ (9223372036854775807 < at_ + Y.size) := by omega
  have y4 : at_ + Y.size + Z.size ≤ 9223372036854775807 := by omega
  have y5 : (at_ : Int) + Y.size + Z.size ≤ 9223372036854775807 := by omega
  have y6 : ¬ (9223372036854775807 < at_ + Y.size + Z.size) := by omega
  clear hys hxs hzs
  go_region
  all_goals
    go_wp2_with fail
    go_region
    all_goals
      go_wp2
      go_ret
      exact ⟨rfl, by rw [← hB'] at HE; exact HE.out⟩
end Go.Proofs.Ytndlcjpkpkfcpaa
