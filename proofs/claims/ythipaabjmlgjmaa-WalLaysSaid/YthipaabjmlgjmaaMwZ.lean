/- Layer 5: Open; what a law knows of a log; a calm disk; works. Conditions: those of each lemma. -/
import Derived.Test.YthipaabjmlgjmaaMwH
import Derived.Test.YthipaabjmlgjmaaMvG
import Derived.Test.YthipaabjmlgjmaaMwC
import Derived.Deep.QuietTactic
import Derived.BigQuiet
namespace Go.Proofs.Ythipaabjmlgjmaa
open Go.RowKit Go Go.Maps
set_option linter.unusedVariables false
set_option linter.unusedSimpArgs false
/-- the log that opening a disk tells, if there is one -/
def openD (d : Dk) : Option Lg :=
  if (headD d).1 = true then (framesD d (headD d).2.1.1 (headD d).2.1.2.1 (headD d).2.1.2.2).map fun p => ⟨(headD d).2.1.1, (headD d).2.1.2.1, (headD d).2.1.2.2, (headD d).2.2, p.1, p.2, false, false⟩ else none
theorem headD_ok {d : Dk} (h : (headD d).1 = true) (h0 : 0 ≤ sizeD d 0) : (headD d).2.1.1 < 18446744073709551616 ∧ (headD d).2.1.2.1 ≤ 256 ∧ (headD d).2.1.2.2 ≤ 256 := by
  unfold headD at h ⊢
  by_cases h1 : (readD d 1 0 1).2 = 0 ∧ bts (readD d 1 0 1).1 ≠ List.replicate 64 0
  · rw [if_pos h1] at h ⊢
    by_cases h2 : thErr (bts (readD d 1 0 1).1) = 0
    · rw [if_pos h2]
      obtain ⟨_, _, _, hF, hP, _⟩ := th_ok h2
      exact ⟨thN_lt _, hF, hP⟩
    · rw [if_neg h2] at h
      cases h
  · rw [if_neg h1] at h ⊢
    simp only [Bool.and_eq_true, decide_eq_true_eq] at h
    exact ⟨by show (0 : Nat) < _; omega, by show (0 : Nat) ≤ _; omega, by show (sizeD d 0 / 8).toNat ≤ 256; omega⟩
theorem sizeD_pos {w : World} {S : Nat → Prop} {g : Nat} {d : Dk} {N : Nat} (h : DkS w S g d N) : 0 ≤ sizeD d 0 := by
  unfold sizeD
  split <;> omega
set_option maxRecDepth 100000 in
set_option maxHeartbeats 16000000 in
theorem open_any {S : Nat → Prop} {g : Nat} {d : Dk} {Nn : Nat} {w : World} (h : DkS w S g d Nn) (hoff : d.off = false) :
    Calls Try.prog 8 #[lp g] w fun e w' => Below w.heap.size w w' ∧ ((openD d = none ∧ e = .returned (.tuple #[.pointer none, .int .i64 7])) ∨ ∃ l q S', openD d = some l ∧ e = .returned (.tuple #[lp q, .int .i64 0]) ∧ LgS w' S' g q d Nn l ∧ (∀ b, S' b → S b ∨ w.heap.size ≤ b) ∧ w.heap.size ≤ q) := by
  have HD := Lib.hid h
  have HON := Lib.hid (on_any S g d Nn w h)
  rw [hoff] at HON
  have hb1 := allocB (w := w) (o := .cells (rawC g 0 0 0 false none 0 0 (0, 0)) 75)
  have HB1 := Lib.hid hb1
  have HD1 := Lib.hid (dkS_below h hb1)
  have HSQ := Lib.hid (show ¬ S w.heap.size from fun e => by have := dkS_lt h _ e; omega)
  have HTH := Lib.hid (takeHead_lg HD1.out (Blk.new w 75 (rawC g 0 0 0 false none 0 0 (0, 0))) HSQ.out (readD_sz h _ _ _))
  have hsp := sizeD_pos h
  have HHO := Lib.hid (fun hh => headD_ok (d := d) hh hsp)
  have HSZ := Lib.hid (show (w.alloc (.cells (rawC g 0 0 0 false none 0 0 (0, 0)) 75)).heap.size = w.heap.size + 1 from by simp)
  obtain ⟨O, hO⟩ : ∃ O, openD d = O := ⟨_, rfl⟩
  rw [hO]
  rw [openD] at hO
  clear h hoff hb1 hsp
  generalize headD d = X at *
  obtain ⟨ok, ⟨hN, hF, hP⟩, hdd⟩ := X
  simp only at HTH HHO hO
  have HOO := Lib.hid hO
  clear hO
  go_enter Try.func8, Try.ntmps8
  go_wp2_with fail
  refine (HON.out).mono ?_
  rintro e w1 ⟨rfl, rfl⟩
  have eW : w.alloc (.cells (rawC g 0 0 0 false none 0 0 (0, 0)) 75) = w.alloc (.cells #[lp g, .int .u64 0, .int .i64 0, .int .i64 0, .bool false, .slice none 0 0, .int .u32 0, .int .u32 0, .bool false, .bool false] 75) := rfl
  rw [eW] at HTH HB1 HD1 HSZ
  go_wp2_with fail
  generalize w.alloc (.cells #[lp g, .int .u64 0, .int .i64 0, .int .i64 0, .bool false, .slice none 0 0, .int .u32 0, .int .u32 0, .bool false, .bool false] 75) = W1 at *
  clear eW
  refine (HTH.out).mono ?_
  rintro e w2 ⟨rfl, hq2, hf2⟩
  have HQ2 := Lib.hid hq2
  have HF2 := Lib.hid hf2
  have HD2 := Lib.hid (dkS_keep HD1.out hf2 (fun b hb e => HSQ.out (e ▸ hb)))
  have HB2 := Lib.hid (show Below w.heap.size w w2 from HB1.out.trans (fr_below hf2 (fun k hk => by rw [hk]; exact Nat.le_refl _) (by rw [HSZ.out]; omega)))
  clear hq2 hf2 HTH HD1 HON
  cases ok with
  | false =>
    obtain rfl : O = none := by rw [← HOO.out]; rfl
    clear HOO
    go_wp2_with fail
    go_ret2
    first | exact ⟨HB2.out, .inl ⟨rfl, rfl⟩⟩ | exact ⟨HB2.out, rfl⟩
  | true =>
    obtain ⟨h1, h2, h3⟩ := HHO.out rfl
    have HTF := Lib.hid (takeFrames_any HD2.out HQ2.out HSQ.out h1 h2 h3)
    have hoo := HOO.out
    rw [if_pos rfl] at hoo
    clear HOO HHO h1 h2 h3
    cases hfr : framesD d hN hF hP with
    | none =>
      rw [hfr] at HTF hoo
      obtain rfl : O = none := hoo.symm
      clear hfr hoo
      go_wp2_with fail
      refine (HTF.out).mono ?_
      rintro e w3 ⟨rfl, hf3, -⟩
      have HB3 := Lib.hid (show Below w.heap.size w w3 from HB2.out.trans (fr_below hf3 (fun k hk => by rw [hk]; exact Nat.le_refl _) (Nat.le_trans (by rw [HSZ.out]; omega) HF2.out.size)))
      clear hf3
      simp only [Option.isSome]
      go_wp2_with fail
      go_ret2
      first | exact ⟨HB3.out, .inl ⟨rfl, rfl⟩⟩ | exact ⟨HB3.out, rfl⟩
    | some p =>
      obtain ⟨fs, e1⟩ := p
      rw [hfr] at HTF hoo
      obtain rfl : O = some ⟨hN, hF, hP, hdd, fs, e1, false, false⟩ := hoo.symm
      clear hfr hoo
      go_wp2_with fail
      refine (HTF.out).mono ?_
      rintro e w3 ⟨rfl, hf3, hres⟩
      have HB3 := Lib.hid (show Below w.heap.size w w3 from HB2.out.trans (fr_below hf3 (fun k hk => by rw [hk]; exact Nat.le_refl _) (Nat.le_trans (by rw [HSZ.out]; omega) HF2.out.size)))
      obtain ⟨S3, hL3, hs3⟩ := hres fs e1 rfl
      have HL3 := Lib.hid (And.intro hL3 hs3)
      clear hf3 hres hL3 hs3
      simp only [Option.isSome]
      go_wp2_with fail
      go_ret2
      refine ⟨HB3.out, .inr ⟨_, w.heap.size, S3, rfl, rfl, HL3.out.1, fun b hb => ?_, Nat.le_refl _⟩⟩
      rcases HL3.out.2 b hb with h | h | h
      · exact .inl h
      · exact .inr (Nat.le_of_eq h.symm)
      · exact .inr (Nat.le_trans HB2.out.size h)
set_option maxRecDepth 100000 in
set_option maxHeartbeats 4000000 in
theorem open_nil (w : World) : Calls Try.prog 8 #[.pointer none] w fun e w' => e = .returned (.tuple #[.pointer none, .int .i64 1]) ∧ w = w' := by
  go_enter Try.func8, Try.ntmps8
  go_wp2
  go_ret2
  exact ⟨rfl, rfl⟩
end Go.Proofs.Ythipaabjmlgjmaa
namespace Go.Proofs.Ythipaabjmlgjmaa
open Go.RowKit Go Go.Maps
set_option linter.unusedVariables false
set_option linter.unusedSimpArgs false
/-- what a law knows of a log that it made: nothing of the world ahead of it has changed -/
def Kl (w0 : World) (g q : Nat) (d : Dk) (N : Nat) (l : Lg) (W : World) : Prop := ∃ S, LgS W S g q d N l ∧ (∀ b, S b → w0.heap.size ≤ b) ∧ Below w0.heap.size w0 W
theorem kl_r {w0 W W' : World} {S : Nat → Prop} {g q : Nat} {d' : Dk} {N' : Nat} {l' : Lg} (hS : ∀ b, S b → w0.heap.size ≤ b) (hb : Below w0.heap.size w0 W) (h : LgR W S g q d' N' l' W') : Kl w0 g q d' N' l' W' := by
  obtain ⟨S', h1, f1, s1⟩ := h
  refine ⟨S', h1, fun b hs => ?_, hb.trans (fr_below f1 hS hb.size)⟩
  rcases s1 b hs with h | h
  · exact hS b h
  · exact Nat.le_trans hb.size h
theorem kl_below {w0 W W' : World} {g q : Nat} {d : Dk} {N : Nat} {l : Lg} (h : Kl w0 g q d N l W) (hb : Below W.heap.size W W') : Kl w0 g q d N l W' := by
  obtain ⟨S, h1, h2, h3⟩ := h
  exact ⟨S, lgS_below h1 hb, h2, bj h3 hb⟩
theorem kl_b {w0 W : World} {g q : Nat} {d : Dk} {N : Nat} {l : Lg} (h : Kl w0 g q d N l W) : Below w0.heap.size w0 W := h.elim fun _ h => h.2.2
theorem kl_kd {w0 W : World} {g q : Nat} {d : Dk} {N : Nat} {l : Lg} (h : Kl w0 g q d N l W) : Kd w0 g d N W := by
  obtain ⟨S, ⟨Sd, A, c, h1⟩, h2, h3⟩ := h
  exact ⟨Sd, h1.dk, fun b hb => h2 b (h1.sd b hb), h3⟩
theorem kl_open {w0 W : World} {g : Nat} {d : Dk} {N : Nat} (h : Kd w0 g d N W) (hoff : d.off = false) : Calls Try.prog 8 #[lp g] W fun e w' => Below W.heap.size W w' ∧ Kd w0 g d N w' ∧ ((openD d = none ∧ e = .returned (.tuple #[.pointer none, .int .i64 7])) ∨ ∃ l q, openD d = some l ∧ e = .returned (.tuple #[lp q, .int .i64 0]) ∧ Kl w0 g q d N l w') := by
  have h0 := h
  obtain ⟨S, h1, h2, h3⟩ := h
  refine (open_any h1 hoff).mono ?_
  rintro e w' ⟨hb, hr⟩
  refine ⟨hb, kd_below h0 hb, ?_⟩
  rcases hr with hr | ⟨l, q, S', ho, he, hL, hs, hq⟩
  · exact .inl hr
  · refine .inr ⟨l, q, ho, he, S', hL, fun b hb2 => ?_, bj h3 hb⟩
    rcases hs b hb2 with h | h
    · exact h2 b h
    · exact Nat.le_trans h3.size h
theorem kl_mark {w0 W : World} {g q : Nat} {d : Dk} {N : Nat} {l : Lg} (h : Kl w0 g q d N l W) : Calls Try.prog 9 #[lp q] W fun e w' => e = .returned (.int .i64 (l.fs.length : Nat)) ∧ W = w' := h.elim fun _ h => mark_any h.1
theorem kl_pages {w0 W : World} {g q : Nat} {d : Dk} {N : Nat} {l : Lg} (h : Kl w0 g q d N l W) : Calls Try.prog 10 #[lp q] W fun e w' => e = .returned (.int .i64 l.P) ∧ W = w' := h.elim fun _ h => pages_any h.1
theorem kl_number {w0 W : World} {g q : Nat} {d : Dk} {N : Nat} {l : Lg} (h : Kl w0 g q d N l W) : Calls Try.prog 11 #[lp q] W fun e w' => e = .returned (.int .u64 l.N) ∧ W = w' := h.elim fun _ h => number_any h.1
theorem kl_page {w0 W : World} {g q : Nat} {d : Dk} {N : Nat} {l : Lg} (h : Kl w0 g q d N l W) (n mark : Int) : Calls Try.prog 12 #[lp q, .int .i64 n, .int .i64 mark] W fun e w' => e = .returned (.tuple #[.string (pageD d l n mark).1, .int .i64 (pageD d l n mark).2]) ∧ Below W.heap.size W w' := h.elim fun _ h => page_any h.1 n mark
theorem kl_append {w0 W : World} {g q : Nat} {d : Dk} {N : Nat} {l : Lg} (h : Kl w0 g q d N l W) (hoff : l.off = false) (ht : l.torn = false) (pages : Int) (A : Option Addr) (n c : Nat) (ims : List Im) (hO : ImAt W A ims) (hn : n = ims.length) (hsm : n ≤ 100000) (hz : ∀ x ∈ ims, x.dt.size ≤ 9223372036854775807) (hN : N + 4 ≤ 1000000) :
    Calls Try.prog 14 #[lp q, .int .i64 pages, .slice A n c] W fun e w' => e = .returned (.int .i64 (appD pages ims d l).2) ∧ Kl w0 g q (appD pages ims d l).1.1 (N + 4) (appD pages ims d l).1.2 w' := by
  obtain ⟨S, h1, h2, h3⟩ := h
  exact (append_any h1 hoff ht pages A n c ims hO hn hsm hz hN).mono fun e w' he => ⟨he.1, kl_r h2 h3 he.2⟩
theorem kl_check {w0 W : World} {g q : Nat} {d : Dk} {N : Nat} {l : Lg} (h : Kl w0 g q d N l W) (hoff : l.off = false) (ht : l.torn = false) (hN : N + 260 ≤ 1000000) :
    Calls Try.prog 17 #[lp q] W fun e w' => e = .returned (.int .i64 (chkD d l).2) ∧ Kl w0 g q (chkD d l).1.1 (N + 260) (chkD d l).1.2 w' := by
  obtain ⟨S, h1, h2, h3⟩ := h
  exact (check_any h1 hoff ht hN).mono fun e w' he => ⟨he.1, kl_r h2 h3 he.2⟩
/-- a page of one byte -/
def pagS (c : Nat) : ByteArray := bstr (List.replicate 512 c)
theorem pagS_size (c : Nat) : (pagS c).size = 512 := by unfold pagS; rw [bstr_size, List.length_replicate]
theorem page_lg (c : Nat) (w : World) (hc : c < 256) :
    Calls Try.prog 13 #[.int .u8 c] w fun e w' => e = .returned (.string (pagS c)) ∧ Below w.heap.size w w' := by
  have hcv := run_convert_bytes_arg (P := Try.prog) (w.alloc (.cells #[Value.int IntKind.u8 c] 5)) 43 5 Try.underlying43 Try.underlying5 w.heap.size 0 1 1 ([c].map Int.ofNat) rfl (fun i hi => by
    rw [World.cell?_alloc_mark]
    obtain rfl : i = 0 := by omega
    rfl) 9 Try.underlying9
  rw [bstr_nums] at hcv
  have hj := fun w => Try.strings_Repeat (bstr [c]) 512 w (by omega) (by rw [bstr_size]; simp)
  have e0 : (bstr [c]).data.toList = [UInt8.ofNat c] := rfl
  have e1 : (UInt8.ofNat c).toNat = c := by rw [UInt8.toNat_ofNat']; omega
  rw [e0, rep_flat1, e1, show (⟨((List.replicate 512 c : List Nat).map UInt8.ofNat).toArray⟩ : ByteArray) = pagS c from rfl] at hj
  have HJ := Lib.hid hj
  clear hj e0 e1
  go_enter Try.func13, Try.ntmps13
  go_wp2_with fail
  refine (HJ.out _).mono ?_
  rintro e w1 ⟨rfl, hb1⟩
  go_wp2
  go_ret
  exact ⟨rfl, bja _ (Below.refl _ _) hb1⟩
end Go.Proofs.Ythipaabjmlgjmaa
namespace Go.Proofs.Ythipaabjmlgjmaa
open Go.RowKit Go Go.Maps
set_option linter.unusedVariables false
set_option linter.unusedSimpArgs false
/-- nothing will fail, and the power is on -/
def Calm (d : Dk) : Prop := d.off = false ∧ d.power = -1 ∧ ∀ k, d.armed k = 0
theorem calm_new : Calm newD := ⟨rfl, rfl, fun _ => rfl⟩
theorem calm_op {d : Dk} (h : Calm d) (made : List Ch) : opD d made = ({ doneAll 0 d.op1 made with loose := d.loose ++ made }, 0) := by
  unfold opD
  rw [if_neg (by rw [h.2.1]; omega), if_neg (by rw [h.2.2]; simp)]
theorem calm_of {d : Dk} (h : Calm d) (s : Nat) (made : List Ch) (lo : List Ch) : Calm { doneAll s d.op1 made with loose := lo } := by
  obtain ⟨_, h1, h2, _, h3⟩ := doneAll_rest s made d.op1
  refine ⟨?_, ?_, fun k => ?_⟩
  · show (doneAll s d.op1 made).off = false
    rw [h3]; exact h.1
  · show (doneAll s d.op1 made).power = -1
    rw [h2]; exact h.2.1
  · show (doneAll s d.op1 made).armed k = 0
    rw [h1]; exact h.2.2 k
theorem calm_ready {d : Dk} (h : Calm d) {f : Int} (h0 : 0 ≤ f) (h8 : f < 8) : readyD d f = 0 := by
  unfold readyD inF
  rw [h.1, decide_eq_true h0, decide_eq_true h8]
  rfl
theorem calm_write {d : Dk} (h : Calm d) {f p : Int} {s : ByteArray} {n : Nat} (h0 : 0 ≤ f) (h8 : f < 8) (hp : 0 ≤ p) (hs : s.size = n * 64) (hn : 0 < n) (hb : p + n ≤ 8192) :
    (writeD d f p s).2 = 0 ∧ Calm (writeD d f p s).1 ∧ (writeD d f p s).1.ops = d.ops + 1 ∧ (writeD d f p s).1.loose.length = d.loose.length + n ∧ (writeD d f p s).1.fl f.toNat = wrP (d.fl f.toNat) f.toNat p.toNat s n ∧ ∀ j, j < 8 → j ≠ f.toNat → (writeD d f p s).1.fl j = d.fl j := by
  have hn64 : s.size / 64 = n := by omega
  have he : writeD d f p s = opD d (wrL f.toNat p.toNat s) := by
    unfold writeD
    rw [if_neg (by rw [calm_ready h h0 h8]; simp), if_neg (by omega), if_neg (by omega)]
  have ho := calm_op h (wrL f.toNat p.toNat s)
  have h2 : (writeD d f p s).2 = 0 := by rw [he, ho]
  obtain ⟨_, _, _, _, _, _, hfl, hot⟩ := write_good d f p s h2
  rw [hn64] at hfl
  refine ⟨h2, ?_, ?_, ?_, hfl, hot⟩
  · rw [he, ho]
    exact calm_of h 0 _ _
  · rw [he, ho]
    show (doneAll 0 d.op1 (wrL f.toNat p.toNat s)).ops = _
    rw [(doneAll_rest 0 _ d.op1).2.2.2.1]
    rfl
  · rw [he, ho]
    show (d.loose ++ wrL f.toNat p.toNat s).length = _
    rw [List.length_append, wrL, List.length_map, List.length_range, hn64]
theorem doneA_now (d : Dk) (c : Ch) (j : Nat) (hc : c.file < 8) (hj : j < 8) : (doneA 1 d c).fl j = d.fl j := by
  unfold doneA
  rw [setF_other]
  omega
theorem doneAll_now : ∀ (l : List Ch) (d : Dk) (j : Nat), (∀ c ∈ l, c.file < 8) → j < 8 → (doneAll 1 d l).fl j = d.fl j
  | [], d, j, _, _ => rfl
  | c :: l, d, j, hc, hj => by
    have ih := doneAll_now l (doneA 1 d c) j (fun x hx => hc x (.tail _ hx)) hj
    have e : doneAll 1 d (c :: l) = doneAll 1 (doneA 1 d c) l := rfl
    rw [e, ih]
    exact doneA_now d c j (hc c (.head _)) hj
theorem calm_sync {d : Dk} (h : Calm d) {f : Int} (h0 : 0 ≤ f) (h8 : f < 8) (hl : ∀ c ∈ d.loose, c.file < 8) :
    (syncD d f).2 = 0 ∧ Calm (syncD d f).1 ∧ (syncD d f).1.ops = d.ops + 1 ∧ (syncD d f).1.loose = rest f.toNat d.loose ∧ ∀ j, j < 8 → (syncD d f).1.fl j = d.fl j := by
  have ho := calm_op h []
  have he : syncD d f = (sync1 { doneAll 0 d.op1 [] with loose := d.loose ++ [] } f.toNat, 0) := by
    unfold syncD
    rw [if_neg (by rw [calm_ready h h0 h8]; simp), ho]
    rfl
  have e2 : ({ doneAll 0 d.op1 [] with loose := d.loose ++ [] } : Dk) = d.op1 := by
    show ({ d.op1 with loose := d.loose ++ [] } : Dk) = d.op1
    rw [List.append_nil]
    rfl
  rw [e2] at he
  rw [he]
  have hm : ∀ c ∈ mine f.toNat d.loose, c.file < 8 := fun c hc => hl c (List.mem_filter.1 hc).1
  refine ⟨rfl, ?_, ?_, rfl, fun j hj => ?_⟩
  · exact calm_of h 1 _ _
  · show (doneAll 1 d.op1 (mine f.toNat d.loose)).ops = _
    rw [(doneAll_rest 1 _ d.op1).2.2.2.1]
    rfl
  · show (doneAll 1 d.op1 (mine f.toNat d.loose)).fl j = _
    rw [doneAll_now _ _ _ hm hj]
    rfl
theorem loose_write {d : Dk} (h : Calm d) {f p : Int} {s : ByteArray} {n : Nat} (h0 : 0 ≤ f) (h8 : f < 8) (hp : 0 ≤ p) (hs : s.size = n * 64) (hn : 0 < n) (hb : p + n ≤ 8192) (hl : ∀ c ∈ d.loose, c.file < 8) : (∀ c ∈ (writeD d f p s).1.loose, c.file < 8) ∧ ∀ c ∈ (writeD d f p s).1.loose, c ∈ d.loose ∨ c.file = f.toNat := by
  have he : writeD d f p s = opD d (wrL f.toNat p.toNat s) := by
    unfold writeD
    rw [if_neg (by rw [calm_ready h h0 h8]; simp), if_neg (by omega), if_neg (by omega)]
  have hm : ∀ c ∈ (writeD d f p s).1.loose, c ∈ d.loose ∨ c.file = f.toNat := fun c hc => by
    rw [he, calm_op h] at hc
    rcases List.mem_append.1 (show c ∈ d.loose ++ wrL f.toNat p.toNat s from hc) with hc | hc
    · exact .inl hc
    · obtain ⟨q, _, rfl⟩ := List.mem_map.1 hc
      exact .inr rfl
  refine ⟨fun c hc => ?_, hm⟩
  rcases hm c hc with h1 | h1
  · exact hl c h1
  · omega
/-- the steps of an Append, on a calm disk -/
theorem app_calm {d : Dk} {l : Lg} {pages : Int} {ims : List Im} (hc : Calm d) (hlo : ∀ c ∈ d.loose, c.file < 8) (hmay : mayA pages ims = true) (hlen : l.fs.length + ims.length ≤ 256) (ht : l.torn = false) (hoff : l.off = false) :
    ∃ d', appD pages ims d l = ((d', ⟨l.N, l.fs.length + ims.length, pages.toNat, true, l.fs ++ mkFs pages.toNat ims, wputE l.N l.e (mkFs pages.toNat ims), false, false⟩), 0) ∧ Calm d' ∧ d'.ops = d.ops + 4 ∧ (∀ c ∈ d'.loose, c ∈ d.loose ∧ c.file ≠ 1) ∧
      d'.fl 1 = wrP (wrP (d.fl 1) 1 (1 + l.fs.length * 9) (bstr (wputL l.N l.e (mkFs pages.toNat ims))) (ims.length * 9)) 1 0 (bstr (headL l.N (l.fs.length + ims.length) pages.toNat)) 1 ∧ ∀ j, j < 8 → j ≠ 1 → d'.fl j = d.fl j := by
  obtain ⟨hp1, hp2, hn0, hbad⟩ := mayA_ok hmay
  have hts : (bstr (wputL l.N l.e (mkFs pages.toNat ims))).size = (ims.length * 9) * 64 := by
    rw [bstr_size, wputL_len _ _ _ (mkFs_ok (by omega) hbad), mkFs_length]; omega
  have hhs : (bstr (headL l.N (l.fs.length + ims.length) pages.toNat)).size = 1 * 64 := headL_size _ _ _
  generalize hT : bstr (wputL l.N l.e (mkFs pages.toNat ims)) = T at *
  generalize hH : bstr (headL l.N (l.fs.length + ims.length) pages.toNat) = H at *
  have a1 := calm_write hc (f := 1) (p := 1 + (l.fs.length : Nat) * 9) (s := T) (by omega) (by omega) (by omega) hts (by omega) (by omega)
  have b1 := loose_write hc (f := 1) (p := 1 + (l.fs.length : Nat) * 9) (s := T) (by omega) (by omega) (by omega) hts (by omega) (by omega) hlo
  generalize hd1 : writeD d 1 (1 + (l.fs.length : Nat) * 9) T = D1 at *
  obtain ⟨d1, z1⟩ := D1
  obtain ⟨a11, a12, a13, a14, a15, a16⟩ := a1
  simp only at a11 a12 a13 a14 a15 a16 b1
  subst a11
  have a2 := calm_sync a12 (f := 1) (by omega) (by omega) b1.1
  generalize hd2 : syncD d1 1 = D2 at *
  obtain ⟨d2, z2⟩ := D2
  obtain ⟨a21, a22, a23, a24, a25⟩ := a2
  simp only at a21 a22 a23 a24 a25
  subst a21
  have l2 : ∀ c ∈ d2.loose, c ∈ d.loose ∧ c.file ≠ 1 := fun c hc2 => by
    rw [a24] at hc2
    obtain ⟨h1, h2⟩ := List.mem_filter.1 hc2
    have h3 : c.file ≠ 1 := by simpa using h2
    rcases b1.2 c h1 with h4 | h4
    · exact ⟨h4, h3⟩
    · exact absurd h4 h3
  have a3 := calm_write a22 (f := 1) (p := 0) (s := H) (by omega) (by omega) (by omega) hhs (by omega) (by omega)
  have b3 := loose_write a22 (f := 1) (p := 0) (s := H) (by omega) (by omega) (by omega) hhs (by omega) (by omega) (fun c hc => hlo c (l2 c hc).1)
  generalize hd3 : writeD d2 1 0 H = D3 at *
  obtain ⟨d3, z3⟩ := D3
  obtain ⟨a31, a32, a33, a34, a35, a36⟩ := a3
  simp only at a31 a32 a33 a34 a35 a36 b3
  subst a31
  have a4 := calm_sync a32 (f := 1) (by omega) (by omega) b3.1
  generalize hd4 : syncD d3 1 = D4 at *
  obtain ⟨d4, z4⟩ := D4
  obtain ⟨a41, a42, a43, a44, a45⟩ := a4
  simp only at a41 a42 a43 a44 a45
  subst a41
  have hdone : doneD (appS l pages.toNat ims) d l = ((d4, l), 0) := by
    have e0 : ({ l with torn := false } : Lg) = l := by rw [← ht]
    unfold appS
    rw [hT, hH]
    simp only [doneD, spD, hd1, hd2, hd3, hd4, tornL, ht, Bool.false_and, Bool.false_or, decide_true, Bool.true_and, ne_eq, not_true_eq_false, decide_false, if_true]
    rw [e0]
  refine ⟨d4, ?_, a42, by omega, fun c hc4 => ?_, ?_, fun j hj hj1 => ?_⟩
  · unfold appD
    rw [if_neg (by rw [hmay]; decide), if_neg (by omega), hdone, if_neg (by simp)]
    unfold appL
    simp only [ht, hoff]
  · rw [a44] at hc4
    obtain ⟨h1, h2⟩ := List.mem_filter.1 hc4
    have h3 : c.file ≠ 1 := by simpa using h2
    rcases b3.2 c h1 with h4 | h4
    · exact l2 c h4
    · exact absurd h4 h3
  · have e1 : ((1 : Int) + (l.fs.length : Nat) * 9).toNat = 1 + l.fs.length * 9 := by omega
    have e2 : Int.toNat 1 = 1 := rfl
    have e3 : Int.toNat 0 = 0 := rfl
    rw [e2] at a35 a15
    rw [e3] at a35
    rw [a45 1 (by omega), a35, a25 1 (by omega), a15, e1]
  · rw [a45 j hj, a36 j hj hj1, a25 j hj, a16 j hj hj1]
end Go.Proofs.Ythipaabjmlgjmaa
namespace Go.Proofs.Ythipaabjmlgjmaa
open Go.RowKit Go Go.Maps
set_option linter.unusedVariables false
set_option linter.unusedSimpArgs false
/-- the disk tells this log -/
structure Told (d : Dk) (l : Lg) : Prop where
  on : d.off = false
  hd : l.hd = true
  hF : l.F = l.fs.length
  hN : l.N < 18446744073709551616
  hP : l.P ≤ 256
  len : l.fs.length ≤ 256
  ok : ∀ x ∈ l.fs, FxOk x
  last : lastC l.P l.fs = true
  he : l.e = wputE l.N (startP l.N) l.fs
  z1 : 1 + 9 * l.fs.length ≤ (d.fl 1).length
  s1 : ((d.fl 1).take 1).flatten = headL l.N l.fs.length l.P
  s2 : (((d.fl 1).drop 1).take (9 * l.fs.length)).flatten = wputL l.N (startP l.N) l.fs
  torn : l.torn = false
  off : l.off = false
theorem readD_log {d : Dk} (hon : d.off = false) {a n : Int} (ha : 0 ≤ a) (hn : 0 ≤ n) (hl : a + n ≤ (d.fl 1).length) : readD d 1 a n = (bstr (((d.fl 1).drop a.toNat).take n.toNat).flatten, 0) := by
  unfold readD
  have hr : readyD d 1 = 0 := by unfold readyD; rw [hon]; rfl
  have hs : sizeD d 1 = ((d.fl 1).length : Nat) := by unfold sizeD; rfl
  rw [if_neg (by rw [hr]; simp), if_neg (by rw [hs]; omega)]
  rfl
theorem frT_told {d : Dk} {N : Nat} (hon : d.off = false) (hN : N < 18446744073709551616) (hok : ∀ s ∈ d.fl 1, s.length = 64) : ∀ (fs : List Fx) (i : Nat) (e : Int × Int), Fit e → (∀ x ∈ fs, FxOk x) → 1 + 9 * i + 9 * fs.length ≤ (d.fl 1).length →
    (((d.fl 1).drop (1 + 9 * i)).take (9 * fs.length)).flatten = wputL N e fs → frT d N i fs.length e = some (fs, wputE N e fs)
  | [], i, e, _, _, _, _ => rfl
  | x :: fs, i, e, he, hx, hz, hs => by
    obtain ⟨x1, x2, x3, x4⟩ := hx x (.head _)
    rw [List.length_cons] at hz hs ⊢
    have hr := readD_log hon (a := 1 + (i : Int) * 9) (n := 9) (by omega) (by omega) (by omega)
    have e1 : (1 + (i : Int) * 9).toNat = 1 + 9 * i := by omega
    rw [e1] at hr
    have e9 : Int.toNat 9 = 9 := rfl
    rw [e9] at hr
    have hsp : ((d.fl 1).drop (1 + 9 * i)).take (9 * (fs.length + 1)) = ((d.fl 1).drop (1 + 9 * i)).take 9 ++ ((d.fl 1).drop (1 + 9 * (i + 1))).take (9 * fs.length) := by
      rw [show 9 * (fs.length + 1) = 9 + 9 * fs.length by omega, List.take_add, List.drop_drop, show 1 + 9 * i + 9 = 1 + 9 * (i + 1) by omega]
    rw [hsp, List.flatten_append, wputL] at hs
    have hl9 : (((d.fl 1).drop (1 + 9 * i)).take 9).flatten.length = (frameL e x.pg x.cm N (bts x.dt)).length := by
      rw [frameL_length _ _ _ _ _ (by rw [bts_length]; exact x4)]
      have : ∀ L : Fl, (∀ s ∈ L, s.length = 64) → L.flatten.length = L.length * 64 := by
        intro L
        induction L with
        | nil => intro _; rfl
        | cons s L ih => intro h; rw [List.flatten_cons, List.length_append, ih (fun y hy => h y (.tail _ hy)), h s (.head _), List.length_cons]; omega
      rw [this _ (fun s hs => hok s (List.mem_of_mem_drop (List.mem_of_mem_take hs))), List.length_take, List.length_drop]
      omega
    obtain ⟨h1, h2⟩ := List.append_inj hs hl9
    rw [h1] at hr
    have hb := f_back (p := e) (p' := e) (pg := x.pg) (cm := x.cm) (salt := N) (salt' := N) (D := bts x.dt) [] he he (by rw [bts_length]; exact x4) hN (by omega) x2 x3
    rw [List.append_nil] at hb
    obtain ⟨b1, b2, b3, b4, b5⟩ := hb
    have ih := frT_told hon hN hok fs (i + 1) (frameQ e x.pg x.cm N (bts x.dt)) (fit_frameQ he _ _ _ _) (fun y hy => hx y (.tail _ hy)) (by omega) h2
    have hc := frame_cut e x.pg x.cm N x.dt ⟨#[]⟩ x4
    rw [app_none] at hc
    rw [frT]
    rw [hr]
    simp only [ne_eq, not_true_eq_false, if_false]
    rw [bts_frameL, b1.2 ⟨rfl, rfl⟩, b2, b3, b5, ih, hc]
    rfl
theorem headL_not0 (N F P : Nat) : headL N F P ≠ List.replicate 64 0 := by
  intro h
  have := congrArg List.head? h
  cases this
/-- opening a disk that tells a log is that log -/
theorem open_told {d : Dk} {l : Lg} (h : Told d l) (hok : ∀ s ∈ d.fl 1, s.length = 64) : openD d = some l := by
  have hr := readD_log h.on (a := 0) (n := 1) (by omega) (by omega) (by have := h.z1; omega)
  have e0 : Int.toNat 0 = 0 := rfl
  have e1 : Int.toNat 1 = 1 := rfl
  rw [e0, e1, List.drop_zero, h.s1] at hr
  obtain ⟨t1, t2, t3, t4⟩ := th_back (N := l.N) (F := l.fs.length) (P := l.P) [] h.hN h.len h.hP
  rw [List.append_nil] at t1 t2 t3 t4
  have hh : headD d = (true, (l.N, l.fs.length, l.P), true) := by
    unfold headD
    rw [hr]
    simp only
    rw [bts_headL, if_pos ⟨trivial, headL_not0 _ _ _⟩, if_pos t1, t2, t3, t4]
  have hf : framesD d l.N l.fs.length l.P = some (l.fs, l.e) := by
    unfold framesD
    rw [frT_told h.on h.hN hok l.fs 0 (startP l.N) (fit_start _) h.ok (by have := h.z1; omega) h.s2, h.he]
    rw [Option.filter_some, if_pos h.last]
  unfold openD
  rw [hh]
  simp only [if_true, hf, Option.map_some]
  have h1 := h.hd
  have h2 := h.hF
  have h3 := h.torn
  have h4 := h.off
  obtain ⟨N, F, P, hd, fs, e, torn, off⟩ := l
  simp only at h1 h2 h3 h4
  subst h1 h2 h3 h4
  rfl
end Go.Proofs.Ythipaabjmlgjmaa
namespace Go.Proofs.Ythipaabjmlgjmaa
open Go.RowKit Go Go.Maps
set_option linter.unusedVariables false
set_option linter.unusedSimpArgs false
/-- the log's frames are what the disk holds; the head may be any -/
structure Tolf (d : Dk) (l : Lg) : Prop where
  on : d.off = false
  hN : l.N < 18446744073709551616
  ok : ∀ x ∈ l.fs, FxOk x
  he : l.e = wputE l.N (startP l.N) l.fs
  z1 : l.fs ≠ [] → 1 + 9 * l.fs.length ≤ (d.fl 1).length
  s2 : l.fs ≠ [] → (((d.fl 1).drop 1).take (9 * l.fs.length)).flatten = wputL l.N (startP l.N) l.fs
  torn : l.torn = false
  off : l.off = false
theorem tolf_of {d : Dk} {l : Lg} (h : Told d l) : Tolf d l := ⟨h.on, h.hN, h.ok, h.he, fun _ => h.z1, fun _ => h.s2, h.torn, h.off⟩
theorem cut_same {A B : Fl} {a n : Nat} (hA : a + n ≤ A.length) (hB : a + n ≤ B.length) (h : ∀ j, a ≤ j → j < a + n → A.getD j zS = B.getD j zS) : (A.drop a).take n = (B.drop a).take n := by
  refine List.ext_getElem? fun j => ?_
  rw [List.getElem?_take, List.getElem?_take]
  by_cases hj : j < n
  · rw [if_pos hj, if_pos hj, List.getElem?_drop, List.getElem?_drop]
    have h1 := h (a + j) (by omega) (by omega)
    rw [List.getD_eq_getElem?_getD, List.getD_eq_getElem?_getD, List.getElem?_eq_getElem (by omega), List.getElem?_eq_getElem (by omega)] at h1
    rw [List.getElem?_eq_getElem (by omega), List.getElem?_eq_getElem (by omega)]
    exact congrArg some h1
  · rw [if_neg hj, if_neg hj]
theorem lastC_app {P : Nat} {fs : List Fx} {ims : List Im} (h0 : 0 < ims.length) : lastC P (fs ++ mkFs P ims) = true := by
  obtain ⟨x, hx⟩ : ∃ x, ims[ims.length - 1]? = some x := ⟨_, List.getElem?_eq_getElem (by omega)⟩
  have h1 := mkFs_get (pages := P) hx
  have h2 : (fs ++ mkFs P ims).getLast? = some (mkFx P ims.length (ims.length - 1) x) := by
    rw [List.getLast?_eq_getElem?, List.length_append, mkFs_length, List.getElem?_append_right (by omega), show fs.length + ims.length - 1 - fs.length = ims.length - 1 by omega, h1]
  unfold lastC
  rw [h2]
  have h3 : (mkFx P ims.length (ims.length - 1) x).cm = P := by
    unfold mkFx
    show (if ims.length - 1 + 1 = ims.length then P else 0) = P
    rw [if_pos (by omega)]
  simp only [h3, decide_true]
theorem app_told {d : Dk} {l : Lg} {pages : Int} {ims : List Im} (ht : Tolf d l) (hc : Calm d) (hlo : ∀ c ∈ d.loose, c.file < 8) (hmay : mayA pages ims = true) (hlen : l.fs.length + ims.length ≤ 256) :
    ∃ d', appD pages ims d l = ((d', ⟨l.N, l.fs.length + ims.length, pages.toNat, true, l.fs ++ mkFs pages.toNat ims, wputE l.N l.e (mkFs pages.toNat ims), false, false⟩), 0) ∧
      Told d' ⟨l.N, l.fs.length + ims.length, pages.toNat, true, l.fs ++ mkFs pages.toNat ims, wputE l.N l.e (mkFs pages.toNat ims), false, false⟩ ∧ Calm d' ∧ d'.ops = d.ops + 4 ∧ (∀ c ∈ d'.loose, c ∈ d.loose ∧ c.file ≠ 1) ∧
      (d'.fl 1).length = max (d.fl 1).length (1 + 9 * (l.fs.length + ims.length)) ∧ ∀ j, j < 8 → j ≠ 1 → d'.fl j = d.fl j := by
  obtain ⟨d', e1, hc', hops, hl', hf1, hfo⟩ := app_calm hc hlo hmay hlen ht.torn ht.off
  obtain ⟨hp1, hp2, hn0, hbad⟩ := mayA_ok hmay
  have hmk := mkFs_ok (pages := pages.toNat) (by omega) hbad
  have hts : (bstr (wputL l.N l.e (mkFs pages.toNat ims))).size = (ims.length * 9) * 64 := by
    rw [bstr_size, wputL_len _ _ _ hmk, mkFs_length]; omega
  have hhs : (bstr (headL l.N (l.fs.length + ims.length) pages.toNat)).size = 1 * 64 := headL_size _ _ _
  have hbt : bts (bstr (wputL l.N l.e (mkFs pages.toNat ims))) = wputL l.N l.e (mkFs pages.toNat ims) := bts_bstr _ (wputL_lt _ _ _)
  have hr1 := read_back (d.fl 1) 1 (1 + l.fs.length * 9) _ (ims.length * 9) hts (by omega)
  have hr0 := read_back (wrP (d.fl 1) 1 (1 + l.fs.length * 9) (bstr (wputL l.N l.e (mkFs pages.toNat ims))) (ims.length * 9)) 1 0 _ 1 hhs (by omega)
  rw [hbt] at hr1
  rw [bts_headL, List.drop_zero] at hr0
  have hL1 := wrP_length (d.fl 1) 1 (1 + l.fs.length * 9) (bstr (wputL l.N l.e (mkFs pages.toNat ims))) (ims.length * 9)
  rw [if_neg (by omega)] at hL1
  have hL0 := wrP_length (wrP (d.fl 1) 1 (1 + l.fs.length * 9) (bstr (wputL l.N l.e (mkFs pages.toNat ims))) (ims.length * 9)) 1 0 (bstr (headL l.N (l.fs.length + ims.length) pages.toNat)) 1
  rw [if_neg (by omega), hL1] at hL0
  have hG1 := wrP_get (d.fl 1) 1 (1 + l.fs.length * 9) (bstr (wputL l.N l.e (mkFs pages.toNat ims)))
  have hG0 := wrP_get (wrP (d.fl 1) 1 (1 + l.fs.length * 9) (bstr (wputL l.N l.e (mkFs pages.toNat ims))) (ims.length * 9)) 1 0 (bstr (headL l.N (l.fs.length + ims.length) pages.toNat))
  have hlen' : (d'.fl 1).length = max (d.fl 1).length (1 + 9 * (l.fs.length + ims.length)) := by rw [hf1, hL0]; omega
  refine ⟨d', e1, ?_, hc', hops, hl', hlen', hfo⟩
  have hfl : (l.fs ++ mkFs pages.toNat ims).length = l.fs.length + ims.length := by rw [List.length_append, mkFs_length]
  refine ⟨hc'.1, rfl, hfl.symm, ht.hN, show pages.toNat ≤ 256 by omega, ?_, ?_, lastC_app hn0, ?_, ?_, ?_, ?_, rfl, rfl⟩
  · show (l.fs ++ mkFs pages.toNat ims).length ≤ 256
    rw [hfl]; exact hlen
  · intro x hx
    rcases List.mem_append.1 (show x ∈ l.fs ++ mkFs pages.toNat ims from hx) with h | h
    · exact ht.ok x h
    · exact hmk x h
  · show wputE l.N l.e (mkFs pages.toNat ims) = wputE l.N (startP l.N) (l.fs ++ mkFs pages.toNat ims)
    rw [wputE_app, ← ht.he]
  · show 1 + 9 * (l.fs ++ mkFs pages.toNat ims).length ≤ _
    rw [hfl, hlen']; omega
  · show ((d'.fl 1).take 1).flatten = headL l.N (l.fs ++ mkFs pages.toNat ims).length pages.toNat
    rw [hfl, hf1, hr0]
  · show (((d'.fl 1).drop 1).take (9 * (l.fs ++ mkFs pages.toNat ims).length)).flatten = wputL l.N (startP l.N) (l.fs ++ mkFs pages.toNat ims)
    rw [hfl, hf1, wputL_app, ← ht.he]
    have hA : (((wrP (wrP (d.fl 1) 1 (1 + l.fs.length * 9) (bstr (wputL l.N l.e (mkFs pages.toNat ims))) (ims.length * 9)) 1 0 (bstr (headL l.N (l.fs.length + ims.length) pages.toNat)) 1).drop 1).take (9 * (l.fs.length + ims.length)))
        = ((wrP (d.fl 1) 1 (1 + l.fs.length * 9) (bstr (wputL l.N l.e (mkFs pages.toNat ims))) (ims.length * 9)).drop 1).take (9 * (l.fs.length + ims.length)) := by
      refine cut_same (by rw [hL0]; omega) (by rw [hL1]; omega) fun j h1 h2 => ?_
      rw [hG0, if_neg (by omega)]
    have hB : ((wrP (d.fl 1) 1 (1 + l.fs.length * 9) (bstr (wputL l.N l.e (mkFs pages.toNat ims))) (ims.length * 9)).drop 1).take (9 * l.fs.length + ims.length * 9)
        = ((wrP (d.fl 1) 1 (1 + l.fs.length * 9) (bstr (wputL l.N l.e (mkFs pages.toNat ims))) (ims.length * 9)).drop 1).take (9 * l.fs.length) ++ ((wrP (d.fl 1) 1 (1 + l.fs.length * 9) (bstr (wputL l.N l.e (mkFs pages.toNat ims))) (ims.length * 9)).drop (1 + l.fs.length * 9)).take (ims.length * 9) := by
      rw [List.take_add, List.drop_drop, show 1 + 9 * l.fs.length = 1 + l.fs.length * 9 by omega]
    rw [hA, show 9 * (l.fs.length + ims.length) = 9 * l.fs.length + ims.length * 9 by omega, hB, List.flatten_append, hr1]
    congr 1
    by_cases h0 : l.fs = []
    · rw [h0]; rfl
    · rw [← ht.s2 h0]
      have hz := ht.z1 h0
      congr 1
      refine cut_same (by rw [hL1]; omega) (by omega) fun j h1 h2 => ?_
      rw [hG1, if_neg (by omega)]
end Go.Proofs.Ythipaabjmlgjmaa
namespace Go.Proofs.Ythipaabjmlgjmaa
open Go.RowKit Go Go.Maps
set_option linter.unusedVariables false
set_option linter.unusedSimpArgs false
theorem doneD_app : ∀ (a b : List Sp) (d : Dk) (l : Lg), doneD (a ++ b) d l = if (doneD a d l).2 = 0 then doneD b (doneD a d l).1.1 (doneD a d l).1.2 else doneD a d l
  | [], b, d, l => by simp only [List.nil_append, doneD, if_true]
  | s :: a, b, d, l => by
    have ih := doneD_app a b (spD s d l).1.1 (spD s d l).1.2
    rw [List.cons_append]
    by_cases h : (spD s d l).2 = 0
    · have e1 : doneD (s :: a) d l = doneD a (spD s d l).1.1 (spD s d l).1.2 := by rw [doneD, if_pos h]
      have e2 : doneD (s :: (a ++ b)) d l = doneD (a ++ b) (spD s d l).1.1 (spD s d l).1.2 := by rw [doneD, if_pos h]
      rw [e1, e2, ih]
    · have e1 : ∀ r, doneD (s :: r) d l = (((spD s d l).1.1, offL (spD s d l).1.2 ((spD s d l).1.2.off || decide ((spD s d l).2 = 32))), (spD s d l).2) := fun r => by rw [doneD, if_neg h]
      rw [e1, e1, if_neg h]
/-- the main file, the first so many pages laid into it -/
def chkF (l : Lg) : Nat → Fl → Fl
  | 0, F => F
  | k + 1, F => match frL l.fs ((k : Int) + 1) with | some s => wrP (chkF l k F) 0 (k * 8) s 8 | none => chkF l k F
theorem chkF_length (l : Lg) (P : Nat) (F : Fl) : ∀ k, k ≤ P → (chkF l k F).length ≤ max F.length (P * 8)
  | 0, _ => by show F.length ≤ _; omega
  | k + 1, h => by
    have ih := chkF_length l P F k (by omega)
    unfold chkF
    split
    · rw [wrP_length, if_neg (by omega)]; omega
    · exact ih
theorem chk_w {d : Dk} {l : Lg} (hc : Calm d) (hlo : ∀ c ∈ d.loose, c.file < 8) (hok : ∀ x ∈ l.fs, FxOk x) : ∀ k, k ≤ 256 →
    ∃ d', doneD (chkW l k) d l = ((d', l), 0) ∧ Calm d' ∧ d'.ops = d.ops + (chkW l k).length ∧ (∀ c ∈ d'.loose, c ∈ d.loose ∨ c.file = 0) ∧ d'.fl 0 = chkF l k (d.fl 0) ∧ ∀ j, j < 8 → j ≠ 0 → d'.fl j = d.fl j
  | 0, _ => ⟨d, rfl, hc, by show d.ops = d.ops + 0; omega, fun c h => .inl h, rfl, fun _ _ _ => rfl⟩
  | k + 1, h => by
    obtain ⟨d1, e1, c1, o1, l1, f1, g1⟩ := chk_w hc hlo hok k (by omega)
    rw [chkW, doneD_app, e1]
    simp only [if_true]
    unfold chkF
    cases hf : frL l.fs ((k : Int) + 1) with
    | none =>
      simp only [List.append_nil]
      exact ⟨d1, rfl, c1, o1, l1, f1, g1⟩
    | some s =>
      simp only
      obtain ⟨x, hx, _, hxs⟩ := frL_mem hf
      have hs : s.size = 8 * 64 := by rw [← hxs]; exact (hok x hx).2.2.2
      have hlo1 : ∀ c ∈ d1.loose, c.file < 8 := fun c hc => by
        rcases l1 c hc with h1 | h1
        · exact hlo c h1
        · omega
      have a := calm_write c1 (f := 0) (p := (k : Int) * 8) (s := s) (n := 8) (by omega) (by omega) (by omega) hs (by omega) (by omega)
      have b := loose_write c1 (f := 0) (p := (k : Int) * 8) (s := s) (n := 8) (by omega) (by omega) (by omega) hs (by omega) (by omega) hlo1
      generalize hd2 : writeD d1 0 ((k : Int) * 8) s = D2 at *
      obtain ⟨d2, z2⟩ := D2
      obtain ⟨a1, a2, a3, _, a5, a6⟩ := a
      simp only at a1 a2 a3 a5 a6 b
      subst a1
      have e0 : Int.toNat 0 = 0 := rfl
      rw [e0] at a5 b a6
      refine ⟨d2, ?_, a2, ?_, fun c hc => ?_, ?_, fun j hj hj1 => ?_⟩
      · simp only [doneD, spD, hd2, if_true]
      · rw [a3, o1, List.length_append]; rfl
      · rcases b.2 c hc with h1 | h1
        · exact l1 c h1
        · exact .inr h1
      · rw [a5, f1, show ((k : Int) * 8).toNat = k * 8 by omega]
      · rw [a6 j hj hj1, g1 j hj hj1]
theorem calm_cut {d : Dk} (h : Calm d) {f n : Int} (h0 : 0 ≤ f) (h8 : f < 8) (hn : 0 ≤ n) (hz : n ≤ ((d.fl f.toNat).length : Nat)) :
    (cutD d f n).2 = 0 ∧ Calm (cutD d f n).1 ∧ (cutD d f n).1.ops = d.ops + 1 ∧ (∀ c ∈ (cutD d f n).1.loose, c ∈ d.loose ∨ c.file = f.toNat) ∧ (cutD d f n).1.fl f.toNat = (d.fl f.toNat).take n.toNat ∧ ∀ j, j < 8 → j ≠ f.toNat → (cutD d f n).1.fl j = d.fl j := by
  have hsz : sizeD d f = ((d.fl f.toNat).length : Nat) := by
    unfold sizeD inF
    rw [if_pos (by simp; omega)]
  have he : cutD d f n = opD d [cutC f.toNat n.toNat] := by
    unfold cutD
    rw [if_neg (by rw [calm_ready h h0 h8]; simp), if_neg (by rw [hsz]; omega)]
  have ho := calm_op h [cutC f.toNat n.toNat]
  rw [he, ho]
  refine ⟨rfl, calm_of h 0 _ _, rfl, fun c hc => ?_, ?_, fun j hj hj1 => ?_⟩
  · rcases List.mem_append.1 (show c ∈ d.loose ++ [cutC f.toNat n.toNat] from hc) with hc | hc
    · exact .inl hc
    · rw [List.mem_singleton.1 hc]; exact .inr rfl
  · show (doneA 0 d.op1 (cutC f.toNat n.toNat)).fl f.toNat = _
    unfold doneA
    rw [show 8 * 0 + (cutC f.toNat n.toNat).file = f.toNat from by show 8 * 0 + f.toNat = _; omega, setF_same]
    rfl
  · show (doneA 0 d.op1 (cutC f.toNat n.toNat)).fl j = _
    unfold doneA
    rw [setF_other]
    · rfl
    · show j ≠ 8 * 0 + f.toNat
      omega
end Go.Proofs.Ythipaabjmlgjmaa
namespace Go.Proofs.Ythipaabjmlgjmaa
open Go.RowKit Go Go.Maps
set_option linter.unusedVariables false
set_option linter.unusedSimpArgs false
theorem chk_cut {d : Dk} {l : Lg} (hc : Calm d) : ∃ d', spD .cut d l = ((d', l), 0) ∧ Calm d' ∧ (∀ c ∈ d'.loose, c ∈ d.loose ∨ c.file = 0) ∧ d'.fl 0 = (d.fl 0).take (l.P * 8) ∧ ∀ j, j < 8 → j ≠ 0 → d'.fl j = d.fl j := by
  have hsz : sizeD d 0 = ((d.fl 0).length : Nat) := rfl
  by_cases h : (l.P : Int) * 8 < sizeD d 0
  · have a := calm_cut hc (f := 0) (n := (l.P : Int) * 8) (by omega) (by omega) (by omega) (show (l.P : Int) * 8 ≤ ((d.fl 0).length : Nat) by rw [← hsz]; omega)
    have e : spD .cut d l = (((cutD d 0 ((l.P : Int) * 8)).1, l), (cutD d 0 ((l.P : Int) * 8)).2) := by rw [spD, if_pos h]
    rw [e]
    generalize cutD d 0 ((l.P : Int) * 8) = D at *
    obtain ⟨d2, z2⟩ := D
    obtain ⟨a1, a2, _, a4, a5, a6⟩ := a
    simp only at a1 a2 a4 a5 a6
    subst a1
    have e0 : Int.toNat 0 = 0 := rfl
    rw [e0] at a4 a5 a6
    exact ⟨d2, rfl, a2, a4, by rw [a5, show ((l.P : Int) * 8).toNat = l.P * 8 by omega], a6⟩
  · refine ⟨d, by rw [spD, if_neg h], hc, fun c h => .inl h, ?_, fun _ _ _ => rfl⟩
    rw [List.take_of_length_le (by rw [hsz] at h; omega)]
theorem chk_told {d : Dk} {l : Lg} (ht : Told d l) (hc : Calm d) (hlo : ∀ c ∈ d.loose, c.file < 8) (hne : l.fs ≠ []) :
    ∃ d', chkD d l = ((d', ⟨nxt l.N, 0, l.P, true, [], startP (nxt l.N), false, false⟩), 0) ∧ Told d' ⟨nxt l.N, 0, l.P, true, [], startP (nxt l.N), false, false⟩ ∧ Calm d' ∧
      (∀ c ∈ d'.loose, c ∈ d.loose ∧ c.file ≠ 0 ∧ c.file ≠ 1) ∧ d'.fl 0 = (chkF l l.P (d.fl 0)).take (l.P * 8) ∧ (d'.fl 1).length = (d.fl 1).length ∧ ∀ j, 1 < j → j < 8 → d'.fl j = d.fl j := by
  obtain ⟨d1, e1, c1, _, l1, f1, g1⟩ := chk_w hc hlo ht.ok l.P ht.hP
  have hlo1 : ∀ c ∈ d1.loose, c.file < 8 := fun c hc => by
    rcases l1 c hc with h1 | h1
    · exact hlo c h1
    · omega
  obtain ⟨d2, e2, c2, l2, f2, g2⟩ := chk_cut (l := l) c1
  have hlo2 : ∀ c ∈ d2.loose, c.file < 8 := fun c hc => by
    rcases l2 c hc with h1 | h1
    · exact hlo1 c h1
    · omega
  have a3 := calm_sync c2 (f := 0) (by omega) (by omega) hlo2
  generalize hd3 : syncD d2 0 = D3 at *
  obtain ⟨d3, z3⟩ := D3
  obtain ⟨a31, c3, _, l3, g3⟩ := a3
  simp only at a31 c3 l3 g3
  subst a31
  have m3 : ∀ c ∈ d3.loose, c ∈ d2.loose ∧ c.file ≠ 0 := fun c hc => by
    rw [l3] at hc
    obtain ⟨h1, h2⟩ := List.mem_filter.1 hc
    exact ⟨h1, by simpa using h2⟩
  have hlo3 : ∀ c ∈ d3.loose, c.file < 8 := fun c hc => hlo2 c (m3 c hc).1
  have hhs : (bstr (headL (nxt l.N) 0 l.P)).size = 1 * 64 := headL_size _ _ _
  have a4 := calm_write c3 (f := 1) (p := 0) (s := bstr (headL (nxt l.N) 0 l.P)) (n := 1) (by omega) (by omega) (by omega) hhs (by omega) (by omega)
  have b4 := loose_write c3 (f := 1) (p := 0) (s := bstr (headL (nxt l.N) 0 l.P)) (n := 1) (by omega) (by omega) (by omega) hhs (by omega) (by omega) hlo3
  generalize hd4 : writeD d3 1 0 (bstr (headL (nxt l.N) 0 l.P)) = D4 at *
  obtain ⟨d4, z4⟩ := D4
  obtain ⟨a41, c4, _, _, f4, g4⟩ := a4
  simp only at a41 c4 f4 g4 b4
  subst a41
  have e1' : Int.toNat 1 = 1 := rfl
  have e0' : Int.toNat 0 = 0 := rfl
  rw [e1'] at f4 g4 b4
  rw [e0'] at f4
  have a5 := calm_sync c4 (f := 1) (by omega) (by omega) b4.1
  generalize hd5 : syncD d4 1 = D5 at *
  obtain ⟨d5, z5⟩ := D5
  obtain ⟨a51, c5, _, l5, g5⟩ := a5
  simp only at a51 c5 l5 g5
  subst a51
  have m5 : ∀ c ∈ d5.loose, c ∈ d4.loose ∧ c.file ≠ 1 := fun c hc => by
    rw [l5] at hc
    obtain ⟨h1, h2⟩ := List.mem_filter.1 hc
    exact ⟨h1, by simpa using h2⟩
  have hdone : doneD (chkS l) d l = ((d5, l), 0) := by
    have e0 : ({ l with torn := false } : Lg) = l := by rw [← ht.torn]
    unfold chkS
    rw [doneD_app, e1]
    simp only [if_true]
    simp only [doneD, e2, if_true]
    simp only [spD, hd3, hd4, hd5, tornL, ht.torn, Bool.false_and, Bool.false_or, decide_true, Bool.true_and, ne_eq, not_true_eq_false, decide_false, if_true]
    rw [e0]
  have hf1 : d5.fl 1 = wrP (d.fl 1) 1 0 (bstr (headL (nxt l.N) 0 l.P)) 1 := by
    rw [g5 1 (by omega), f4, g3 1 (by omega), g2 1 (by omega) (by omega), g1 1 (by omega) (by omega)]
  have hz := ht.z1
  have hL := wrP_length (d.fl 1) 1 0 (bstr (headL (nxt l.N) 0 l.P)) 1
  rw [if_neg (by omega)] at hL
  have hr := read_back (d.fl 1) 1 0 _ 1 hhs (by omega)
  rw [bts_headL, List.drop_zero] at hr
  refine ⟨d5, ?_, ?_, c5, fun c hc => ?_, ?_, ?_, fun j h1 h8 => ?_⟩
  · unfold chkD
    rw [if_neg hne, hdone, if_neg (by simp)]
    unfold chkL
    simp only [ht.torn, ht.off, ht.hd]
  · refine ⟨c5.1, rfl, rfl, ?_, ht.hP, by show (0 : Nat) ≤ 256; omega, fun x hx => (List.not_mem_nil hx).elim, rfl, rfl, ?_, ?_, rfl, rfl, rfl⟩
    · show nxt l.N < _
      unfold nxt
      first | omega | (split <;> omega)
    · show 1 + 9 * 0 ≤ (d5.fl 1).length
      rw [hf1, hL]; omega
    · show ((d5.fl 1).take 1).flatten = headL (nxt l.N) 0 l.P
      rw [hf1, hr]
  · obtain ⟨h1, h2⟩ := m5 c hc
    rcases b4.2 c h1 with h3 | h3
    · obtain ⟨h4, h5⟩ := m3 c h3
      rcases l2 c h4 with h6 | h6
      · rcases l1 c h6 with h7 | h7
        · exact ⟨h7, h5, h2⟩
        · exact absurd h7 h5
      · exact absurd h6 h5
    · exact absurd h3 h2
  · rw [g5 0 (by omega), g4 0 (by omega) (by omega), g3 0 (by omega), f2, f1]
  · rw [hf1, hL]; omega
  · rw [g5 j h8, g4 j h8 (by omega), g3 j h8, g2 j h8 (by omega), g1 j h8 (by omega)]
end Go.Proofs.Ythipaabjmlgjmaa
namespace Go.Proofs.Ythipaabjmlgjmaa
open Go.RowKit Go Go.Maps
set_option linter.unusedVariables false
set_option linter.unusedSimpArgs false
/-- the log of a new disk -/
def newL : Lg := ⟨0, 0, 0, false, [], startP 0, false, false⟩
theorem head_new : headD newD = (true, (0, 0, 0), false) := by
  have hr : readD newD 1 0 1 = (⟨#[]⟩, 5) := by
    unfold readD
    rw [if_neg (by decide), if_pos (by decide)]
  unfold headD
  rw [hr, if_neg (by simp)]
  rfl
theorem open_new : openD newD = some newL := by
  unfold openD
  rw [head_new]
  rfl
theorem tolf_new : Tolf newD newL := ⟨rfl, by show (0 : Nat) < _; omega, fun x hx => (List.not_mem_nil hx).elim, rfl, fun h => absurd rfl h, fun h => absurd rfl h, rfl, rfl⟩
theorem kl_sec {w0 W : World} {g q : Nat} {d : Dk} {N : Nat} {l : Lg} (h : Kl w0 g q d N l W) : ∀ s ∈ d.fl 1, s.length = 64 := by
  obtain ⟨S, ⟨m, hm⟩, _⟩ := kl_kd h
  exact fun s hs => ((hm.ok 1 (by omega)).2 s hs).1
theorem readD_main {d : Dk} (hon : d.off = false) {a n : Int} (ha : 0 ≤ a) (hn : 0 ≤ n) (hl : a + n ≤ (d.fl 0).length) : readD d 0 a n = (bstr (((d.fl 0).drop a.toNat).take n.toNat).flatten, 0) := by
  unfold readD
  have hr : readyD d 0 = 0 := by unfold readyD; rw [hon]; rfl
  have hs : sizeD d 0 = ((d.fl 0).length : Nat) := by unfold sizeD; rfl
  rw [if_neg (by rw [hr]; simp), if_neg (by rw [hs]; omega)]
  rfl
theorem may_pag {pages pg : Int} {c : Nat} (h1 : 1 ≤ pages) (h2 : pages ≤ 256) (h3 : 1 ≤ pg) (h4 : pg ≤ 256) : imBad ⟨pg, pagS c⟩ = false := by
  unfold imBad
  simp only [pagS_size, ne_eq, not_true_eq_false, decide_false, Bool.or_false]
  rw [decide_eq_false (by omega), decide_eq_false (by omega)]; rfl
def imsW : List Im := [⟨2, pagS 113⟩]
theorem may_w : mayA 2 imsW = true := by
  unfold mayA imsW
  simp only [List.any_cons, List.any_nil, may_pag (pages := 2) (pg := 2) (c := 113) (by omega) (by omega) (by omega) (by omega)]
  rfl
/-- the log behind the works' Append -/
def lW : Lg := ⟨0, 1, 2, true, [⟨2, 2, pagS 113⟩], wputE 0 (startP 0) [⟨2, 2, pagS 113⟩], false, false⟩
/-- and behind its Checkpoint -/
def lW2 : Lg := ⟨1, 0, 2, true, [], startP 1, false, false⟩
theorem works_math : ∃ d1 d2, appD 2 imsW newD newL = ((d1, lW), 0) ∧ Told d1 lW ∧ d1.off = false ∧ chkD d1 lW = ((d2, lW2), 0) ∧ d1.ops = 4 ∧ sizeD d2 0 = 16 ∧ pageD d2 lW2 2 0 = (pagS 113, 0) := by
  obtain ⟨d1, e1, t1, c1, o1, l1, z1, g1⟩ := app_told tolf_new calm_new (fun c hc => (List.not_mem_nil hc).elim) may_w (by decide)
  have t1' : Told d1 lW := t1
  obtain ⟨d2, e2, t2, c2, l2, f2, z2, g2⟩ := chk_told t1' c1 (fun c hc => (List.not_mem_nil (l1 c hc).1).elim) (by unfold lW; simp)
  have hF : d2.fl 0 = wrP [] 0 8 (pagS 113) 8 := by
    rw [f2, g1 0 (by omega) (by omega)]
    have h1 : chkF lW lW.P (newD.fl 0) = wrP [] 0 8 (pagS 113) 8 := rfl
    rw [h1, List.take_of_length_le]
    rw [wrP_length, if_neg (by omega)]
    show max 0 (8 + 8) ≤ 2 * 8
    omega
  have hL : (d2.fl 0).length = 16 := by rw [hF, wrP_length, if_neg (by omega)]; rfl
  refine ⟨d1, d2, e1, t1', c1.1, e2, by rw [o1]; rfl, ?_, ?_⟩
  · show (((d2.fl 0).length : Nat) : Int) = 16
    rw [hL]; rfl
  · have hs : sizeD d2 0 = 16 := by show (((d2.fl 0).length : Nat) : Int) = 16; rw [hL]; rfl
    unfold pageD
    rw [if_neg (by decide)]
    show (if sizeD d2 0 < 2 * 8 then _ else readD d2 0 ((2 - 1) * 8) 8) = _
    rw [hs, if_neg (by omega), readD_main c2.1 (by omega) (by omega) (by rw [hL]; decide), hF]
    have hb := read_back [] 0 8 (pagS 113) 8 (pagS_size _) (by omega)
    rw [show ((2 - 1 : Int) * 8).toNat = 8 from rfl, show Int.toNat 8 = 8 from rfl, hb, bstr_bts]
end Go.Proofs.Ythipaabjmlgjmaa
namespace Go.Proofs.Ythipaabjmlgjmaa
open Go.RowKit Go Go.Maps
set_option linter.unusedVariables false
set_option linter.unusedSimpArgs false
theorem kl_open_as {w0 W : World} {g : Nat} {d : Dk} {N : Nat} {l : Lg} (h : Kd w0 g d N W) (hoff : d.off = false) (ho : openD d = some l) : Calls Try.prog 8 #[lp g] W fun e w' => Below W.heap.size W w' ∧ Kd w0 g d N w' ∧ ∃ q, e = .returned (.tuple #[lp q, .int .i64 0]) ∧ Kl w0 g q d N l w' :=
  (kl_open h hoff).mono fun e w' ⟨h1, h2, h3⟩ => by
    refine ⟨h1, h2, ?_⟩
    rcases h3 with ⟨h4, _⟩ | ⟨l', q, h4, h5, h6⟩
    · rw [ho] at h4; cases h4
    · rw [ho] at h4
      injection h4 with h4
      subst h4
      exact ⟨q, h5, h6⟩
theorem page_113 (W : World) : Calls Try.prog 13 #[.int .u8 113] W fun e w' => e = .returned (.string (pagS 113)) ∧ Below W.heap.size W w' := page_lg 113 W (by omega)
theorem im_one (W : World) (t : TypeId) (a : Int) (x : ByteArray) : ImAt (W.alloc (.cells #[.int .i64 a, .string x] t)) (some ⟨W.heap.size, 0, none⟩) [⟨a, x⟩] := by
  refine .inr ⟨_, 0, rfl, (Blk.new W t _).lt, fun j y hy => ?_⟩
  match j, hy with
  | 0, hy =>
    obtain rfl : (⟨a, x⟩ : Im) = y := by simpa using hy
    exact ⟨(Blk.new W t #[.int .i64 a, .string x]).cell 0, (Blk.new W t #[.int .i64 a, .string x]).cell 1⟩
  | j + 1, hy => simp at hy
theorem im_two (W : World) (t : TypeId) (a b : Int) (x y : ByteArray) : ImAt (W.alloc (.cells #[.int .i64 a, .string x, .int .i64 b, .string y] t)) (some ⟨W.heap.size, 0, none⟩) [⟨a, x⟩, ⟨b, y⟩] := by
  refine .inr ⟨_, 0, rfl, (Blk.new W t _).lt, fun j z hz => ?_⟩
  match j, hz with
  | 0, hz =>
    obtain rfl : (⟨a, x⟩ : Im) = z := by simpa using hz
    exact ⟨(Blk.new W t #[.int .i64 a, .string x, .int .i64 b, .string y]).cell 0, (Blk.new W t #[.int .i64 a, .string x, .int .i64 b, .string y]).cell 1⟩
  | 1, hz =>
    obtain rfl : (⟨b, y⟩ : Im) = z := by simpa using hz
    exact ⟨(Blk.new W t #[.int .i64 a, .string x, .int .i64 b, .string y]).cell 2, (Blk.new W t #[.int .i64 a, .string x, .int .i64 b, .string y]).cell 3⟩
  | j + 2, hz => simp at hz
theorem kl_append_as {w0 W : World} {g q : Nat} {d d' : Dk} {N : Nat} {l l' : Lg} {z : Int} (h : Kl w0 g q d N l W) (hoff : l.off = false) (ht : l.torn = false) (pages : Int) (A : Option Addr) (n c : Nat) (ims : List Im) (hO : ImAt W A ims) (hn : n = ims.length) (hsm : n ≤ 100000) (hz : ∀ x ∈ ims, x.dt.size ≤ 9223372036854775807) (hN : N + 4 ≤ 1000000) (e : appD pages ims d l = ((d', l'), z)) :
    Calls Try.prog 14 #[lp q, .int .i64 pages, .slice A n c] W fun e w' => e = .returned (.int .i64 z) ∧ Kl w0 g q d' (N + 4) l' w' := by
  have := kl_append h hoff ht pages A n c ims hO hn hsm hz hN
  rw [e] at this
  exact this
theorem kl_check_as {w0 W : World} {g q : Nat} {d d' : Dk} {N : Nat} {l l' : Lg} {z : Int} (h : Kl w0 g q d N l W) (hoff : l.off = false) (ht : l.torn = false) (hN : N + 260 ≤ 1000000) (e : chkD d l = ((d', l'), z)) :
    Calls Try.prog 17 #[lp q] W fun e w' => e = .returned (.int .i64 z) ∧ Kl w0 g q d' (N + 260) l' w' := by
  have := kl_check h hoff ht hN
  rw [e] at this
  exact this
theorem kl_page_as {w0 W : World} {g q : Nat} {d : Dk} {N : Nat} {l : Lg} (h : Kl w0 g q d N l W) (n mark : Int) {x : ByteArray} {z : Int} (e : pageD d l n mark = (x, z)) : Calls Try.prog 12 #[lp q, .int .i64 n, .int .i64 mark] W fun e w' => e = .returned (.tuple #[.string x, .int .i64 z]) ∧ Kl w0 g q d N l w' := by
  have := kl_page h n mark
  rw [e] at this
  exact this.mono fun e w' hh => ⟨hh.1, kl_below h hh.2⟩
set_option maxRecDepth 100000 in
set_option maxHeartbeats 4000000 in
theorem works_lg (w : World) : Calls Try.prog 20 #[] w fun e w' => e = .returned (.bool true) ∧ Below w.heap.size w w' := by
  have HPG := Lib.hid page_113
  obtain ⟨d1, d2, m1, m2, m3, m4, m5, m6, m7⟩ := works_math
  have HM1 := Lib.hid m1
  have HM4 := Lib.hid m4
  have HM6 := Lib.hid m6
  have HM7 := Lib.hid m7
  have HM2 := Lib.hid m2
  have HM3 := Lib.hid m3
  clear m1 m2 m3 m4 m5 m6 m7
  go_enter Try.func20, Try.ntmps20
  go_wp2_with fail
  refine (kd_new (Below.refl w.heap.size w)).mono ?_
  rintro e w1 ⟨rfl, hk⟩
  have H1 := Lib.hid (hk)
  generalize w.heap.size + 1 = g at *
  clear hk
  go_wp2_with fail
  refine (kl_open_as H1.out rfl open_new).mono ?_
  rintro e w2 ⟨-, -, q1, rfl, hk⟩
  have H2 := Lib.hid hk
  clear hk H1
  go_wp2_with fail
  refine (HPG.out _).mono ?_
  rintro e w3 ⟨rfl, hb⟩
  have H3 := Lib.hid (kl_below H2.out hb)
  clear hb H2
  go_wp2_with fail
  refine (kl_append_as (kl_below H3.out allocB) rfl rfl 2 _ 1 1 imsW (im_one w3 _ 2 (pagS 113)) rfl (by omega) (fun x hx => by obtain rfl := List.mem_singleton.1 hx; show (pagS 113).size ≤ _; rw [pagS_size]; omega) (by omega) HM1.out).mono ?_
  rintro e w4 ⟨rfl, hk⟩
  have H4 := Lib.hid hk
  clear hk H3 HM1
  go_wp2_with fail
  refine (kl_open_as (kl_kd H4.out) HM3.out (open_told HM2.out (kl_sec H4.out))).mono ?_
  rintro e w5 ⟨-, -, q2, rfl, hk⟩
  have H5 := Lib.hid hk
  clear hk H4 HM2 HM3
  go_wp2_with fail
  refine (kl_mark H5.out).mono ?_
  rintro e w6 ⟨rfl, rfl⟩
  go_wp2_with fail
  refine (kl_check_as H5.out rfl rfl (by omega) HM4.out).mono ?_
  rintro e w6 ⟨rfl, hk⟩
  have H6 := Lib.hid hk
  clear hk H5 HM4
  go_wp2_with fail
  refine (kd_size (kl_kd H6.out) 0).mono ?_
  rintro e w7 ⟨he, rfl⟩
  rw [HM6.out] at he
  subst he
  go_wp2_with fail
  refine (kl_page_as H6.out 2 0 HM7.out).mono ?_
  rintro e w8 ⟨rfl, hk⟩
  have H7 := Lib.hid hk
  clear hk H6 HM7
  go_wp2_with fail
  refine (HPG.out _).mono ?_
  rintro e w9 ⟨rfl, hb⟩
  have H8 := Lib.hid (kl_below H7.out hb)
  clear hb H7
  go_wp2_with fail
  refine (kl_pages H8.out).mono ?_
  rintro e w10 ⟨rfl, rfl⟩
  go_wp2_with fail
  refine (kl_number H8.out).mono ?_
  rintro e w10 ⟨rfl, rfl⟩
  go_wp2
  go_ret
  exact ⟨by first | rfl | simp, kl_b H8.out⟩
end Go.Proofs.Ythipaabjmlgjmaa
namespace Go.Proofs.Ythipaabjmlgjmaa
open Go.RowKit Go Go.Maps
set_option linter.unusedVariables false
set_option linter.unusedSimpArgs false
set_option maxRecDepth 100000 in
set_option maxHeartbeats 4000000 in
theorem page_nil (n mark : Int) (w : World) : Calls Try.prog 12 #[.pointer none, .int .i64 n, .int .i64 mark] w fun e w' => e = .returned (.tuple #[.string ⟨#[]⟩, .int .i64 1]) ∧ w = w' := by
  go_enter Try.func12, Try.ntmps12
  go_wp2
  go_ret2
  exact ⟨rfl, rfl⟩
set_option maxRecDepth 100000 in
set_option maxHeartbeats 4000000 in
theorem frames_nil (n mark : Int) (w : World) : Calls Try.prog 19 #[.pointer none, .int .i64 n, .int .i64 mark] w fun e w' => e = .returned (.tuple #[.slice none 0 0, .int .i64 1]) ∧ w = w' := by
  go_enter Try.func19, Try.ntmps19
  go_wp2
  go_ret2
  exact ⟨rfl, rfl⟩
set_option maxRecDepth 100000 in
set_option maxHeartbeats 4000000 in
theorem append_nil (pages : Int) (A : Option Addr) (n c : Nat) (w : World) : Calls Try.prog 14 #[.pointer none, .int .i64 pages, .slice A n c] w fun e w' => e = .returned (.int .i64 1) ∧ Below w.heap.size w w' := by
  go_enter Try.func14, Try.ntmps14
  go_wp2
  go_ret
  exact ⟨rfl, Below.refl _ _⟩
set_option maxRecDepth 100000 in
set_option maxHeartbeats 4000000 in
theorem check_nil (w : World) : Calls Try.prog 17 #[.pointer none] w fun e w' => e = .returned (.int .i64 1) ∧ Below w.heap.size w w' := by
  go_enter Try.func17, Try.ntmps17
  go_wp2
  go_ret
  exact ⟨rfl, allocB⟩
end Go.Proofs.Ythipaabjmlgjmaa
