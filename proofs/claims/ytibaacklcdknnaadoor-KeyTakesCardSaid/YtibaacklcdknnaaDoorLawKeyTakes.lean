/- counterfoilref08.Take; the walk of KeyTakes. Conditions: the text has no more than a hundred thousand bytes; MaxLen's cell holds a number. -/
import Derived.Test.YtibaacklcdknnaaDoorProg
import Derived.Test.YtibaacklcdknnaaDoorKeyR3e
import Derived.Test.YtibaacklcdknnaaDoorKey6
import Derived.Outline
namespace Go.Proofs.YtibaacklcdknnaaDoor
open Go.RowKit
set_option linter.unusedVariables false
/-- what the document's Take answers -/
def RTakeP (L : List Nat) (w : World) (e : Ending) (w' : World) : Prop := Below w.heap.size w w' ∧
  ((takeK L = none ∧ e = .returned (.tuple #[.slice none 0 0, .int .i64 7])) ∨
   (∃ (l : List Val) (A : Option Addr) (c : Nat), takeK L = some l ∧ e = .returned (.tuple #[.slice A l.length c, .int .i64 0]) ∧ Vals w' w'.heap.size A l ∧ l.length ≤ L.length))
set_option maxRecDepth 100000 in
set_option maxHeartbeats 4000000 in
theorem refTake_any (s : ByteArray) (w : World) (hs : s.size ≤ 100000) : Calls Tryd.prog 7 #[.string s] w (RTakeP (bts s) w) := by
  obtain ⟨iv, hv1, hv2, hv3, hv4⟩ := info_parts (show (Tryd.prog.info? 31).map (fun i => (i.zero, i.size, i.bytes)) = some (some (.agg #[.int .u8 0, .int .i64 0, .string ⟨#[]⟩]), 3, 32) by kernel_rfl)
  have HSZ := Lib.hid hs
  clear hs
  go_enter Tryd.func7, Tryd.ntmps7
  go_wp2
  go_loopw [0, 4] (fun x v wr => ∃ (S : ByteArray) (acc : List Val), x = .string S ∧ S.size + acc.length ≤ s.size ∧ takeK (bts s) = (takeK (bts S)).map (acc ++ ·) ∧ wr.ownsRow w.heap.size 31 3 v acc.length (valCs acc) ∧ Below w.heap.size w wr) (fun x _ _ => match x with | .string S => S.size | _ => 0)
  case atStart => exact ⟨s, [], rfl, by simp, by cases takeK (bts s) <;> simp, World.ownsRow_nil _ _ _ _, Below.refl _ _⟩
  case round =>
    obtain ⟨S, acc, rfl, hsz, heq, hown, hb⟩ := hrel
    obtain ⟨A, c, rfl⟩ := own_form hown
    by_cases h0 : S.size = 0
    · obtain rfl := empty_of h0
      rw [bts_nil, takeK_nil] at heq
      have hP : RTakeP (bts s) w (.returned (.tuple #[.slice A acc.length c, .int .i64 0])) wr := ⟨hb, .inr ⟨acc, A, c, by rw [heq]; simp, rfl, vals_of_own hown rfl, by rw [bts_length]; omega⟩⟩
      have HP := Lib.hid hP
      rw [show (bstr [] : ByteArray) = ⟨#[]⟩ from rfl] at *
      clear heq hown hb hP hsz h0
      go_wp2
      go_ret2
      exact HP.out
    · have hne : bts S ≠ [] := fun e => h0 (by have := bts_length S; rw [e] at this; simpa using this.symm)
      have h0I : (0 : Int) < S.size := by omega
      have hc1 := refFirst S wr (by have := HSZ.out; omega)
      have HC1 := Lib.hid hc1
      have HO := Lib.hid hown
      have HB := Lib.hid hb
      have HEQ := Lib.hid heq
      have HNE := Lib.hid hne
      have hal : acc.length ≤ 1000000 := by have := HSZ.out; omega
      have HSS := Lib.hid hsz
      clear hc1 hown hb heq hne h0 hsz
      go_wp2_with fail
      refine (HC1.out).mono ?_
      rintro e w2 ⟨hb2, ⟨⟨k, q, y⟩, sz, hone, rfl⟩ | ⟨hone, rfl⟩⟩
      · obtain ⟨k1, k2⟩ := oneT_le hone
        rw [bts_length] at k2
        have hst := takeK_step HNE.out hone
        have hbv : Below wr.heap.size wr (w2.alloc (.cells #[.int .u8 k, .int .i64 q, .string y] 31)) := hb2.alloc hb2.size _
        have hbw := hbv.alloc hbv.size (.cells #[.int .u8 k, .int .i64 q, .string y] 31)
        have hown2 := own_below HO.out hbw
        have hrd := reads3g (w2.alloc (.cells #[.int .u8 k, .int .i64 q, .string y] 31)) (w2.heap.size + 1) (k, q, y) 31 (by simp)
        have hB2 := bj HB.out hbw
        have HB2 := Lib.hid hB2
        have HBS := Lib.hid hB2.size
        have HO2 := Lib.hid hown2
        have hx := bts_cutr S sz
        have HST := Lib.hid (show takeK (bts s) = (takeK (bts (S.extract sz S.size))).map ((acc ++ [(k, q, y)]) ++ ·) by
          rw [HEQ.out, hst, hx]
          cases takeK ((bts S).drop sz) <;> simp)
        have HSS2 := Lib.hid (show (S.extract sz S.size).size + (acc ++ [(k, q, y)]).length ≤ s.size ∧ (S.extract sz S.size).size < S.size by
          have := HSS.out
          rw [ByteArray.size_extract, List.length_append]; simp; omega)
        have k2I : (sz : Int) ≤ S.size := by omega
        clear hst hbv hbw hown2 hB2 hx hone k1 k2
        go_wp2_with (at_builtin; refine wpList_append_any _ rfl (.tmp 19) (.tmp 21) 24 rfl w.heap.size 31 iv _ 3 32 Tryd.underlying24 hv1 hv2 hv3 hv4 rfl (by omega) _ acc.length (valCs acc) rfl HO2.out (w2.heap.size + 1 + 1) (some ⟨w2.heap.size + 1, 0, none⟩) 1 1 [Value.int .u8 k, .int .i64 q, .string y] rfl hrd (by intro u hu; simp at hu; rcases hu with rfl | rfl | rfl <;> rfl) (by simp only [maxLen]; omega) (by omega) HBS.out ?_; intro v1 w4 hown1 hg1 hat1; obtain ⟨A1, c1, rfl⟩ := own_form hown1; (have HB4 := Lib.hid (HB2.out.grown hg1 HB2.out.size (fun z hz => (HO2.out.lt z hz).1))); (have HO4 := Lib.hid hown1); clear hown1 hg1 hat1 hrd)
        go_wp2
        go_roundw
        case rel => exact ⟨_, acc ++ [(k, q, y)], rfl, HSS2.out.1, HST.out, by rw [valCs_snoc, List.length_append]; exact HO4.out, HB4.out⟩
        case measure => exact HSS2.out.2
      · have hP : RTakeP (bts s) w (.returned (.tuple #[.slice none 0 0, .int .i64 7])) (w2.alloc (.cells #[.int .u8 0, .int .i64 0, .string ⟨#[]⟩] 31)) :=
          ⟨(bj HB.out hb2).alloc (bj HB.out hb2).size _, .inl ⟨by rw [HEQ.out, takeK_none HNE.out hone]; rfl, rfl⟩⟩
        have HP := Lib.hid hP
        clear hP hone hb2
        go_wp2
        go_ret2
        exact HP.out
/-- what the law keeps of the two rows -/
def Kt (w : World) (A : Option Addr) (l : List Val) (B : Option Addr) (W : World) : Prop := Vals W W.heap.size A l ∧ Vals W W.heap.size B l ∧ Below w.heap.size w W
theorem kt_below {w W W' : World} {A B : Option Addr} {l : List Val} (h : Kt w A l B W) (hb : Below W.heap.size W W') : Kt w A l B W' := ⟨vals_step h.1 hb, vals_step h.2.1 hb, bj h.2.2 hb⟩
theorem kt_alloc {w W : World} {A B : Option Addr} {l : List Val} (h : Kt w A l B W) (o : Obj) : Kt w A l B (W.alloc o) := kt_below h ((Below.refl _ _).alloc (Nat.le_refl _) o)
theorem oneT_take_none {L : List Nat} {l : List Val} (h : oneT L = none) (ht : takeK L = some l) : L = [] := by
  by_cases h0 : L = []
  · exact h0
  · rw [takeK_none h0 h] at ht; cases ht
set_option maxRecDepth 100000 in
set_option maxHeartbeats 8000000 in
theorem keyTakes_walk (s : ByteArray) (hs : s.size ≤ 140737488351232) (w : World) (m : Int) (hm : w.cell? ⟨0, 0, none⟩ = some (.int .i64 m)) :
    Calls Tryd.prog 3 #[.string s] w fun e w' => e = .returned (.bool true) ∧ Below w.heap.size w w' := by
  have HW := Lib.hid (works_any m w hm)
  have hl := fun W => long_any s W
  by_cases h8 : 8192 < s.size
  · rw [decide_eq_true h8] at hl
    have HL := Lib.hid hl
    clear hl h8 hs hm
    go_enter Tryd.func3, Tryd.ntmps3
    go_wp2_with fail
    refine (HW.out).mono ?_
    rintro e w2 ⟨rfl, hb2⟩
    have HB2 := Lib.hid hb2
    clear hb2
    go_wp2_with fail
    refine (HL.out _).mono ?_
    rintro e w3 ⟨rfl, rfl⟩
    go_wp2
    go_ret
    exact ⟨rfl, HB2.out⟩
  · rw [decide_eq_false h8] at hl
    have HL := Lib.hid hl
    have HT := Lib.hid (fun W => ktake_any s W (by omega))
    have HR := Lib.hid (fun W => refTake_any s W (by omega))
    have HF := Lib.hid (fun W => kfirst_any s W (by omega))
    have HG := Lib.hid (fun W => refFirst s W (by omega))
    have H8 := Lib.hid h8
    clear hl h8 hs hm
    go_enter Tryd.func3, Tryd.ntmps3
    go_wp2_with fail
    refine (HW.out).mono ?_
    rintro e w2 ⟨rfl, hb2⟩
    have HB2 := Lib.hid hb2
    clear hb2
    go_wp2_with fail
    refine (HL.out _).mono ?_
    rintro e w3 ⟨rfl, rfl⟩
    go_wp2_with fail
    refine (HT.out _).mono ?_
    rintro e w4 ⟨A, n, c, er, l, rfl, hv4, hn, hnl, hnc, hfit, hb4, hcase⟩
    have hle : n ≤ 8192 := by have h1 := H8.out; have h2 := bts_length s; omega
    have HN := Lib.hid (And.intro hn hle)
    clear hle
    have HV4 := Lib.hid hv4
    have HB4 := Lib.hid hb4
    have HC := Lib.hid hcase
    clear hv4 hn hnl hnc hfit hb4 hcase
    go_wp2_with fail
    refine (HR.out _).mono ?_
    rintro e w5 ⟨hb5, hcase5⟩
    obtain ⟨B, n', c', er', l', rfl, hv5, hn5, hsame⟩ : ∃ (B : Option Addr) (n' c' : Nat) (er' : Int) (l' : List Val), e = .returned (.tuple #[.slice B n' c', .int .i64 er']) ∧ Vals w5 w5.heap.size B l' ∧ n' = l'.length ∧ (l = l' ∧ er = er') := by
      rcases hcase5 with ⟨h1, rfl⟩ | ⟨l', A', c', h1, rfl, h2, h3⟩
      · refine ⟨none, 0, 0, 7, [], rfl, .inl rfl, rfl, ?_⟩
        rcases HC.out with ⟨_, h4, h5⟩ | ⟨h4, _⟩
        · exact ⟨h4, h5⟩
        · rw [h1] at h4; cases h4
      · refine ⟨A', _, c', 0, l', rfl, h2, rfl, ?_⟩
        rcases HC.out with ⟨h4, _⟩ | ⟨h4, h5⟩
        · rw [h1] at h4; cases h4
        · rw [h1] at h4; exact ⟨(Option.some.inj h4).symm, h5⟩
    obtain ⟨rfl, rfl⟩ := hsame
    have hK : Kt w A l B w5 := ⟨vals_step HV4.out hb5, hv5, bj HB2.out (bj HB4.out hb5)⟩
    have HK5 := Lib.hid hK
    have HN5 := Lib.hid hn5
    clear hcase5 hv5 hb5 hK hn5
    go_wp2_with fail
    refine (HF.out _).mono ?_
    rintro e w6 ⟨rfl, hb6⟩
    have HK6 := Lib.hid (kt_below HK5.out hb6)
    clear hb6
    obtain ⟨fz, gz, hfg⟩ : ∃ fz gz, firstZ (bts s) = (fz, gz) := ⟨_, _, rfl⟩
    rw [hfg]
    go_wp2_with fail
    refine (HG.out _).mono ?_
    rintro e w7 ⟨hb7, hcase7⟩
    have HK7 := Lib.hid (kt_below HK6.out hb7)
    clear hb7
    have HM : Hid (n ≤ maxLen ∧ n' ≤ maxLen) := Lib.hid (by have h1 := HN5.out; have h2 := HN.out.1; have h3 := HN.out.2; unfold maxLen; constructor <;> omega)
    rcases hcase7 with ⟨⟨p, q, y⟩, k, hone, rfl⟩ | ⟨hone, rfl⟩
    · have e1 : firstZ (bts s) = ((k : Int), 0) := by unfold firstZ; rw [hone]
      rw [hfg] at e1
      simp only [Prod.mk.injEq] at e1
      obtain ⟨rfl, rfl⟩ := e1
      have hsm := same_any A B l l n c n' c' true (w7.alloc (.cells #[.int .u8 p, .int .i64 q, .string y] 31)) (kt_alloc HK7.out _).1 (kt_alloc HK7.out _).2.1 HN.out.1 HN5.out HM.out.1 HM.out.2 (by simp)
      have HSM := Lib.hid hsm
      clear hsm hone hfg
      go_wp2_with fail
      refine (HSM.out).mono ?_
      rintro e w8 ⟨rfl, hb8⟩
      go_wp2
      go_ret
      exact ⟨rfl, (kt_below (kt_alloc HK7.out _) hb8).2.2⟩
    · have e1 : firstZ (bts s) = (0, 7) := by unfold firstZ; rw [hone]
      rw [hfg] at e1
      simp only [Prod.mk.injEq] at e1
      obtain ⟨rfl, rfl⟩ := e1
      have hsm := same_any A B l l n c n' c' true (w7.alloc (.cells #[.int .u8 0, .int .i64 0, .string ⟨#[]⟩] 31)) (kt_alloc HK7.out _).1 (kt_alloc HK7.out _).2.1 HN.out.1 HN5.out HM.out.1 HM.out.2 (by simp)
      have HSM := Lib.hid hsm
      clear hsm hone hfg
      go_wp2_with fail
      refine (HSM.out).mono ?_
      rintro e w8 ⟨rfl, hb8⟩
      go_wp2
      go_ret
      exact ⟨rfl, (kt_below (kt_alloc HK7.out _) hb8).2.2⟩
end Go.Proofs.YtibaacklcdknnaaDoor
