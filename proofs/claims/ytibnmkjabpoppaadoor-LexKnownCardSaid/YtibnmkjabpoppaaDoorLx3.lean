/- Layer 13: how many bytes blanks and remarks have; ref13's Skip. Conditions: those of each lemma. -/
import Derived.Test.YtibnmkjabpoppaaDoorLx2
namespace Go.Proofs.YtibnmkjabpoppaaDoor
open Go Go.RowKit
set_option linter.unusedVariables false
set_option linter.unusedSimpArgs false
theorem rint13 {a b : Int} (h : a = b) : Ending.returned (.int .i64 a) = Ending.returned (.int .i64 b) := by rw [h]
def rmk (l : List Nat) : Nat := (l.takeWhile (fun c => c != 10)).length
def skp : Nat → List Nat → Nat
  | 0, _ => 0
  | _ + 1, [] => 0
  | f + 1, c :: l => if blaB (c : Int) = true then 1 + skp f l else if c = 45 ∧ l.getD 0 0 = 45 then rmk (c :: l) + skp f ((c :: l).drop (rmk (c :: l))) else 0
/-- how many bytes blanks and remarks have that begin a text -/
def sk (l : List Nat) : Nat := skp l.length l
theorem rmk_le (l : List Nat) : rmk l ≤ l.length := List.IsPrefix.length_le (List.takeWhile_prefix _)
theorem rmk_pos {c : Nat} {l : List Nat} (h : c ≠ 10) : 1 ≤ rmk (c :: l) := by
  unfold rmk
  rw [List.takeWhile_cons_of_pos (by simpa using h)]
  simp
theorem skp_fuel : ∀ (f : Nat) (l : List Nat), l.length ≤ f → skp f l = skp l.length l := by
  intro f
  induction f using Nat.strongRecOn with
  | ind f ih =>
    intro l hl
    match f, l with
    | 0, [] => rfl
    | 0, c :: l => simp at hl
    | f + 1, [] => rfl
    | f + 1, c :: l =>
      simp only [List.length_cons] at hl ⊢
      rw [skp, skp]
      split
      · rw [ih f (by omega) l (by omega)]
      · split
        · rename_i h45
          have hp := rmk_pos (c := c) (l := l) (by omega)
          have hle := rmk_le (c :: l)
          simp only [List.length_cons] at hle
          have hd : ((c :: l).drop (rmk (c :: l))).length ≤ l.length := by rw [List.length_drop, List.length_cons]; omega
          rw [ih f (by omega) _ (by omega)]
          by_cases hlf : l.length = f
          · rw [hlf, ih f (by omega) _ (by omega)]
          · rw [ih l.length (by omega) _ hd]
        · rfl
theorem sk_nil : sk [] = 0 := rfl
theorem sk_bla {c : Nat} {l : List Nat} (h : blaB (c : Int) = true) : sk (c :: l) = 1 + sk l := by
  unfold sk
  rw [List.length_cons, skp, if_pos h]
theorem sk_rem {c : Nat} {l : List Nat} (hb : ¬ blaB (c : Int) = true) (h : c = 45 ∧ l.getD 0 0 = 45) : sk (c :: l) = rmk (c :: l) + sk ((c :: l).drop (rmk (c :: l))) := by
  have hp := rmk_pos (c := c) (l := l) (by omega)
  unfold sk
  rw [List.length_cons, skp, if_neg hb, if_pos h, skp_fuel l.length _ (by rw [List.length_drop, List.length_cons]; omega)]
theorem sk_no {c : Nat} {l : List Nat} (hb : ¬ blaB (c : Int) = true) (h : ¬ (c = 45 ∧ l.getD 0 0 = 45)) : sk (c :: l) = 0 := by
  unfold sk
  rw [List.length_cons, skp, if_neg hb, if_neg h]
theorem drop_at (S : ByteArray) (q : Nat) (h : q < S.size) : (bts S).drop q = atB S q :: (bts S).drop (q + 1) := by
  have hl := bts_length S
  rw [List.drop_eq_getElem_cons (by omega)]
  unfold atB
  rw [List.getD_eq_getElem?_getD, List.getElem?_eq_getElem (by omega)]
  rfl
theorem drop_hd (S : ByteArray) (q : Nat) : ((bts S).drop q).getD 0 0 = atB S q := by
  unfold atB
  rw [List.getD_eq_getElem?_getD, List.getElem?_drop, Nat.add_zero, ← List.getD_eq_getElem?_getD]
theorem atB_at (S : ByteArray) (q : Nat) (h : q < S.size) : S[q].toNat = atB S q := byte_at S q h
theorem atB_lt (S : ByteArray) (q : Nat) : atB S q < 256 := bts_getD_lt S q
set_option maxRecDepth 100000 in
set_option maxHeartbeats 8000000 in
theorem rSkip_any (S : ByteArray) (p : Nat) (w : World) (hp : p ≤ S.size) (hS : S.size ≤ 140737488351232) : Calls Tryd.prog 30 #[.string S, .int .i64 p] w fun e w' => e = .returned (.int .i64 ((p + sk ((bts S).drop p) : Nat) : Int)) ∧ w = w' := by
  have hSI : (S.size : Int) ≤ 140737488351232 := by omega
  obtain ⟨R, hR⟩ : ∃ R, p + sk ((bts S).drop p) = R := ⟨_, rfl⟩
  have HR := Lib.hid hR
  rw [hR]
  clear hR
  have HAT := Lib.hid (fun (q : Nat) (W : World) => rAt_any S q W)
  go_enter Tryd.func30, Tryd.ntmps30
  go_wp2
  go_loopw [1] (fun a wr => ∃ q : Nat, q ≤ S.size ∧ a = .int .i64 q ∧ q + sk ((bts S).drop q) = R ∧ wr = w) (fun a _ => S.size - (intOf a).toNat)
  case atStart => exact ⟨p, hp, rfl, HR.out, rfl⟩
  case round =>
    clear HR hp
    obtain ⟨q, hq, rfl, hE, rfl⟩ := hrel
    have HE := Lib.hid hE
    clear hE
    by_cases hqs : q < S.size
    · have hx := atB_at S q hqs
      have hd := drop_at S q hqs
      have hc := atB_lt S q
      have hI : (q : Int) < S.size := by omega
      have HH := Lib.hid (drop_hd S (q + 1))
      generalize hcc : atB S q = c at *
      have HD := Lib.hid hd
      clear hd
      by_cases hb : blaB (c : Int) = true
      · have HN := Lib.hid (show q + 1 + sk ((bts S).drop (q + 1)) = R by rw [← HE.out, HD.out, sk_bla hb]; omega)
        have h4 : c = 32 ∨ c = 9 ∨ c = 10 ∨ c = 13 := by
          unfold blaB at hb
          simp at hb
          omega
        clear hb HH HD
        rcases h4 with rfl | rfl | rfl | rfl
        all_goals
          go_wp2
          go_roundw
          case rel => exact ⟨q + 1, by omega, by go_num, HN.out, by trivial⟩
          case measure => simp [intOf]; omega
      · have h4 : ¬ c = 32 ∧ ¬ c = 9 ∧ ¬ c = 10 ∧ ¬ c = 13 := by
          unfold blaB at hb
          simp at hb
          omega
        obtain ⟨n1, n2, n3, n4⟩ := h4
        have b1 : ((c : Int) == 32) = false := beq_no13 (by omega)
        have b2 : ((c : Int) == 9) = false := beq_no13 (by omega)
        have b3 : ((c : Int) == 10) = false := beq_no13 (by omega)
        have b4 : ((c : Int) == 13) = false := beq_no13 (by omega)
        have HNB := Lib.hid hb
        have N3 := Lib.hid n3
        clear n1 n2 n3 n4 hb
        by_cases h45 : c = 45
        · subst h45
          have hat := fun W => HAT.out (q + 1) W
          obtain ⟨d, hdd⟩ : ∃ d, atB S (q + 1) = d := ⟨_, rfl⟩
          have hdl := atB_lt S (q + 1)
          have HH2 := Lib.hid HH.out
          rw [hdd] at hat hdl HH2
          have hat2 : ∀ W, Calls Tryd.prog 33 #[.string S, .int .i64 ((q : Int) + 1)] W fun e w' => e = .returned (.int .u8 (d : Int)) ∧ W = w' := fun W => hat W
          have HAT2 := Lib.hid hat2
          clear hat hat2 hdd HH
          by_cases hd45 : d = 45
          · subst hd45
            have HM := Lib.hid (show q + rmk ((bts S).drop q) + sk ((bts S).drop (q + rmk ((bts S).drop q))) = R by
              rw [← HE.out, HD.out, sk_rem HNB.out ⟨rfl, HH2.out⟩, ← HD.out, List.drop_drop]
              omega)
            clear HH2
            go_wp2_with fail
            refine (HAT2.out _).mono ?_
            rintro e w3 ⟨rfl, rfl⟩
            go_wp2
            go_loopw [1] (fun a wq => ∃ r : Nat, q ≤ r ∧ r ≤ S.size ∧ a = .int .i64 r ∧ r + rmk ((bts S).drop r) = q + rmk ((bts S).drop q) ∧ (q < r ∨ r = q) ∧ wq = wr) (fun a _ => S.size - (intOf a).toNat)
            case atStart => exact ⟨q, by omega, by omega, rfl, rfl, .inr rfl, rfl⟩
            case round =>
              obtain ⟨r, hr1, hr2, rfl, hrE, hro, rfl⟩ := hrel
              have HRE := Lib.hid hrE
              clear hrE hx b1 b2 b3 b4
              by_cases hrs : r < S.size
              · have hy := atB_at S r hrs
                have hyd := drop_at S r hrs
                have hyl := atB_lt S r
                have hyI : (r : Int) < S.size := by omega
                generalize hyy : atB S r = y at *
                by_cases hy10 : y = 10
                · subst hy10
                  have HQ := Lib.hid (show r + sk ((bts S).drop r) = R by
                    have h0 : rmk ((bts S).drop r) = 0 := by rw [hyd]; unfold rmk; rw [List.takeWhile_cons_of_neg (by simp)]; rfl
                    have h1 := HRE.out
                    rw [h0, Nat.add_zero] at h1
                    have h2 := HM.out
                    rw [← h1] at h2
                    exact h2)
                  have hqr : q < r := by
                    rcases hro with h | h
                    · exact h
                    · subst h
                      rw [hyd] at HD
                      have h3 := HD.out
                      simp at h3
                  clear hyd hro
                  go_wp2
                  go_roundw
                  case rel => exact ⟨r, by omega, rfl, HQ.out, by trivial⟩
                  case measure => simp [intOf]; omega
                · have hyb : ((y : Int) != 10) = true := by rw [bne_iff_ne]; omega
                  have HN := Lib.hid (show r + 1 + rmk ((bts S).drop (r + 1)) = q + rmk ((bts S).drop q) by
                    rw [← HRE.out, hyd]
                    have : rmk (y :: (bts S).drop (r + 1)) = 1 + rmk ((bts S).drop (r + 1)) := by
                      unfold rmk
                      rw [List.takeWhile_cons_of_pos (by simpa using hy10)]
                      simp only [List.length_cons]
                      omega
                    rw [this]
                    omega)
                  clear hyd hy10 hro
                  go_wp2
                  go_roundw
                  case rel => exact ⟨r + 1, by omega, by omega, by go_num, HN.out, .inl (by omega), by trivial⟩
                  case measure => simp [intOf]; omega
              · obtain rfl : r = S.size := by omega
                have HQ := Lib.hid (show S.size + sk ((bts S).drop S.size) = R by
                  have h0 : rmk ((bts S).drop S.size) = 0 := by rw [List.drop_of_length_le (by rw [bts_length]; exact Nat.le_refl _)]; rfl
                  have h1 := HRE.out
                  rw [h0, Nat.add_zero] at h1
                  have h2 := HM.out
                  rw [← h1] at h2
                  exact h2)
                clear hro
                go_wp2
                go_roundw
                case rel => exact ⟨S.size, by omega, rfl, HQ.out, by trivial⟩
                case measure => simp [intOf]; omega
          · have bd : ((d : Int) == 45) = false := beq_no13 (by omega)
            have HQ := Lib.hid (show q = R by rw [← HE.out, HD.out, sk_no HNB.out (fun h => hd45 (by rw [← HH2.out]; exact h.2))]; rfl)
            clear hd45 HH2
            go_wp2_with fail
            refine (HAT2.out _).mono ?_
            rintro e w3 ⟨rfl, rfl⟩
            go_wp2
            go_ret
            exact ⟨rint13 (by rw [HQ.out]), rfl⟩
        · have b5 : ((c : Int) == 45) = false := beq_no13 (by omega)
          have HQ := Lib.hid (show q = R by rw [← HE.out, HD.out, sk_no HNB.out (fun h => h45 h.1)]; rfl)
          clear h45 HH
          go_wp2
          go_ret
          exact ⟨rint13 (by rw [HQ.out]), rfl⟩
    · obtain rfl : q = S.size := by omega
      have HQ := Lib.hid (show S.size = R by rw [← HE.out, List.drop_of_length_le (by rw [bts_length]; exact Nat.le_refl _)]; rfl)
      go_wp2
      go_ret
      exact ⟨rint13 (by rw [← HQ.out]), rfl⟩
end Go.Proofs.YtibnmkjabpoppaaDoor
