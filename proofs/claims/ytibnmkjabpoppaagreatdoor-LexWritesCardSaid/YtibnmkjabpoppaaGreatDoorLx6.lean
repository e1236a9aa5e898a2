/- Layer 13: the tables of words and signs; signOf, isWord. Conditions: those of each lemma. -/
import Derived.Test.YtibnmkjabpoppaaGreatDoorLx5
namespace Go.Proofs.YtibnmkjabpoppaaGreatDoor
open Go Go.RowKit
set_option linter.unusedVariables false
set_option linter.unusedSimpArgs false
def signsB : List ByteArray := ⟨#[60, 62]⟩ :: ⟨#[60, 61]⟩ :: ⟨#[62, 61]⟩ :: ⟨#[124, 124]⟩ :: ⟨#[40]⟩ :: ⟨#[41]⟩ :: ⟨#[44]⟩ :: ⟨#[46]⟩ :: ⟨#[42]⟩ :: ⟨#[43]⟩ :: ⟨#[45]⟩ :: ⟨#[47]⟩ :: ⟨#[37]⟩ :: ⟨#[61]⟩ :: ⟨#[60]⟩ :: ⟨#[62]⟩ :: ⟨#[59]⟩ :: []
def wordsB : List ByteArray := ⟨#[65, 78, 68]⟩ :: ⟨#[65, 83]⟩ :: ⟨#[66, 69, 71, 73, 78]⟩ :: ⟨#[66, 76, 79, 66]⟩ :: ⟨#[66, 89]⟩ :: ⟨#[67, 79, 77, 77, 73, 84]⟩ :: ⟨#[67, 79, 85, 78, 84]⟩ :: ⟨#[67, 82, 69, 65, 84, 69]⟩ :: ⟨#[68, 69, 76, 69, 84, 69]⟩ :: ⟨#[68, 69, 83, 67]⟩ :: ⟨#[68, 82, 79, 80]⟩ :: ⟨#[70, 82, 79, 77]⟩ :: ⟨#[71, 82, 79, 85, 80]⟩ :: ⟨#[72, 65, 86, 73, 78, 71]⟩ :: ⟨#[73, 78, 68, 69, 88]⟩ :: ⟨#[73, 78, 83, 69, 82, 84]⟩ :: ⟨#[73, 78, 84, 69, 71, 69, 82]⟩ :: ⟨#[73, 78, 84, 79]⟩ :: ⟨#[73, 83]⟩ :: ⟨#[74, 79, 73, 78]⟩ :: ⟨#[75, 69, 89]⟩ :: ⟨#[76, 73, 77, 73, 84]⟩ :: ⟨#[77, 65, 88]⟩ :: ⟨#[77, 73, 78]⟩ :: ⟨#[78, 79, 84]⟩ :: ⟨#[78, 85, 76, 76]⟩ :: ⟨#[79, 78]⟩ :: ⟨#[79, 82]⟩ :: ⟨#[79, 82, 68, 69, 82]⟩ :: ⟨#[80, 82, 73, 77, 65, 82, 89]⟩ :: ⟨#[82, 69, 76, 69, 65, 83, 69]⟩ :: ⟨#[82, 79, 76, 76, 66, 65, 67, 75]⟩ :: ⟨#[83, 65, 86, 69, 80, 79, 73, 78, 84]⟩ :: ⟨#[83, 69, 76, 69, 67, 84]⟩ :: ⟨#[83, 69, 84]⟩ :: ⟨#[83, 85, 77]⟩ :: ⟨#[84, 65, 66, 76, 69]⟩ :: ⟨#[84, 69, 88, 84]⟩ :: ⟨#[84, 79]⟩ :: ⟨#[85, 78, 73, 81, 85, 69]⟩ :: ⟨#[85, 80, 68, 65, 84, 69]⟩ :: ⟨#[86, 65, 76, 85, 69, 83]⟩ :: ⟨#[87, 72, 69, 82, 69]⟩ :: []
theorem gn_sg : Tryz.prog.globalNamed "counterfoil/lex.signs" = some 1 := by kernel_rfl
theorem gn_wd : Tryz.prog.globalNamed "counterfoil/lex.words" = some 0 := by kernel_rfl
/-- the two tables stand -/
def Tb (W : World) : Prop := W.var? Tryz.prog "counterfoil/lex.signs" = some (signsB.map Value.string).toArray ∧ W.var? Tryz.prog "counterfoil/lex.words" = some (wordsB.map Value.string).toArray
theorem var_bel {n : String} {g : Nat} {cs : Array Value} {w w' : World} (hg : Tryz.prog.globalNamed n = some g) (h : w.var? Tryz.prog n = some cs) (hb : Below w.heap.size w w') : w'.var? Tryz.prog n = some cs := by
  unfold World.var? at h ⊢
  rw [hg] at h ⊢
  simp only [Option.bind_some] at h ⊢
  have hlt : g < w.heap.size := by
    rcases Nat.lt_or_ge g w.heap.size with h' | h'
    · exact h'
    · rw [Array.getElem?_eq_none h'] at h; cases h
  rw [hb.block g hlt]
  exact h
theorem tb_step {W W' : World} (h : Tb W) (hb : Below W.heap.size W W') : Tb W' := ⟨var_bel gn_sg h.1 hb, var_bel gn_wd h.2 hb⟩
theorem tb_sg {W : World} (h : Tb W) {i : Nat} {x : ByteArray} (hx : signsB[i]? = some x) : W.cell? ⟨1, i, none⟩ = some (.string x) := by
  have c := World.var?_cell gn_sg h.1 i
  simpa [hx] using c
theorem tb_wd {W : World} (h : Tb W) {i : Nat} {x : ByteArray} (hx : wordsB[i]? = some x) : W.cell? ⟨0, i, none⟩ = some (.string x) := by
  have c := World.var?_cell gn_wd h.2 i
  simpa [hx] using c
def preB (s x : ByteArray) : Bool := Lib.hasPrefix s.data.toList x.data.toList
/-- the first of some texts that a text begins with -/
def sgn (l : List ByteArray) (s : ByteArray) : ByteArray := (l.find? (preB s)).getD ⟨#[]⟩
theorem sgn_yes {l : List ByteArray} {s x : ByteArray} {j : Nat} (hx : l[j]? = some x) (h : preB s x = true) : sgn (l.drop j) s = x := by
  have hl : j < l.length := by
    rcases Nat.lt_or_ge j l.length with h' | h'
    · exact h'
    · rw [List.getElem?_eq_none h'] at hx; cases hx
  rw [List.getElem?_eq_getElem hl] at hx
  simp only [Option.some.injEq] at hx
  rw [List.drop_eq_getElem_cons hl, hx]
  unfold sgn
  rw [List.find?_cons_of_pos h]
  rfl
theorem sgn_no {l : List ByteArray} {s x : ByteArray} {j : Nat} (hx : l[j]? = some x) (h : preB s x = false) : sgn (l.drop j) s = sgn (l.drop (j + 1)) s := by
  have hl : j < l.length := by
    rcases Nat.lt_or_ge j l.length with h' | h'
    · exact h'
    · rw [List.getElem?_eq_none h'] at hx; cases hx
  rw [List.getElem?_eq_getElem hl] at hx
  simp only [Option.some.injEq] at hx
  rw [List.drop_eq_getElem_cons hl, hx]
  unfold sgn
  rw [List.find?_cons_of_neg (by rw [h]; decide)]
set_option maxRecDepth 100000 in
set_option maxHeartbeats 8000000 in
theorem signOf_any (s : ByteArray) (w : World) (h : Tb w) : Calls Tryz.prog 23 #[.string s] w fun e w' => e = .returned (.string (sgn signsB s)) ∧ w = w' := by
  have HT := Lib.hid h
  have HP := Lib.hid (fun x W => Tryz.strings_HasPrefix s x W)
  obtain ⟨R, hR⟩ : ∃ R, sgn signsB s = R := ⟨_, rfl⟩
  have HR := Lib.hid hR
  rw [hR]
  clear hR h
  go_enter Tryz.func23, Tryz.ntmps23
  go_wp2
  go_loopw [4] (fun i wr => ∃ j : Nat, j ≤ 17 ∧ i = .int .i64 j ∧ sgn (signsB.drop j) s = R ∧ wr = w) (fun i _ => 17 - (intOf i).toNat)
  case atStart => exact ⟨0, by omega, rfl, HR.out, rfl⟩
  case round =>
    clear HR
    obtain ⟨j, hj, rfl, hE, rfl⟩ := hrel
    have HE := Lib.hid hE
    clear hE
    by_cases hlt : j < 17
    · have hI : (j : Int) < 17 := by omega
      obtain ⟨x, hx⟩ : ∃ x, signsB[j]? = some x := ⟨_, List.getElem?_eq_getElem (by simpa [signsB] using hlt)⟩
      have cx := tb_sg HT.out hx
      obtain ⟨b, hb⟩ : ∃ b, preB s x = b := ⟨_, rfl⟩
      have hp := fun W => HP.out x W
      have hb' : Lib.hasPrefix s.data.toList x.data.toList = b := hb
      rw [hb'] at hp
      have HPX := Lib.hid hp
      clear hp hb'
      cases b with
      | true =>
        have HQ := Lib.hid (show x = R by rw [← HE.out, sgn_yes hx hb])
        clear hx hb
        go_wp2_with fail
        refine (HPX.out _).mono ?_
        rintro e w2 ⟨rfl, rfl⟩
        go_wp2
        go_ret
        exact ⟨by rw [← HQ.out]; rfl, rfl⟩
      | false =>
        have HQ := Lib.hid (show sgn (signsB.drop (j + 1)) s = R by rw [← HE.out, sgn_no hx hb])
        clear hx hb
        go_wp2_with fail
        refine (HPX.out _).mono ?_
        rintro e w2 ⟨rfl, rfl⟩
        go_wp2
        go_roundw
        case rel => exact ⟨j + 1, by omega, by go_num, HQ.out, by trivial⟩
        case measure => simp [intOf]; omega
    · obtain rfl : j = 17 := by omega
      have HQ := Lib.hid (show (⟨#[]⟩ : ByteArray) = R by rw [← HE.out]; rfl)
      go_wp2
      go_ret
      exact ⟨by rw [← HQ.out]; rfl, rfl⟩
/-- is a text one of some? -/
def isIn (l : List ByteArray) (s : ByteArray) : Bool := l.any (fun x => x.data.toList == s.data.toList)
theorem has_yes {l : List ByteArray} {s x : ByteArray} {j : Nat} (hx : l[j]? = some x) (h : x = s) : isIn (l.drop j) s = true := by
  subst h
  have hl : j < l.length := by
    rcases Nat.lt_or_ge j l.length with h' | h'
    · exact h'
    · rw [List.getElem?_eq_none h'] at hx; cases hx
  rw [List.getElem?_eq_getElem hl] at hx
  simp only [Option.some.injEq] at hx
  rw [List.drop_eq_getElem_cons hl, hx]
  unfold isIn
  simp
theorem has_no {l : List ByteArray} {s x : ByteArray} {j : Nat} (hx : l[j]? = some x) (h : ¬ x = s) : isIn (l.drop j) s = isIn (l.drop (j + 1)) s := by
  have hl : j < l.length := by
    rcases Nat.lt_or_ge j l.length with h' | h'
    · exact h'
    · rw [List.getElem?_eq_none h'] at hx; cases hx
  rw [List.getElem?_eq_getElem hl] at hx
  simp only [Option.some.injEq] at hx
  rw [List.drop_eq_getElem_cons hl, hx]
  have h2 : ¬ x.data.toList = s.data.toList := fun e => h (ByteArray.ext (Array.ext' e))
  unfold isIn
  rw [List.any_cons, beq_false_of_ne h2, Bool.false_or]
set_option maxRecDepth 100000 in
set_option maxHeartbeats 8000000 in
theorem isWord_any (s : ByteArray) (w : World) (h : Tb w) : Calls Tryz.prog 19 #[.string s] w fun e w' => e = .returned (.bool (isIn wordsB s)) ∧ w = w' := by
  have HT := Lib.hid h
  obtain ⟨R, hR⟩ : ∃ R, isIn wordsB s = R := ⟨_, rfl⟩
  have HR := Lib.hid hR
  rw [hR]
  clear hR h
  go_enter Tryz.func19, Tryz.ntmps19
  go_wp2
  go_loopw [4] (fun i wr => ∃ j : Nat, j ≤ 43 ∧ i = .int .i64 j ∧ isIn (wordsB.drop j) s = R ∧ wr = w) (fun i _ => 43 - (intOf i).toNat)
  case atStart => exact ⟨0, by omega, rfl, HR.out, rfl⟩
  case round =>
    clear HR
    obtain ⟨j, hj, rfl, hE, rfl⟩ := hrel
    have HE := Lib.hid hE
    clear hE
    by_cases hlt : j < 43
    · have hI : (j : Int) < 43 := by omega
      obtain ⟨x, hx⟩ : ∃ x, wordsB[j]? = some x := ⟨_, List.getElem?_eq_getElem (by simpa [wordsB] using hlt)⟩
      have cx := tb_wd HT.out hx
      by_cases hb : x = s
      · have HQ := Lib.hid (show true = R by rw [← HE.out, has_yes hx hb])
        clear hx
        subst hb
        go_wp2
        go_ret
        exact ⟨by rw [← HQ.out]; rfl, rfl⟩
      · have HQ := Lib.hid (show isIn (wordsB.drop (j + 1)) s = R by rw [← HE.out, has_no hx hb])
        have hb2 : ¬ x.toList = s.toList := fun e => hb (str_ext e)
        have hsc : (x.toList == s.toList) = false := by rw [beq_eq_false_iff_ne]; exact hb2
        clear hx
        go_wp2
        go_roundw
        case rel => exact ⟨j + 1, by omega, by go_num, HQ.out, by trivial⟩
        case measure => simp [intOf]; omega
    · obtain rfl : j = 43 := by omega
      have HQ := Lib.hid (show false = R by rw [← HE.out]; rfl)
      go_wp2
      go_ret
      exact ⟨by rw [← HQ.out]; rfl, rfl⟩
end Go.Proofs.YtibnmkjabpoppaaGreatDoor
