/- key.Take, key.First. Condition: the text has no more than a million bytes. -/
import Derived.Test.YtibaacklcdknnaaDoorProg
import Derived.Test.YtibaacklcdknnaaDoorKey4
import Derived.Test.YtibaacklcdknnaaDoorRows2
namespace Go.Proofs.YtibaacklcdknnaaDoor
open Go.RowKit
set_option linter.unusedVariables false
theorem oneT_le {L : List Nat} {v : Val} {k : Nat} (h : oneT L = some (v, k)) : 1 ≤ k ∧ k ≤ L.length := by
  unfold oneT at h
  split at h
  · cases h
  · rename_i c r
    split at h
    · simp only [Option.some.injEq, Prod.mk.injEq] at h
      obtain ⟨_, rfl⟩ := h
      simp
    · split at h
      · split at h
        · cases h
        · simp only [Option.some.injEq, Prod.mk.injEq] at h
          obtain ⟨_, rfl⟩ := h
          simp; omega
      · split at h
        · split at h
          · rename_i t k' htf
            split at h
            · simp only [Option.some.injEq, Prod.mk.injEq] at h
              obtain ⟨_, rfl⟩ := h
              obtain ⟨_, e2, e3, _⟩ := textF_some _ r (Nat.le_refl _) t k' htf
              simp; omega
            · cases h
          · cases h
        · cases h
theorem takeKA_fuel : ∀ (n : Nat) (L : List Nat) (f g : Nat), L.length ≤ n → L.length < f → L.length < g → takeKA f L = takeKA g L
  | n, L, 0, g, _, hf, _ => by omega
  | n, L, f + 1, 0, _, _, hg => by omega
  | n, L, f + 1, g + 1, hn, hf, hg => by
    unfold takeKA
    by_cases h0 : L = []
    · rw [if_pos h0, if_pos h0]
    · rw [if_neg h0, if_neg h0]
      cases ho : oneT L with
      | none => rfl
      | some p =>
        obtain ⟨v, k⟩ := p
        obtain ⟨k1, k2⟩ := oneT_le ho
        match n with
        | 0 => omega
        | n + 1 =>
          simp only
          rw [takeKA_fuel n (L.drop k) f g (by rw [List.length_drop]; omega) (by rw [List.length_drop]; omega) (by rw [List.length_drop]; omega)]
theorem takeK_nil : takeK [] = some [] := rfl
theorem takeK_none {L : List Nat} (h0 : L ≠ []) (h : oneT L = none) : takeK L = none := by
  unfold takeK takeKA
  rw [if_neg h0, h]
theorem takeK_step {L : List Nat} {v : Val} {k : Nat} (h0 : L ≠ []) (h : oneT L = some (v, k)) : takeK L = (takeK (L.drop k)).map (v :: ·) := by
  obtain ⟨k1, k2⟩ := oneT_le h
  have e : takeK L = (takeKA L.length (L.drop k)).map (v :: ·) := by
    show takeKA (L.length + 1) L = _
    rw [takeKA, if_neg h0, h]
  rw [e]
  unfold takeK
  rw [takeKA_fuel (L.drop k).length (L.drop k) L.length ((L.drop k).length + 1) (Nat.le_refl _) (by rw [List.length_drop]; omega) (by omega)]
theorem oneT_fits {L : List Nat} (hl : ∀ x ∈ L, x < 256) {v : Val} {k : Nat} (h : oneT L = some (v, k)) : Fits v ∧ chk v = 0 := by
  unfold oneT at h
  split at h
  · cases h
  · rename_i c r
    have hc := hl c (by simp)
    split at h
    · simp only [Option.some.injEq, Prod.mk.injEq] at h
      obtain ⟨rfl, _⟩ := h
      exact ⟨⟨by simp, by simp, by simp, by simp⟩, by decide⟩
    · split at h
      · split at h
        · cases h
        · rename_i h8
          simp only [Option.some.injEq, Prod.mk.injEq] at h
          obtain ⟨rfl, _⟩ := h
          have hv := val_lt 0 (r.take 8) (fun x hx => hl x (by simp [List.mem_of_mem_take hx]))
          rw [List.length_take, Nat.min_eq_left (by omega)] at hv
          have e256 : (256 : Nat) ^ 8 = 18446744073709551616 := by decide
          rw [e256] at hv
          refine ⟨⟨by simp, by simp, by simp only; omega, by simp only; omega⟩, ?_⟩
          unfold chk
          simp [bstr_size]
      · split at h
        · rename_i hc34
          split at h
          · rename_i t k' htf
            split at h
            · rename_i ht
              simp only [Option.some.injEq, Prod.mk.injEq] at h
              obtain ⟨rfl, _⟩ := h
              exact ⟨⟨by simp only; omega, by simp only; omega, by simp, by simp⟩, by rw [chk_text c _ hc34, bstr_size, if_neg (by omega)]⟩
            · cases h
          · cases h
        · cases h
/-- what the loop of Take tells -/
def TakenP (L : List Nat) (w : World) (e : Ending) (w' : World) : Prop := Below w.heap.size w w' ∧
  ((takeK L = none ∧ e = .returned (.tuple #[.slice none 0 0, .bool false])) ∨
   (∃ (l : List Val) (A : Option Addr) (c : Nat), takeK L = some l ∧ e = .returned (.tuple #[.slice A l.length c, .bool true]) ∧ Vals w' w'.heap.size A l ∧ (∀ x ∈ l, Fits x ∧ chk x = 0) ∧ l.length ≤ L.length ∧ l.length ≤ c))
abbrev oneV : Value := .func (.func 13) #[] #[]
set_option maxRecDepth 100000 in
set_option maxHeartbeats 4000000 in
theorem taken_any (s : ByteArray) (w : World) (hs : s.size ≤ 1000000) : Calls Tryd.prog 12 #[.string s, oneV] w (TakenP (bts s) w) := by
  obtain ⟨iv, hv1, hv2, hv3, hv4⟩ := info_parts (show (Tryd.prog.info? 31).map (fun i => (i.zero, i.size, i.bytes)) = some (some (.agg #[.int .u8 0, .int .i64 0, .string ⟨#[]⟩]), 3, 32) by kernel_rfl)
  have HSZ := Lib.hid hs
  clear hs
  go_enter Tryd.func12, Tryd.ntmps12
  go_wp2
  go_loopw [0, 6] (fun x v wr => ∃ (S : ByteArray) (acc : List Val), x = .string S ∧ S.size + acc.length ≤ s.size ∧ takeK (bts s) = (takeK (bts S)).map (acc ++ ·) ∧ (∀ x ∈ acc, Fits x ∧ chk x = 0) ∧ wr.ownsRow w.heap.size 31 3 v acc.length (valCs acc) ∧ Below w.heap.size w wr) (fun x _ _ => match x with | .string S => S.size | _ => 0)
  case atStart => exact ⟨s, [], rfl, by simp, by cases takeK (bts s) <;> simp, (fun x hx => by cases hx), World.ownsRow_nil _ _ _ _, Below.refl _ _⟩
  case round =>
    obtain ⟨S, acc, rfl, hsz, heq, hfit, hown, hb⟩ := hrel
    obtain ⟨A, c, rfl⟩ := own_form hown
    by_cases h0 : S.size = 0
    · obtain rfl := empty_of h0
      rw [bts_nil, takeK_nil] at heq
      have hP : TakenP (bts s) w (.returned (.tuple #[.slice A acc.length c, .bool true])) wr := ⟨hb, .inr ⟨acc, A, c, by rw [heq]; simp, rfl, vals_of_own hown rfl, hfit, by rw [bts_length]; omega, own_cap hown⟩⟩
      have HP := Lib.hid hP
      rw [show (bstr [] : ByteArray) = ⟨#[]⟩ from rfl] at *
      clear heq hfit hown hb hP hsz h0
      go_wp2
      go_ret2
      exact HP.out
    · have hne : bts S ≠ [] := fun e => h0 (by have := bts_length S; rw [e] at this; simpa using this.symm)
      have hs1 := str_no h0
      have hs2 : S.toList.isEmpty = false := by
        cases hh : S.toList with
        | nil => exact absurd hh hs1
        | cons a l => rfl
      have hc1 := one_any S wr (by have := HSZ.out; omega)
      have HC1 := Lib.hid hc1
      have HO := Lib.hid hown
      have HB := Lib.hid hb
      have HF := Lib.hid hfit
      have HEQ := Lib.hid heq
      have HNE := Lib.hid hne
      have hal : acc.length ≤ 1000000 := by have := HSZ.out; omega
      have HSS := Lib.hid hsz
      clear hc1 hown hb hfit heq hne h0 hsz
      go_wp2_with fail
      refine (HC1.out).mono ?_
      rintro e w2 ⟨hb2, ⟨⟨k, q, y⟩, sz, hone, rfl⟩ | ⟨hone, ⟨k, q, y⟩, sz, rfl⟩⟩
      · obtain ⟨k1, k2⟩ := oneT_le hone
        rw [bts_length] at k2
        have hft := oneT_fits (bts_lt S) hone
        have hst := takeK_step HNE.out hone
        have hbv : Below wr.heap.size wr (w2.alloc (.cells #[.int .u8 k, .int .i64 q, .string y] 31)) := hb2.alloc hb2.size _
        have hbw := hbv.alloc hbv.size (.cells #[.int .u8 k, .int .i64 q, .string y] 31)
        have hown2 := own_below HO.out hbw
        have hrd := reads3g (w2.alloc (.cells #[.int .u8 k, .int .i64 q, .string y] 31)) (w2.heap.size + 1) (k, q, y) 31 (by simp)
        have hB2 := bj HB.out hbw
        have HB2 := Lib.hid hB2
        have HBS := Lib.hid hB2.size
        have HO2 := Lib.hid hown2
        have hx := bts_cutr S sz
        have HST := Lib.hid (show takeK (bts s) = (takeK (bts (S.extract sz S.size))).map ((acc ++ [(k, q, y)]) ++ ·) by
          rw [HEQ.out, hst, hx]
          cases takeK ((bts S).drop sz) <;> simp)
        have HSS2 := Lib.hid (show (S.extract sz S.size).size + (acc ++ [(k, q, y)]).length ≤ s.size ∧ (S.extract sz S.size).size < S.size by
          have := HSS.out
          rw [ByteArray.size_extract, List.length_append]; simp; omega)
        have k2I : (sz : Int) ≤ S.size := by omega
        have HFT := Lib.hid hft
        clear hft hst hbv hbw hown2 hB2 hx hone k1 k2
        go_wp2_with (at_builtin; refine wpList_append_any _ rfl (.tmp 21) (.tmp 23) 24 rfl w.heap.size 31 iv _ 3 32 Tryd.underlying24 hv1 hv2 hv3 hv4 rfl (by omega) _ acc.length (valCs acc) rfl HO2.out (w2.heap.size + 1 + 1) (some ⟨w2.heap.size + 1, 0, none⟩) 1 1 [Value.int .u8 k, .int .i64 q, .string y] rfl hrd (by intro u hu; simp at hu; rcases hu with rfl | rfl | rfl <;> rfl) (by simp only [maxLen]; omega) (by omega) HBS.out ?_; intro v1 w4 hown1 hg1 hat1; obtain ⟨A1, c1, rfl⟩ := own_form hown1; (have HB4 := Lib.hid (HB2.out.grown hg1 HB2.out.size (fun z hz => (HO2.out.lt z hz).1))); (have HO4 := Lib.hid hown1); clear hown1 hg1 hat1 hrd)
        go_wp2
        go_roundw
        case rel =>
          refine ⟨_, acc ++ [(k, q, y)], rfl, HSS2.out.1, HST.out, fun z hz => ?_, by rw [valCs_snoc, List.length_append]; exact HO4.out, HB4.out⟩
          rcases List.mem_append.1 hz with hz | hz
          · exact HF.out z hz
          · rw [List.mem_singleton.1 hz]; exact HFT.out
        case measure => exact HSS2.out.2
      · have hP : TakenP (bts s) w (.returned (.tuple #[.slice none 0 0, .bool false])) (w2.alloc (.cells #[.int .u8 k, .int .i64 q, .string y] 31)) :=
          ⟨(bj HB.out hb2).alloc (bj HB.out hb2).size _, .inl ⟨by rw [HEQ.out, takeK_none HNE.out hone]; rfl, rfl⟩⟩
        have HP := Lib.hid hP
        clear hP hone hb2
        go_wp2
        go_ret2
        exact HP.out
end Go.Proofs.YtibaacklcdknnaaDoor
