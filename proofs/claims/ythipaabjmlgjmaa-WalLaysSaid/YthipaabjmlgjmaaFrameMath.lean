/- Plain mathematics of heads and frames: what is put is taken, what is taken was put, one block that is another one is seen. Conditions: those of each lemma. -/
import Derived.Test.YthipaabjmlgjmaaFramePut
import Derived.Test.YthipaabjmlgjmaaSumDiff
import Derived.Test.YthipaabjmlgjmaaSumJoin
namespace Go.Proofs.Ythipaabjmlgjmaa
theorem four_val (a b c d : Nat) (ha : a < 256) (hb : b < 256) (hc : c < 256) (hd : d < 256) : fourL (val 0 [a, b, c, d]) = [a, b, c, d] := by
  simp only [fourL, val, List.foldl]
  congr 1
  · omega
  · congr 1
    · omega
    · congr 1
      · omega
      · congr 1; omega
theorem len4 {L : List Nat} (h : L.length = 4) : ∃ a b c d, L = [a, b, c, d] := by
  match L, h with
  | [a, b, c, d], _ => exact ⟨a, b, c, d, rfl⟩
theorem fourL_val {L : List Nat} (h : L.length = 4) (hl : ∀ x ∈ L, x < 256) : fourL (val 0 L) = L := by
  obtain ⟨a, b, c, d, rfl⟩ := len4 h
  exact four_val a b c d (hl _ (by simp)) (hl _ (by simp)) (hl _ (by simp)) (hl _ (by simp))
theorem val_app (A B : List Nat) (acc : Nat) : val acc (A ++ B) = val (val acc A) B := by unfold val; rw [List.foldl_append]
theorem val4_acc (acc a b c d : Nat) : val acc [a, b, c, d] = acc * 4294967296 + val 0 [a, b, c, d] := by simp only [val, List.foldl]; omega
theorem val4_lt {L : List Nat} (h : L.length = 4) (hl : ∀ x ∈ L, x < 256) : val 0 L < 4294967296 := by
  obtain ⟨a, b, c, d, rfl⟩ := len4 h
  have ha := hl a (by simp)
  have hb := hl b (by simp)
  have hc := hl c (by simp)
  have hd := hl d (by simp)
  simp only [val, List.foldl]; omega
theorem val8_split {L : List Nat} (h : L.length = 8) : val 0 L = val 0 (L.take 4) * 4294967296 + val 0 ((L.drop 4).take 4) := by
  have e : L = L.take 4 ++ (L.drop 4).take 4 := by
    rw [List.take_of_length_le (l := L.drop 4) (by rw [List.length_drop]; omega), List.take_append_drop]
  obtain ⟨a, b, c, d, he⟩ := len4 (L := (L.drop 4).take 4) (by rw [List.length_take, List.length_drop]; omega)
  conv => lhs; rw [e]
  rw [val_app, he, val4_acc]
theorem mem_cut {L : List Nat} (hl : ∀ x ∈ L, x < 256) (i k : Nat) : ∀ x ∈ (L.drop i).take k, x < 256 := fun x hx => hl x (List.mem_of_mem_drop (List.mem_of_mem_take hx))
theorem len_cut {L : List Nat} {i k : Nat} (h : i + k ≤ L.length) : ((L.drop i).take k).length = k := by rw [List.length_take, List.length_drop]; omega
theorem eightL_val {L : List Nat} (h : L.length = 8) (hl : ∀ x ∈ L, x < 256) : eightL (val 0 L) = L ∧ val 0 L < 18446744073709551616 := by
  have h1 : (L.take 4).length = 4 := by rw [List.length_take]; omega
  have h2 : ((L.drop 4).take 4).length = 4 := len_cut (by omega)
  have l1 : ∀ x ∈ L.take 4, x < 256 := fun x hx => hl x (List.mem_of_mem_take hx)
  have l2 := mem_cut hl 4 4
  have v1 := val4_lt h1 l1
  have v2 := val4_lt h2 l2
  have f1 := fourL_val h1 l1
  have f2 := fourL_val h2 l2
  rw [val8_split h]
  generalize val 0 (L.take 4) = x at *
  generalize val 0 ((L.drop 4).take 4) = y at *
  have e1 : (x * 4294967296 + y) / 4294967296 = x := by omega
  have e2 : (x * 4294967296 + y) % 4294967296 = y := by omega
  refine ⟨?_, by omega⟩
  unfold eightL
  rw [e1, e2, f1, f2, List.take_of_length_le (l := L.drop 4) (by rw [List.length_drop]; omega), List.take_append_drop]
theorem val_fourL {n : Nat} (h : n < 4294967296) : val 0 (fourL n) = n := by simp only [fourL, val, List.foldl]; omega
theorem val_eightL {n : Nat} (h : n < 18446744073709551616) : val 0 (eightL n) = n := by
  unfold eightL
  rw [val_app, val_fourL (by omega)]
  simp only [fourL]
  rw [val4_acc]
  have := val_fourL (n := n % 4294967296) (by omega)
  simp only [fourL] at this
  rw [this]; omega
theorem textL_inj {p q : Int × Int} (hp : Fit p) (hq : Fit q) (h : textL p.1 p.2 = textL q.1 q.2) : p = q := by
  obtain ⟨a, b⟩ := p
  obtain ⟨c, d⟩ := q
  unfold Fit at hp hq
  simp only at hp hq h
  have h1 := List.append_inj_left h (by rfl)
  have h2 := List.append_inj_right h (by rfl)
  have v1 := val_fourL (n := a.toNat) (by omega)
  have v2 := val_fourL (n := b.toNat) (by omega)
  have v3 := val_fourL (n := c.toNat) (by omega)
  have v4 := val_fourL (n := d.toNat) (by omega)
  rw [h1, v3] at v1
  rw [h2, v4] at v2
  simp only [Prod.mk.injEq]
  omega
theorem addL_inj {L : List Nat} {p q : Int × Int} (hp : Fit p) (hq : Fit q) : addL L p = addL L q ↔ p = q := by
  refine ⟨fun h => ?_, fun h => by rw [h]⟩
  rw [← backL_addL L p hp, h, backL_addL L q hq]
theorem fit0 : Fit (0, 0) := ⟨by omega, by omega, by omega, by omega⟩
-- heads
def thN (L : List Nat) : Nat := val 0 ((L.drop 8).take 8)
def thF (L : List Nat) : Nat := val 0 ((L.drop 16).take 4)
def thP (L : List Nat) : Nat := val 0 ((L.drop 20).take 4)
def thErr (L : List Nat) : Nat :=
  if L.length < 64 then 10
  else if ¬ (L.take 8 = nameL ∧ (L.drop 32).take 32 = List.replicate 32 0 ∧ thF L ≤ 256 ∧ thP L ≤ 256) then 11
  else if (L.drop 24).take 8 ≠ sumT (L.take 24) then 40 else 0
theorem th_ok {L : List Nat} (h : thErr L = 0) : 64 ≤ L.length ∧ L.take 8 = nameL ∧ (L.drop 32).take 32 = List.replicate 32 0 ∧ thF L ≤ 256 ∧ thP L ≤ 256 ∧ (L.drop 24).take 8 = sumT (L.take 24) := by
  unfold thErr at h
  by_cases h1 : L.length < 64
  · rw [if_pos h1] at h; omega
  · rw [if_neg h1] at h
    by_cases h2 : L.take 8 = nameL ∧ (L.drop 32).take 32 = List.replicate 32 0 ∧ thF L ≤ 256 ∧ thP L ≤ 256
    · rw [if_neg (by simpa using h2)] at h
      by_cases h3 : (L.drop 24).take 8 = sumT (L.take 24)
      · exact ⟨by omega, h2.1, h2.2.1, h2.2.2.1, h2.2.2.2, h3⟩
      · rw [if_pos h3] at h; omega
    · rw [if_pos h2] at h; omega
theorem parts64 (L : List Nat) : L.take 64 = L.take 24 ++ ((L.drop 24).take 8 ++ (L.drop 32).take 32) := by
  rw [show 64 = 24 + (8 + 32) from rfl, List.take_add, List.take_add, List.drop_drop]
theorem parts24 (L : List Nat) : L.take 24 = L.take 8 ++ ((L.drop 8).take 8 ++ ((L.drop 16).take 4 ++ (L.drop 20).take 4)) := by
  rw [show 24 = 8 + (8 + (4 + 4)) from rfl, List.take_add, List.take_add, List.take_add, List.drop_drop, List.drop_drop]
theorem th_form {L : List Nat} (hl : ∀ x ∈ L, x < 256) (h : thErr L = 0) : L.take 64 = headL (thN L) (thF L) (thP L) ∧ thN L < 18446744073709551616 := by
  obtain ⟨h1, h2, h3, h4, h5, h6⟩ := th_ok h
  have e1 := eightL_val (len_cut (L := L) (i := 8) (k := 8) (by omega)) (mem_cut hl 8 8)
  have e2 := fourL_val (len_cut (L := L) (i := 16) (k := 4) (by omega)) (mem_cut hl 16 4)
  have e3 := fourL_val (len_cut (L := L) (i := 20) (k := 4) (by omega)) (mem_cut hl 20 4)
  have ea : L.take 24 = headA (thN L) (thF L) (thP L) := by
    unfold headA thN thF thP
    rw [e1.1, e2, e3, parts24, h2, List.append_assoc, List.append_assoc]
  refine ⟨?_, e1.2⟩
  rw [parts64, h3, h6, ea]
  unfold headL
  rw [List.append_assoc]
theorem sumT_length (L : List Nat) : (sumT L).length = 8 := rfl
theorem headL_length (N F P : Nat) : (headL N F P).length = 64 := by unfold headL; rw [List.length_append, List.length_append, sumT_length, headA_length, List.length_replicate]
theorem drop_app {A B : List Nat} {k : Nat} (h : A.length = k) : (A ++ B).drop k = B := by subst h; simp
theorem take_app {A B : List Nat} {k : Nat} (h : A.length = k) : (A ++ B).take k = A := by subst h; simp
theorem head_parts (N F P : Nat) (M : List Nat) : (headL N F P ++ M).take 24 = headA N F P ∧ ((headL N F P ++ M).drop 24).take 8 = sumT (headA N F P) ∧ ((headL N F P ++ M).drop 32).take 32 = List.replicate 32 0 ∧ (headL N F P ++ M).take 8 = nameL ∧ thN (headL N F P ++ M) = val 0 (eightL N) ∧ thF (headL N F P ++ M) = val 0 (fourL F) ∧ thP (headL N F P ++ M) = val 0 (fourL P) := by
  have e : headL N F P ++ M = headA N F P ++ (sumT (headA N F P) ++ (List.replicate 32 0 ++ M)) := by unfold headL; simp only [List.append_assoc]
  have e2 : headA N F P ++ (sumT (headA N F P) ++ (List.replicate 32 0 ++ M)) = nameL ++ (eightL N ++ (fourL F ++ (fourL P ++ (sumT (headA N F P) ++ (List.replicate 32 0 ++ M))))) := by
    conv => lhs; lhs; unfold headA
    simp only [List.append_assoc]
  unfold thN thF thP
  rw [e]
  refine ⟨take_app rfl, ?_, ?_, ?_, ?_, ?_, ?_⟩
  · rw [drop_app (headA_length N F P)]; exact take_app rfl
  · rw [show 32 = 24 + 8 from rfl, ← List.drop_drop, drop_app (headA_length N F P), drop_app (sumT_length _)]; exact take_app (by rw [List.length_replicate])
  · rw [e2]; exact take_app rfl
  · rw [e2, drop_app (k := 8) rfl, take_app (k := 8) rfl]
  · rw [e2, show 16 = 8 + 8 from rfl, ← List.drop_drop, drop_app (k := 8) rfl, drop_app (k := 8) rfl, take_app (k := 4) rfl]
  · rw [e2, show 20 = 8 + (8 + 4) from rfl, ← List.drop_drop, ← List.drop_drop, drop_app (k := 8) rfl, drop_app (k := 8) rfl, drop_app (k := 4) rfl, take_app (k := 4) rfl]
theorem th_back {N F P : Nat} (M : List Nat) (hN : N < 18446744073709551616) (hF : F ≤ 256) (hP : P ≤ 256) :
    thErr (headL N F P ++ M) = 0 ∧ thN (headL N F P ++ M) = N ∧ thF (headL N F P ++ M) = F ∧ thP (headL N F P ++ M) = P := by
  obtain ⟨h1, h2, h3, h4, h5, h6, h7⟩ := head_parts N F P M
  rw [val_eightL hN] at h5
  rw [val_fourL (by omega)] at h6 h7
  refine ⟨?_, h5, h6, h7⟩
  unfold thErr
  rw [if_neg (by rw [List.length_append, headL_length]; omega), if_neg (by rw [h4, h3, h6, h7]; simp; omega), if_neg (by rw [h1, h2]; simp)]
-- frames
def fW (L : List Nat) (k : Nat) : Nat := val 0 ((L.drop (4 * k)).take 4)
def fSalt (L : List Nat) : Nat := val 0 ((L.drop 8).take 8)
def fD (L : List Nat) : List Nat := (L.drop 64).take 512
def fQ (p : Int × Int) (L : List Nat) : Int × Int := addL (fD L) (addL (L.take 16) p)
def fErr (p : Int × Int) (salt : Nat) (L : List Nat) : Nat :=
  if L.length < 576 then 10
  else if ¬ ((L.drop 24).take 40 = List.replicate 40 0 ∧ 0 < fW L 0 ∧ fW L 0 ≤ 256 ∧ fW L 1 ≤ 256) then 11
  else if fSalt L ≠ salt then 41
  else if fQ p L ≠ ((fW L 4 : Int), (fW L 5 : Int)) then 40 else 0
theorem f_ok {p : Int × Int} {salt : Nat} {L : List Nat} (h : fErr p salt L = 0) : 576 ≤ L.length ∧ (L.drop 24).take 40 = List.replicate 40 0 ∧ 0 < fW L 0 ∧ fW L 0 ≤ 256 ∧ fW L 1 ≤ 256 ∧ fSalt L = salt ∧ fQ p L = ((fW L 4 : Int), (fW L 5 : Int)) := by
  unfold fErr at h
  by_cases h1 : L.length < 576
  · rw [if_pos h1] at h; omega
  · rw [if_neg h1] at h
    by_cases h2 : (L.drop 24).take 40 = List.replicate 40 0 ∧ 0 < fW L 0 ∧ fW L 0 ≤ 256 ∧ fW L 1 ≤ 256
    · rw [if_neg (by simpa using h2)] at h
      by_cases h3 : fSalt L = salt
      · rw [if_neg (by simpa using h3)] at h
        by_cases h4 : fQ p L = ((fW L 4 : Int), (fW L 5 : Int))
        · exact ⟨by omega, h2.1, h2.2.1, h2.2.2.1, h2.2.2.2, h3, h4⟩
        · rw [if_pos h4] at h; omega
      · rw [if_pos h3] at h; omega
    · rw [if_pos h2] at h; omega
theorem parts576 (L : List Nat) : L.take 576 = L.take 16 ++ ((L.drop 16).take 8 ++ ((L.drop 24).take 40 ++ (L.drop 64).take 512)) := by
  rw [show 576 = 16 + (8 + (40 + 512)) from rfl, List.take_add, List.take_add, List.take_add, List.drop_drop, List.drop_drop]
theorem parts16 (L : List Nat) : L.take 16 = L.take 4 ++ ((L.drop 4).take 4 ++ (L.drop 8).take 8) := by
  rw [show 16 = 4 + (4 + 8) from rfl, List.take_add, List.take_add, List.drop_drop]
theorem parts8 (L : List Nat) (i : Nat) : (L.drop i).take 8 = (L.drop i).take 4 ++ (L.drop (i + 4)).take 4 := by
  rw [show 8 = 4 + 4 from rfl, List.take_add, List.drop_drop]
theorem f_form {p : Int × Int} {salt : Nat} {L : List Nat} (hl : ∀ x ∈ L, x < 256) (h : fErr p salt L = 0) : L.take 576 = frameL p (fW L 0) (fW L 1) salt (fD L) := by
  obtain ⟨h1, h2, h3, h4, h5, h6, h7⟩ := f_ok h
  have e0 := fourL_val (len_cut (L := L) (i := 0) (k := 4) (by omega)) (mem_cut hl 0 4)
  have e1 := fourL_val (len_cut (L := L) (i := 4) (k := 4) (by omega)) (mem_cut hl 4 4)
  have e2 := (eightL_val (len_cut (L := L) (i := 8) (k := 8) (by omega)) (mem_cut hl 8 8)).1
  have e4 := fourL_val (len_cut (L := L) (i := 16) (k := 4) (by omega)) (mem_cut hl 16 4)
  have e5 := fourL_val (len_cut (L := L) (i := 20) (k := 4) (by omega)) (mem_cut hl 20 4)
  have ea : L.take 16 = frameA (fW L 0) (fW L 1) salt := by
    rw [← h6]
    unfold frameA fW fSalt
    rw [show 4 * 0 = 0 from rfl, show 4 * 1 = 4 from rfl, e0, e1, e2, parts16, List.drop_zero, List.append_assoc]
  have eq : frameQ p (fW L 0) (fW L 1) salt (fD L) = ((fW L 4 : Int), (fW L 5 : Int)) := by
    rw [← h7]
    unfold frameQ fQ
    rw [ea]
  have et : (L.drop 16).take 8 = textL (fW L 4 : Int) (fW L 5 : Int) := by
    unfold textL fW
    rw [Int.toNat_natCast, Int.toNat_natCast, show 4 * 4 = 16 from rfl, show 4 * 5 = 20 from rfl, e4, e5, parts8]
  rw [parts576, h2, et, ea]
  unfold frameL
  rw [eq]
  simp only [List.append_assoc]
  rfl
theorem frameA_length (pg cm salt : Nat) : (frameA pg cm salt).length = 16 := rfl
theorem textL_length (a b : Int) : (textL a b).length = 8 := rfl
theorem frameL_length (p : Int × Int) (pg cm salt : Nat) (D : List Nat) (hD : D.length = 512) : (frameL p pg cm salt D).length = 576 := by
  unfold frameL; rw [List.length_append, List.length_append, List.length_append, textL_length, frameA_length, List.length_replicate, hD]
theorem frame_parts (p : Int × Int) (pg cm salt : Nat) (D M : List Nat) (hD : D.length = 512) :
    (frameL p pg cm salt D ++ M).take 16 = frameA pg cm salt ∧ ((frameL p pg cm salt D ++ M).drop 24).take 40 = List.replicate 40 0 ∧ fD (frameL p pg cm salt D ++ M) = D ∧ fSalt (frameL p pg cm salt D ++ M) = val 0 (eightL salt) ∧
    fW (frameL p pg cm salt D ++ M) 0 = val 0 (fourL pg) ∧ fW (frameL p pg cm salt D ++ M) 1 = val 0 (fourL cm) ∧ fW (frameL p pg cm salt D ++ M) 4 = val 0 (fourL (frameQ p pg cm salt D).1.toNat) ∧ fW (frameL p pg cm salt D ++ M) 5 = val 0 (fourL (frameQ p pg cm salt D).2.toNat) := by
  generalize hq : frameQ p pg cm salt D = q
  have e : frameL p pg cm salt D ++ M = frameA pg cm salt ++ (fourL q.1.toNat ++ (fourL q.2.toNat ++ (List.replicate 40 0 ++ (D ++ M)))) := by unfold frameL textL; rw [hq]; simp only [List.append_assoc]
  have e2 : frameA pg cm salt ++ (fourL q.1.toNat ++ (fourL q.2.toNat ++ (List.replicate 40 0 ++ (D ++ M)))) = fourL pg ++ (fourL cm ++ (eightL salt ++ (fourL q.1.toNat ++ (fourL q.2.toNat ++ (List.replicate 40 0 ++ (D ++ M)))))) := by
    conv => lhs; lhs; unfold frameA
    simp only [List.append_assoc]
  unfold fD fSalt fW
  rw [e]
  refine ⟨take_app rfl, ?_, ?_, ?_, ?_, ?_, ?_, ?_⟩
  · rw [show 24 = 16 + (4 + 4) from rfl, ← List.drop_drop, ← List.drop_drop, drop_app (k := 16) rfl, drop_app (k := 4) rfl, drop_app (k := 4) rfl]; exact take_app (by rw [List.length_replicate])
  · rw [show 64 = 16 + (4 + (4 + 40)) from rfl, ← List.drop_drop, ← List.drop_drop, ← List.drop_drop, drop_app (k := 16) rfl, drop_app (k := 4) rfl, drop_app (k := 4) rfl, drop_app (k := 40) (by rw [List.length_replicate])]; exact take_app hD
  · rw [e2, show 8 = 4 + 4 from rfl, ← List.drop_drop, drop_app (k := 4) rfl, drop_app (k := 4) rfl, take_app (k := 8) rfl]
  · rw [e2, show 4 * 0 = 0 from rfl, List.drop_zero, take_app (k := 4) rfl]
  · rw [e2, show 4 * 1 = 4 from rfl, drop_app (k := 4) rfl, take_app (k := 4) rfl]
  · rw [show 4 * 4 = 16 from rfl, drop_app (k := 16) rfl, take_app (k := 4) rfl]
  · rw [show 4 * 5 = 16 + 4 from rfl, ← List.drop_drop, drop_app (k := 16) rfl, drop_app (k := 4) rfl, take_app (k := 4) rfl]
theorem f_back {p p' : Int × Int} {pg cm salt salt' : Nat} {D : List Nat} (M : List Nat) (hp : Fit p) (hp' : Fit p') (hD : D.length = 512) (hs : salt < 18446744073709551616) (h0 : 0 < pg) (hpg : pg ≤ 256) (hcm : cm ≤ 256) :
    (fErr p' salt' (frameL p pg cm salt D ++ M) = 0 ↔ p' = p ∧ salt' = salt) ∧ fW (frameL p pg cm salt D ++ M) 0 = pg ∧ fW (frameL p pg cm salt D ++ M) 1 = cm ∧ fD (frameL p pg cm salt D ++ M) = D ∧ fQ p' (frameL p pg cm salt D ++ M) = frameQ p' pg cm salt D := by
  obtain ⟨h1, h2, h3, h4, h5, h6, h7, h8⟩ := frame_parts p pg cm salt D M hD
  have hq : Fit (frameQ p pg cm salt D) := fit_addL (fit_addL hp)
  rw [val_eightL hs] at h4
  rw [val_fourL (by omega)] at h5 h6
  have hq' := hq
  unfold Fit at hq'
  rw [val_fourL (by omega)] at h7 h8
  have h9 : fQ p' (frameL p pg cm salt D ++ M) = frameQ p' pg cm salt D := by unfold fQ frameQ; rw [h3, h1]
  refine ⟨?_, h5, h6, h3, h9⟩
  have hl : ¬ (frameL p pg cm salt D ++ M).length < 576 := by rw [List.length_append, frameL_length p pg cm salt D hD]; omega
  unfold fErr
  rw [if_neg hl, if_neg (by rw [h2, h5, h6]; simp; omega), h4, h7, h8, h9]
  have e : (((frameQ p pg cm salt D).1.toNat : Int), ((frameQ p pg cm salt D).2.toNat : Int)) = frameQ p pg cm salt D := by
    rw [Int.toNat_of_nonneg hq'.1, Int.toNat_of_nonneg hq'.2.2.1]
  rw [e]
  have hi : frameQ p' pg cm salt D = frameQ p pg cm salt D ↔ p' = p := by unfold frameQ; rw [addL_inj (fit_addL hp') (fit_addL hp), addL_inj hp' hp]
  by_cases hs' : salt = salt'
  · subst hs'
    rw [if_neg (by simp)]
    by_cases hpp : p' = p
    · rw [if_neg (by rw [hpp]; simp)]; simp [hpp]
    · rw [if_pos (fun h => hpp (hi.1 h))]; simp [hpp]
  · rw [if_pos hs']; simp; intro _ h; exact hs' h.symm
end Go.Proofs.Ythipaabjmlgjmaa
