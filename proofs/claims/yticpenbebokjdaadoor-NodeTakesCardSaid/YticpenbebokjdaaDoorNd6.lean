/- node.Put. Conditions: the cells stand, and are not too many. -/
import Derived.Test.YticpenbebokjdaaDoorNd5
import Derived.Shelf.Strings.Repeat
namespace Go.Proofs.YticpenbebokjdaaDoor
open Go.RowKit Go
set_option linter.unusedVariables false
set_option linter.unusedSimpArgs false
theorem ret_se {a b : ByteArray} (h : a = b) : Ending.returned (.tuple #[.string a, .int .i64 0]) = .returned (.tuple #[.string b, .int .i64 0]) := by rw [h]
def cellL (kind : Int) (c : Cl) : List Nat := numL c.key.size 1 ++ bts c.key ++ (if kind = 1 then numL c.size.toNat 2 ++ bts c.loc else []) ++ (if kind = 2 ∨ 100 < c.size then numL c.page.toNat 4 else [])
def cellsL (kind : Int) : List Cl → List Nat
  | [] => []
  | c :: l => cellL kind c ++ cellsL kind l
def headL (kind first : Int) (l : List Cl) (data : ByteArray) : List Nat := numL kind.toNat 1 ++ numL (l.length + data.size) 2 ++ (if kind = 1 then [] else numL first.toNat 4)
def nodeL (kind first : Int) (l : List Cl) (data : ByteArray) : List Nat := headL kind first l data ++ cellsL kind l ++ bts data
theorem bts_len (s : ByteArray) : (bts s).length = s.size := by first | exact bts_length s | simp [bts]
theorem cellL_length (kind : Int) (c : Cl) : (cellL kind c).length = cellZ kind c := by
  unfold cellL cellZ
  split <;> split <;> simp [numL_length, bts_len] <;> omega
theorem cellsL_length (kind : Int) : ∀ l : List Cl, (cellsL kind l).length = cellsZ kind l
  | [] => rfl
  | c :: l => by rw [cellsL, List.length_append, cellL_length, cellsL_length kind l, cellsZ_cons]
theorem headL_length (kind first : Int) (l : List Cl) (data : ByteArray) : (headL kind first l data).length + data.size = headZ kind data := by
  unfold headL headZ
  split <;> simp [numL_length] <;> omega
theorem cellsL_snoc (kind : Int) (c : Cl) : ∀ l : List Cl, cellsL kind (l ++ [c]) = cellsL kind l ++ cellL kind c
  | [] => by simp [cellsL]
  | x :: l => by simp [cellsL, cellsL_snoc kind c l]
/-- what Put answers -/
def putN (kind first : Int) (l : List Cl) (data : ByteArray) : ByteArray × Int :=
  if sizeZ kind first l data = 0 then (⟨#[]⟩, 2) else if 512 < sizeZ kind first l data then (⟨#[]⟩, 8) else (bstr (nodeL kind first l data ++ List.replicate (512 - (sizeZ kind first l data).toNat) 0), 0)
theorem put_v {B b : Nat} {L : List Nat} {X : BL} {w : World} (n k : Nat) (v u : Int) (hv : v = (n : Int)) (hu : u = (k : Int)) (h : Wk B b L X w) (hn : n ≤ 4294967295) (hk : k ≤ 4) (hlen : L.length + k ≤ 90000) :
    Calls Tryd.prog 20 #[.pointer (some ⟨b, 0, none⟩), .int .i64 v, .int .i64 u] w fun e w' => e = .returned (.tuple #[]) ∧ Wk B b (L ++ numL n k) X w' ∧ Below B w w' := by
  subst hv hu
  exact put_any B b L X n k w h hn hk hlen
set_option maxRecDepth 100000 in
set_option maxHeartbeats 8000000 in
theorem put_small (kind first : Int) (A : Option Addr) (l : List Cl) (n c : Nat) (data : ByteArray) (w : World) (hC : Cls w w.heap.size A l) (hn : n = l.length) (hm : n ≤ 1000000) (hz : sizeZ kind first l data = 0 ∨ 512 < sizeZ kind first l data) :
    Calls Tryd.prog 9 #[.agg #[.int .u8 kind, .int .i64 first, .slice A n c, .string data]] w fun e w' => e = .returned (.tuple #[.string (putN kind first l data).1, .int .i64 (putN kind first l data).2]) ∧ Below w.heap.size w w' := by
  have HM := Lib.hid (fun W (hb : Below w.heap.size w W) => size_any kind first A l n c data W (cls_step hC hb) hn hm)
  have HNB := Lib.hid (nb_new w kind first A n c data)
  have HV : Hid (putN kind first l data = (if sizeZ kind first l data = 0 then (⟨#[]⟩, 2) else (⟨#[]⟩, 8))) := Lib.hid (by
    unfold putN
    rcases hz with h | h
    · rw [if_pos h, if_pos h]
    · have hne : ¬ sizeZ kind first l data = 0 := by omega
      rw [if_neg hne, if_pos h, if_neg hne])
  rw [HV.out]
  generalize sizeZ kind first l data = z at *
  clear hn hC hm
  rcases hz with rfl | hz
  · rw [if_pos rfl]
    go_enter Tryd.func9, Tryd.ntmps9
    obtain ⟨c0, c1, c2, c3⟩ := cell4 HNB.out.1
    go_wp2_with fail
    refine (HM.out _ HNB.out.2).mono ?_
    rintro e w2 ⟨rfl, hb2⟩
    have HB := Lib.hid (nb_below HNB.out hb2).2
    clear c0 c1 c2 c3 hb2 HNB HM
    go_wp2
    go_ret2
    exact ⟨rfl, HB.out⟩
  · have hz0 := beq_no' (show z ≠ 0 by omega)
    rw [if_neg (by omega)]
    go_enter Tryd.func9, Tryd.ntmps9
    obtain ⟨c0, c1, c2, c3⟩ := cell4 HNB.out.1
    go_wp2_with fail
    refine (HM.out _ HNB.out.2).mono ?_
    rintro e w2 ⟨rfl, hb2⟩
    have HB := Lib.hid (nb_below HNB.out hb2).2
    clear c0 c1 c2 c3 hb2 HNB HM
    go_wp2
    go_ret2
    exact ⟨rfl, HB.out⟩
theorem rep_flat0 (n : Nat) : Lib.repeatL [(0 : UInt8)] n = (List.replicate n 0 : List Nat).map UInt8.ofNat := by
  induction n with
  | zero => rfl
  | succ n ih => simp [Lib.repeatL, List.replicate_succ] at ih ⊢; try exact ih
theorem rep0 (m : Nat) (W : World) (hm : m ≤ 512) : Calls Tryd.prog 10 #[.string ⟨#[0]⟩, .int .i64 (m : Int)] W fun e w' => e = .returned (.string (bstr (List.replicate m 0))) ∧ Below W.heap.size W w' := by
  have h := Tryd.strings_Repeat ⟨#[0]⟩ m W (by omega) (by rw [show (⟨#[0]⟩ : ByteArray).size = 1 from rfl]; omega)
  rw [show (⟨#[0]⟩ : ByteArray).data.toList = [0] from rfl, rep_flat0] at h
  exact h
theorem cellsZ_take (kind : Int) (l : List Cl) (j : Nat) : cellsZ kind (l.take j) ≤ cellsZ kind l := by
  have h : ∀ a b : List Cl, cellsZ kind (a ++ b) = cellsZ kind a + cellsZ kind b := by
    intro a b
    induction a with
    | nil => simp [cellsZ]
    | cons x a ih => rw [List.cons_append, cellsZ_cons, cellsZ_cons, ih]; omega
  have e := h (l.take j) (l.drop j)
  rw [List.take_append_drop] at e
  omega
/-- what is known of a leaf's, an inner page's cell -/
theorem leaf_in {c : Cl} (h : leafB c = true) : 0 ≤ c.size ∧ c.size ≤ 4000 ∧ (100 < c.size → 0 ≤ c.page ∧ c.page ≤ 256) := by
  unfold leafB at h
  split at h
  · cases h
  · rename_i h2
    refine ⟨by omega, by omega, fun h3 => ?_⟩
    rw [if_pos h3] at h
    unfold pageB at h
    simp only [Bool.and_eq_true, decide_eq_true_eq] at h
    omega
theorem inner_in {c : Cl} (h : innerB c = true) : 0 ≤ c.page ∧ c.page ≤ 256 := by
  unfold innerB pageB at h
  simp only [Bool.and_eq_true, decide_eq_true_eq] at h
  omega
theorem okL_all {f : Cl → Bool} : ∀ (l : List Cl) (p : Option ByteArray), okL f p l = true → ∀ c ∈ l, f c = true
  | [], _, _ => fun c hc => by cases hc
  | x :: l, p, h => fun c hc => by
    rw [okL_step] at h
    simp only [Bool.and_eq_true] at h
    rcases List.mem_cons.1 hc with rfl | hc
    · exact h.1.1.2
    · exact okL_all l _ h.2 c hc
theorem bstr_tl (L : List Nat) (h : L ≠ []) : (bstr L).data.toList ≠ [] := by rw [bstr_toList]; simpa using h
theorem wk_string {B b : Nat} {L : List Nat} {X : BL} {W : World} (h : Wk B b L X W) (h0 : L ≠ []) :
    Calls Tryd.prog 22 #[.pointer (some ⟨b, 0, none⟩)] W fun e w' => e = .returned (.string (bstr L)) ∧ Below B W w' := by
  obtain ⟨v, h1, _, _⟩ := h
  refine (bu_string B b v (bstr L).data.toList W h1 (bstr_tl L h0)).mono ?_
  rintro e w' ⟨rfl, _, _, hb⟩
  exact ⟨rfl, hb⟩
theorem may_first {kind first : Int} {l : List Cl} {data : ByteArray} (h : mayB kind first l data = true) (h1 : kind ≠ 1) : 0 ≤ first ∧ first ≤ 256 := by
  unfold mayB pageB at h
  rw [if_neg h1] at h
  split at h
  · simp only [Bool.and_eq_true, decide_eq_true_eq] at h
    omega
  split at h
  · simp only [Bool.and_eq_true, decide_eq_true_eq] at h
    omega
  split at h
  · simp only [Bool.and_eq_true, decide_eq_true_eq] at h
    omega
  · cases h
theorem okl_1 {first : Int} {l : List Cl} {data : ByteArray} (h : mayB 1 first l data = true) : okL leafB none l = true := by
  have e : mayB 1 first l data = (first == 0 && data.toList.isEmpty && okL leafB none l) := rfl
  rw [e] at h
  simp only [Bool.and_eq_true] at h
  exact h.2
theorem okl_2 {first : Int} {l : List Cl} {data : ByteArray} (h : mayB 2 first l data = true) : okL innerB none l = true := by
  have e : mayB 2 first l data = (pageB first 1 && data.toList.isEmpty && decide (0 < l.length) && okL innerB none l) := rfl
  rw [e] at h
  simp only [Bool.and_eq_true] at h
  exact h.2
theorem rep_v (m : Nat) (v : Int) (W : World) (hv : v = (m : Int)) (hm : m ≤ 512) : Calls Tryd.prog 10 #[.string ⟨#[0]⟩, .int .i64 v] W fun e w' => e = .returned (.string (bstr (List.replicate m 0))) ∧ Below W.heap.size W w' := by
  subst hv
  exact rep0 m W hm
set_option maxRecDepth 100000 in
set_option maxHeartbeats 8000000 in
theorem putok_1 (first : Int) (A : Option Addr) (l : List Cl) (n c : Nat) (data : ByteArray) (w : World) (hC : Cls w w.heap.size A l) (hn : n = l.length) (hm : n ≤ 1000000) (hmay : mayB 1 first l data = true) (hz : headZ 1 data + cellsZ 1 l ≤ 512) :
    Calls Tryd.prog 9 #[.agg #[.int .u8 1, .int .i64 first, .slice A n c, .string data]] w fun e w' => e = .returned (.tuple #[.string (bstr (nodeL 1 first l data ++ List.replicate (512 - (headZ 1 data + cellsZ 1 l)) 0)), .int .i64 0]) ∧ Below w.heap.size w w' := by
  have hm1 := size_any 1 first A l n c data
  unfold sizeZ at hm1
  rw [if_pos hmay] at hm1
  have HM := Lib.hid (fun W (hb : Below w.heap.size w W) => hm1 W (cls_step hC hb) hn hm)
  have HNB := Lib.hid (nb_new w 1 first A n c data)
  have hds : (data.size : Int) ≤ 505 := by have := (may_short hmay).2; omega
  have hmI : (n : Int) ≤ 1000000 := by omega
  have HN := Lib.hid hn
  have HMAY := Lib.hid hmay
  have HC := Lib.hid hC
  have HLH := Lib.hid (headL_length 1 first l data)
  have HLC := Lib.hid (fun j => cellsZ_take 1 l j)
  have h3 : 3 ≤ headZ 1 data := by unfold headZ; omega
  obtain ⟨S, hS⟩ : ∃ S, headZ 1 data + cellsZ 1 l = S := ⟨_, rfl⟩
  rw [hS] at HM hz ⊢
  have HS := Lib.hid (And.intro hS (And.intro hz h3))
  have hS5 : (S : Int) ≤ 512 := by omega
  have hS0 : ((S : Int) == 0) = false := beq_no' (by omega)
  clear hm1 hmay hn hS hz h3
  go_enter Tryd.func9, Tryd.ntmps9
  obtain ⟨c0, c1, c2, c3⟩ := cell4 HNB.out.1
  go_wp2_with fail
  refine (HM.out _ HNB.out.2).mono ?_
  rintro e w2 ⟨rfl, hb2⟩
  have hnb := nb_below HNB.out hb2
  have HWK := Lib.hid (wk_new (W := w2) (X := [(w.heap.size, 27, #[.int .u8 1, .int .i64 first, .slice A n c, .string data])]) w.heap.size hnb.2.size (al1 hnb.1))
  have HB2 := Lib.hid (hnb.2.alloc hnb.2.size (.cells #[.pointer none, .slice none 0 0] 45))
  clear c0 c1 c2 c3 hb2 hnb HNB HM
  obtain ⟨c0, c1, c2, c3⟩ := cell4 (wk_get HWK.out (.head _))
  generalize hbb : w2.heap.size = b at *
  go_wp2_with fail
  refine (put_v 1 1 _ _ (by rfl) (by rfl) HWK.out (by omega) (by omega) (by simp)).mono ?_
  rintro e w3 ⟨rfl, hw3, hb3⟩
  clear c0 c1 c2 c3
  obtain ⟨c0, c1, c2, c3⟩ := cell4 (wk_get hw3 (.head _))
  have HW3 := Lib.hid hw3
  have HB3 := Lib.hid (HB2.out.trans hb3)
  clear hw3 hb3 HWK HB2
  go_wp2_with fail
  refine (put_v (l.length + data.size) 2 _ _ (by have := HN.out; omega) (by rfl) HW3.out (by have := HN.out; omega) (by omega) (by simp [numL_length])).mono ?_
  rintro e w4 ⟨rfl, hw4, hb4⟩
  clear c0 c1 c2 c3
  obtain ⟨c0, c1, c2, c3⟩ := cell4 (wk_get hw4 (.head _))
  have HW4 := Lib.hid hw4
  have HB4 := Lib.hid (HB3.out.trans hb4)
  clear hw4 hb4 HW3 HB3
  have HW0 : Hid (Wk w.heap.size b (headL 1 first l data) [(w.heap.size, 27, #[.int .u8 1, .int .i64 first, .slice A n c, .string data])] w4) := Lib.hid (by have h := HW4.out; simpa [headL] using h)
  have HB0 := Lib.hid HB4.out
  clear HW4 HB4
  go_wp2
  go_loopw [35] (fun i wr => ∃ j : Nat, j ≤ n ∧ i = .int .i64 j ∧ Wk w.heap.size b (headL 1 first l data ++ cellsL 1 (l.take j)) [(w.heap.size, 27, #[.int .u8 1, .int .i64 first, .slice A n c, .string data])] wr ∧ Below w.heap.size w wr) (fun i _ => n - (intOf i).toNat)
  case atStart => exact ⟨0, by omega, rfl, by simpa [cellsL] using HW0.out, HB0.out⟩
  case round =>
    obtain ⟨j, hj, rfl, hw, hb⟩ := hrel
    have hlen : (headL 1 first l data ++ cellsL 1 (l.take j)).length + data.size ≤ 600 := by
      have h1 := HLH.out
      have h2 := HLC.out j
      have h3 := HS.out
      rw [List.length_append, cellsL_length]
      omega
    clear c0 c1 c2 c3
    by_cases hjn : j < n
    · have hlt : j < l.length := by have := HN.out; omega
      obtain ⟨bb, o, rfl, hbl, hcs⟩ := cls_get HC.out (fun e => by rw [e] at hlt; simp at hlt)
      obtain ⟨a0, a1, a2, a3⟩ := cells4_below (hcs j l[j] (List.getElem?_eq_getElem hlt)) hb hbl
      have hts := take_snoc' l j hlt
      have hsh := (may_short HMAY.out).1 l[j] (List.getElem_mem hlt)
      have hok : leafB l[j] = true := okL_all l none (okl_1 HMAY.out) l[j] (List.getElem_mem hlt)
      obtain ⟨x, hx⟩ : ∃ x, l[j] = x := ⟨_, rfl⟩
      rw [hx] at a0 a1 a2 a3 hts hsh hok
      obtain ⟨k, z, lo, p⟩ := x
      simp only at a0 a1 a2 a3 hsh
      have hin := leaf_in hok
      simp only at hin
      have HTS : Hid (headL 1 first l data ++ cellsL 1 (l.take (j + 1)) = headL 1 first l data ++ cellsL 1 (l.take j) ++ cellL 1 ⟨k, z, lo, p⟩) := Lib.hid (by rw [hts, cellsL_snoc, List.append_assoc])
      generalize headL 1 first l data ++ cellsL 1 (l.take j) = M at *
      have hwa := wk_alloc hw (clC ⟨k, z, lo, p⟩) 30
      obtain ⟨c0, c1, c2, c3⟩ := cell4 (wk_get hwa (.tail _ (.head _)))
      obtain ⟨d0, d1, d2, d3⟩ := cell4 (wk_get hwa (.head _))
      have HWA := Lib.hid hwa
      have HBA := Lib.hid (hb.alloc hb.size (.cells #[.string k, .int .i64 z, .string lo, .int .i64 p] 30))
      have HI := Lib.hid (And.intro hsh (And.intro hin hlen))
      have hjI : (j : Int) < n := by omega
      have hk1 : (k.size : Int) ≤ 100 := by omega
      clear hcs hx hts hsh hok hin hw hb hlen hbl hlt hwa
      go_wp2_with fail
      refine (put_v k.size 1 _ _ (by rfl) (by rfl) HWA.out (by have := HI.out; omega) (by omega) (by have := HI.out; omega)).mono ?_
      rintro e wa ⟨rfl, hwa, hba⟩
      clear c0 c1 c2 c3 d0 d1 d2 d3
      obtain ⟨c0, c1, c2, c3⟩ := cell4 (wk_get hwa (.tail _ (.head _)))
      obtain ⟨d0, d1, d2, d3⟩ := cell4 (wk_get hwa (.head _))
      have HWa := Lib.hid hwa
      have HBa := Lib.hid (HBA.out.trans hba)
      clear hwa hba HWA HBA
      go_wp2_with fail
      refine (wk_str k HWa.out (by have := HI.out; simp [numL_length]; omega)).mono ?_
      rintro e wb ⟨rfl, hwb, hbb'⟩
      clear c0 c1 c2 c3 d0 d1 d2 d3
      obtain ⟨c0, c1, c2, c3⟩ := cell4 (wk_get hwb (.tail _ (.head _)))
      obtain ⟨d0, d1, d2, d3⟩ := cell4 (wk_get hwb (.head _))
      have HWb := Lib.hid hwb
      have HBb := Lib.hid (HBa.out.trans hbb')
      clear hwb hbb' HWa HBa
      go_wp2_with fail
      refine (put_v z.toNat 2 _ _ (by have := HI.out; omega) (by rfl) HWb.out (by have := HI.out; omega) (by omega) (by have := HI.out; simp [numL_length, bts_len]; omega)).mono ?_
      rintro e wc ⟨rfl, hwc, hbc⟩
      clear c0 c1 c2 c3 d0 d1 d2 d3
      obtain ⟨c0, c1, c2, c3⟩ := cell4 (wk_get hwc (.tail _ (.head _)))
      obtain ⟨d0, d1, d2, d3⟩ := cell4 (wk_get hwc (.head _))
      have HWc := Lib.hid hwc
      have HBc := Lib.hid (HBb.out.trans hbc)
      clear hwc hbc HWb HBb
      go_wp2_with fail
      refine (wk_str lo HWc.out (by have := HI.out; simp [numL_length, bts_len]; omega)).mono ?_
      rintro e wd ⟨rfl, hwd, hbd⟩
      clear c0 c1 c2 c3 d0 d1 d2 d3
      obtain ⟨c0, c1, c2, c3⟩ := cell4 (wk_get hwd (.tail _ (.head _)))
      obtain ⟨d0, d1, d2, d3⟩ := cell4 (wk_get hwd (.head _))
      have HWd := Lib.hid hwd
      have HBd := Lib.hid (HBc.out.trans hbd)
      clear hwd hbd HWc HBc
      by_cases h100 : 100 < z
      · have HIF := Lib.hid (show (if 100 < z then numL p.toNat 4 else []) = numL p.toNat 4 from if_pos h100)
        go_wp2_with fail
        refine (put_v p.toNat 4 _ _ (by have := HI.out; omega) (by rfl) HWd.out (by have := HI.out; omega) (by omega) (by have := HI.out; simp [numL_length, bts_len]; omega)).mono ?_
        rintro e we ⟨rfl, hwe, hbe⟩
        clear c0 c1 c2 c3 d0 d1 d2 d3
        obtain ⟨c0, c1, c2, c3⟩ := cell4 (wk_get hwe (.tail _ (.head _)))
        obtain ⟨d0, d1, d2, d3⟩ := cell4 (wk_get hwe (.head _))
        have HWe := Lib.hid hwe
        have HBe := Lib.hid (HBd.out.trans hbe)
        clear hwe hbe HWd HBd
        go_wp2
        go_roundw
        case rel => exact ⟨j + 1, by omega, by go_num, by rw [HTS.out]; exact wk_drop (by have h := HWe.out; simpa [cellL, List.append_assoc, HIF.out] using h) (fun x hx => .tail _ hx), HBe.out⟩
        case measure => simp [intOf]; omega
      · have HIF := Lib.hid (show (if 100 < z then numL p.toNat 4 else []) = [] from if_neg h100)
        go_wp2
        go_roundw
        case rel => exact ⟨j + 1, by omega, by go_num, by rw [HTS.out]; exact wk_drop (by have h := HWd.out; simpa [cellL, List.append_assoc, HIF.out] using h) (fun x hx => .tail _ hx), HBd.out⟩
        case measure => simp [intOf]; omega
    · obtain rfl : j = n := by omega
      have HT : Hid (l.take j = l) := Lib.hid (List.take_of_length_le (by have := HN.out; omega))
      rw [HT.out] at hw hlen
      obtain ⟨c0, c1, c2, c3⟩ := cell4 (wk_get hw (.head _))
      have HWZ := Lib.hid hw
      have HBZ := Lib.hid hb
      have HL := Lib.hid hlen
      clear hw hb hlen HW0 HB0
      go_wp2_with fail
      refine (wk_str data HWZ.out (by have := HL.out; omega)).mono ?_
      rintro e wy ⟨rfl, hwy, hby⟩
      have HWY := Lib.hid hwy
      have HBY := Lib.hid (HBZ.out.trans hby)
      clear hwy hby HWZ HBZ c0 c1 c2 c3
      go_wp2_with fail
      refine (rep_v (512 - S) _ wy (by have := HS.out; omega) (by omega)).mono ?_
      rintro e wx ⟨rfl, hbx⟩
      have HWX := Lib.hid (wk_below HWY.out hbx)
      have HBX := Lib.hid (HBY.out.trans (hbx.mono HBY.out.size))
      clear hbx HWY HBY
      go_wp2_with fail
      refine (wk_str (bstr (List.replicate (512 - S) 0)) HWX.out (by have := HL.out; rw [bstr_size, List.length_append, bts_len, List.length_replicate]; omega)).mono ?_
      rintro e wv ⟨rfl, hwv, hbv⟩
      rw [bts_bstr _ (fun x hx => by have := List.eq_of_mem_replicate hx; omega)] at hwv
      have HWV := Lib.hid hwv
      have HBV := Lib.hid (HBX.out.trans hbv)
      clear hwv hbv HWX HBX
      go_wp2_with fail
      refine (wk_string HWV.out (by simp [headL, numL])).mono ?_
      rintro e wu ⟨rfl, hbu⟩
      have HBU := Lib.hid (HBV.out.trans hbu)
      clear hbu HWV HBV
      go_wp2
      go_ret2
      exact ⟨ret_se (by simp [nodeL]), HBU.out⟩
set_option maxRecDepth 100000 in
set_option maxHeartbeats 8000000 in
theorem putok_2 (first : Int) (A : Option Addr) (l : List Cl) (n c : Nat) (data : ByteArray) (w : World) (hC : Cls w w.heap.size A l) (hn : n = l.length) (hm : n ≤ 1000000) (hmay : mayB 2 first l data = true) (hz : headZ 2 data + cellsZ 2 l ≤ 512) :
    Calls Tryd.prog 9 #[.agg #[.int .u8 2, .int .i64 first, .slice A n c, .string data]] w fun e w' => e = .returned (.tuple #[.string (bstr (nodeL 2 first l data ++ List.replicate (512 - (headZ 2 data + cellsZ 2 l)) 0)), .int .i64 0]) ∧ Below w.heap.size w w' := by
  have hm1 := size_any 2 first A l n c data
  unfold sizeZ at hm1
  rw [if_pos hmay] at hm1
  have HM := Lib.hid (fun W (hb : Below w.heap.size w W) => hm1 W (cls_step hC hb) hn hm)
  have HNB := Lib.hid (nb_new w 2 first A n c data)
  have hds : (data.size : Int) ≤ 505 := by have := (may_short hmay).2; omega
  have hmI : (n : Int) ≤ 1000000 := by omega
  have HN := Lib.hid hn
  have HMAY := Lib.hid hmay
  have HC := Lib.hid hC
  have HLH := Lib.hid (headL_length 2 first l data)
  have HLC := Lib.hid (fun j => cellsZ_take 2 l j)
  have h3 : 3 ≤ headZ 2 data := by unfold headZ; omega
  obtain ⟨S, hS⟩ : ∃ S, headZ 2 data + cellsZ 2 l = S := ⟨_, rfl⟩
  rw [hS] at HM hz ⊢
  have HS := Lib.hid (And.intro hS (And.intro hz h3))
  have hS5 : (S : Int) ≤ 512 := by omega
  have hS0 : ((S : Int) == 0) = false := beq_no' (by omega)
  clear hm1 hmay hn hS hz h3
  go_enter Tryd.func9, Tryd.ntmps9
  obtain ⟨c0, c1, c2, c3⟩ := cell4 HNB.out.1
  go_wp2_with fail
  refine (HM.out _ HNB.out.2).mono ?_
  rintro e w2 ⟨rfl, hb2⟩
  have hnb := nb_below HNB.out hb2
  have HWK := Lib.hid (wk_new (W := w2) (X := [(w.heap.size, 27, #[.int .u8 2, .int .i64 first, .slice A n c, .string data])]) w.heap.size hnb.2.size (al1 hnb.1))
  have HB2 := Lib.hid (hnb.2.alloc hnb.2.size (.cells #[.pointer none, .slice none 0 0] 45))
  clear c0 c1 c2 c3 hb2 hnb HNB HM
  obtain ⟨c0, c1, c2, c3⟩ := cell4 (wk_get HWK.out (.head _))
  generalize hbb : w2.heap.size = b at *
  go_wp2_with fail
  refine (put_v 2 1 _ _ (by rfl) (by rfl) HWK.out (by omega) (by omega) (by simp)).mono ?_
  rintro e w3 ⟨rfl, hw3, hb3⟩
  clear c0 c1 c2 c3
  obtain ⟨c0, c1, c2, c3⟩ := cell4 (wk_get hw3 (.head _))
  have HW3 := Lib.hid hw3
  have HB3 := Lib.hid (HB2.out.trans hb3)
  clear hw3 hb3 HWK HB2
  go_wp2_with fail
  refine (put_v (l.length + data.size) 2 _ _ (by have := HN.out; omega) (by rfl) HW3.out (by have := HN.out; omega) (by omega) (by simp [numL_length])).mono ?_
  rintro e w4 ⟨rfl, hw4, hb4⟩
  clear c0 c1 c2 c3
  obtain ⟨c0, c1, c2, c3⟩ := cell4 (wk_get hw4 (.head _))
  have HW4 := Lib.hid hw4
  have HB4 := Lib.hid (HB3.out.trans hb4)
  clear hw4 hb4 HW3 HB3
  have HFI := Lib.hid (may_first HMAY.out (by omega))
  go_wp2_with fail
  refine (put_v first.toNat 4 _ _ (by have := HFI.out; omega) (by rfl) HW4.out (by have := HFI.out; omega) (by omega) (by simp [numL_length])).mono ?_
  rintro e w5 ⟨rfl, hw5, hb5⟩
  clear c0 c1 c2 c3
  obtain ⟨c0, c1, c2, c3⟩ := cell4 (wk_get hw5 (.head _))
  have HW5 := Lib.hid hw5
  have HB5 := Lib.hid (HB4.out.trans hb5)
  clear hw5 hb5 HW4 HB4
  have HW0 : Hid (Wk w.heap.size b (headL 2 first l data) [(w.heap.size, 27, #[.int .u8 2, .int .i64 first, .slice A n c, .string data])] w5) := Lib.hid (by have h := HW5.out; simpa [headL] using h)
  have HB0 := Lib.hid HB5.out
  clear HW5 HB5
  go_wp2
  go_loopw [35] (fun i wr => ∃ j : Nat, j ≤ n ∧ i = .int .i64 j ∧ Wk w.heap.size b (headL 2 first l data ++ cellsL 2 (l.take j)) [(w.heap.size, 27, #[.int .u8 2, .int .i64 first, .slice A n c, .string data])] wr ∧ Below w.heap.size w wr) (fun i _ => n - (intOf i).toNat)
  case atStart => exact ⟨0, by omega, rfl, by simpa [cellsL] using HW0.out, HB0.out⟩
  case round =>
    obtain ⟨j, hj, rfl, hw, hb⟩ := hrel
    have hlen : (headL 2 first l data ++ cellsL 2 (l.take j)).length + data.size ≤ 600 := by
      have h1 := HLH.out
      have h2 := HLC.out j
      have h3 := HS.out
      rw [List.length_append, cellsL_length]
      omega
    clear c0 c1 c2 c3
    by_cases hjn : j < n
    · have hlt : j < l.length := by have := HN.out; omega
      obtain ⟨bb, o, rfl, hbl, hcs⟩ := cls_get HC.out (fun e => by rw [e] at hlt; simp at hlt)
      obtain ⟨a0, a1, a2, a3⟩ := cells4_below (hcs j l[j] (List.getElem?_eq_getElem hlt)) hb hbl
      have hts := take_snoc' l j hlt
      have hsh := (may_short HMAY.out).1 l[j] (List.getElem_mem hlt)
      have hok : innerB l[j] = true := okL_all l none (okl_2 HMAY.out) l[j] (List.getElem_mem hlt)
      obtain ⟨x, hx⟩ : ∃ x, l[j] = x := ⟨_, rfl⟩
      rw [hx] at a0 a1 a2 a3 hts hsh hok
      obtain ⟨k, z, lo, p⟩ := x
      simp only at a0 a1 a2 a3 hsh
      have hin := inner_in hok
      simp only at hin
      have HTS : Hid (headL 2 first l data ++ cellsL 2 (l.take (j + 1)) = headL 2 first l data ++ cellsL 2 (l.take j) ++ cellL 2 ⟨k, z, lo, p⟩) := Lib.hid (by rw [hts, cellsL_snoc, List.append_assoc])
      generalize headL 2 first l data ++ cellsL 2 (l.take j) = M at *
      have hwa := wk_alloc hw (clC ⟨k, z, lo, p⟩) 30
      obtain ⟨c0, c1, c2, c3⟩ := cell4 (wk_get hwa (.tail _ (.head _)))
      obtain ⟨d0, d1, d2, d3⟩ := cell4 (wk_get hwa (.head _))
      have HWA := Lib.hid hwa
      have HBA := Lib.hid (hb.alloc hb.size (.cells #[.string k, .int .i64 z, .string lo, .int .i64 p] 30))
      have HI := Lib.hid (And.intro hsh (And.intro hin hlen))
      have hjI : (j : Int) < n := by omega
      have hk1 : (k.size : Int) ≤ 100 := by omega
      clear hcs hx hts hsh hok hin hw hb hlen hbl hlt hwa
      go_wp2_with fail
      refine (put_v k.size 1 _ _ (by rfl) (by rfl) HWA.out (by have := HI.out; omega) (by omega) (by have := HI.out; omega)).mono ?_
      rintro e wa ⟨rfl, hwa, hba⟩
      clear c0 c1 c2 c3 d0 d1 d2 d3
      obtain ⟨c0, c1, c2, c3⟩ := cell4 (wk_get hwa (.tail _ (.head _)))
      obtain ⟨d0, d1, d2, d3⟩ := cell4 (wk_get hwa (.head _))
      have HWa := Lib.hid hwa
      have HBa := Lib.hid (HBA.out.trans hba)
      clear hwa hba HWA HBA
      go_wp2_with fail
      refine (wk_str k HWa.out (by have := HI.out; simp [numL_length]; omega)).mono ?_
      rintro e wb ⟨rfl, hwb, hbb'⟩
      clear c0 c1 c2 c3 d0 d1 d2 d3
      obtain ⟨c0, c1, c2, c3⟩ := cell4 (wk_get hwb (.tail _ (.head _)))
      obtain ⟨d0, d1, d2, d3⟩ := cell4 (wk_get hwb (.head _))
      have HWb := Lib.hid hwb
      have HBb := Lib.hid (HBa.out.trans hbb')
      clear hwb hbb' HWa HBa
      go_wp2_with fail
      refine (put_v p.toNat 4 _ _ (by have := HI.out; omega) (by rfl) HWb.out (by have := HI.out; omega) (by omega) (by have := HI.out; simp [numL_length, bts_len]; omega)).mono ?_
      rintro e we ⟨rfl, hwe, hbe⟩
      clear c0 c1 c2 c3 d0 d1 d2 d3
      obtain ⟨c0, c1, c2, c3⟩ := cell4 (wk_get hwe (.tail _ (.head _)))
      obtain ⟨d0, d1, d2, d3⟩ := cell4 (wk_get hwe (.head _))
      have HWe := Lib.hid hwe
      have HBe := Lib.hid (HBb.out.trans hbe)
      clear hwe hbe HWb HBb
      go_wp2
      go_roundw
      case rel => exact ⟨j + 1, by omega, by go_num, by rw [HTS.out]; exact wk_drop (by have h := HWe.out; simpa [cellL, List.append_assoc] using h) (fun x hx => .tail _ hx), HBe.out⟩
      case measure => simp [intOf]; omega
    · obtain rfl : j = n := by omega
      have HT : Hid (l.take j = l) := Lib.hid (List.take_of_length_le (by have := HN.out; omega))
      rw [HT.out] at hw hlen
      obtain ⟨c0, c1, c2, c3⟩ := cell4 (wk_get hw (.head _))
      have HWZ := Lib.hid hw
      have HBZ := Lib.hid hb
      have HL := Lib.hid hlen
      clear hw hb hlen HW0 HB0
      go_wp2_with fail
      refine (wk_str data HWZ.out (by have := HL.out; omega)).mono ?_
      rintro e wy ⟨rfl, hwy, hby⟩
      have HWY := Lib.hid hwy
      have HBY := Lib.hid (HBZ.out.trans hby)
      clear hwy hby HWZ HBZ c0 c1 c2 c3
      go_wp2_with fail
      refine (rep_v (512 - S) _ wy (by have := HS.out; omega) (by omega)).mono ?_
      rintro e wx ⟨rfl, hbx⟩
      have HWX := Lib.hid (wk_below HWY.out hbx)
      have HBX := Lib.hid (HBY.out.trans (hbx.mono HBY.out.size))
      clear hbx HWY HBY
      go_wp2_with fail
      refine (wk_str (bstr (List.replicate (512 - S) 0)) HWX.out (by have := HL.out; rw [bstr_size, List.length_append, bts_len, List.length_replicate]; omega)).mono ?_
      rintro e wv ⟨rfl, hwv, hbv⟩
      rw [bts_bstr _ (fun x hx => by have := List.eq_of_mem_replicate hx; omega)] at hwv
      have HWV := Lib.hid hwv
      have HBV := Lib.hid (HBX.out.trans hbv)
      clear hwv hbv HWX HBX
      go_wp2_with fail
      refine (wk_string HWV.out (by simp [headL, numL])).mono ?_
      rintro e wu ⟨rfl, hbu⟩
      have HBU := Lib.hid (HBV.out.trans hbu)
      clear hbu HWV HBV
      go_wp2
      go_ret2
      exact ⟨ret_se (by simp [nodeL]), HBU.out⟩
set_option maxRecDepth 100000 in
set_option maxHeartbeats 8000000 in
theorem putok_3 (first : Int) (A : Option Addr) (l : List Cl) (n c : Nat) (data : ByteArray) (w : World) (hC : Cls w w.heap.size A l) (hn : n = l.length) (hm : n ≤ 1000000) (hmay : mayB 3 first l data = true) (hz : headZ 3 data + cellsZ 3 l ≤ 512) (hl : l = []) :
    Calls Tryd.prog 9 #[.agg #[.int .u8 3, .int .i64 first, .slice A n c, .string data]] w fun e w' => e = .returned (.tuple #[.string (bstr (nodeL 3 first l data ++ List.replicate (512 - (headZ 3 data + cellsZ 3 l)) 0)), .int .i64 0]) ∧ Below w.heap.size w w' := by
  have hm1 := size_any 3 first A l n c data
  unfold sizeZ at hm1
  rw [if_pos hmay] at hm1
  have HM := Lib.hid (fun W (hb : Below w.heap.size w W) => hm1 W (cls_step hC hb) hn hm)
  have HNB := Lib.hid (nb_new w 3 first A n c data)
  have hds : (data.size : Int) ≤ 505 := by have := (may_short hmay).2; omega
  have hmI : (n : Int) ≤ 1000000 := by omega
  have HN := Lib.hid hn
  have HLE := Lib.hid hl
  clear hl
  have HMAY := Lib.hid hmay
  have HC := Lib.hid hC
  have HLH := Lib.hid (headL_length 3 first l data)
  have HLC := Lib.hid (fun j => cellsZ_take 3 l j)
  have h3 : 3 ≤ headZ 3 data := by unfold headZ; omega
  obtain ⟨S, hS⟩ : ∃ S, headZ 3 data + cellsZ 3 l = S := ⟨_, rfl⟩
  rw [hS] at HM hz ⊢
  have HS := Lib.hid (And.intro hS (And.intro hz h3))
  have hS5 : (S : Int) ≤ 512 := by omega
  have hS0 : ((S : Int) == 0) = false := beq_no' (by omega)
  clear hm1 hmay hn hS hz h3
  go_enter Tryd.func9, Tryd.ntmps9
  obtain ⟨c0, c1, c2, c3⟩ := cell4 HNB.out.1
  go_wp2_with fail
  refine (HM.out _ HNB.out.2).mono ?_
  rintro e w2 ⟨rfl, hb2⟩
  have hnb := nb_below HNB.out hb2
  have HWK := Lib.hid (wk_new (W := w2) (X := [(w.heap.size, 27, #[.int .u8 3, .int .i64 first, .slice A n c, .string data])]) w.heap.size hnb.2.size (al1 hnb.1))
  have HB2 := Lib.hid (hnb.2.alloc hnb.2.size (.cells #[.pointer none, .slice none 0 0] 45))
  clear c0 c1 c2 c3 hb2 hnb HNB HM
  obtain ⟨c0, c1, c2, c3⟩ := cell4 (wk_get HWK.out (.head _))
  generalize hbb : w2.heap.size = b at *
  go_wp2_with fail
  refine (put_v 3 1 _ _ (by rfl) (by rfl) HWK.out (by omega) (by omega) (by simp)).mono ?_
  rintro e w3 ⟨rfl, hw3, hb3⟩
  clear c0 c1 c2 c3
  obtain ⟨c0, c1, c2, c3⟩ := cell4 (wk_get hw3 (.head _))
  have HW3 := Lib.hid hw3
  have HB3 := Lib.hid (HB2.out.trans hb3)
  clear hw3 hb3 HWK HB2
  go_wp2_with fail
  refine (put_v (l.length + data.size) 2 _ _ (by have := HN.out; omega) (by rfl) HW3.out (by have := HN.out; omega) (by omega) (by simp [numL_length])).mono ?_
  rintro e w4 ⟨rfl, hw4, hb4⟩
  clear c0 c1 c2 c3
  obtain ⟨c0, c1, c2, c3⟩ := cell4 (wk_get hw4 (.head _))
  have HW4 := Lib.hid hw4
  have HB4 := Lib.hid (HB3.out.trans hb4)
  clear hw4 hb4 HW3 HB3
  have HFI := Lib.hid (may_first HMAY.out (by omega))
  go_wp2_with fail
  refine (put_v first.toNat 4 _ _ (by have := HFI.out; omega) (by rfl) HW4.out (by have := HFI.out; omega) (by omega) (by simp [numL_length])).mono ?_
  rintro e w5 ⟨rfl, hw5, hb5⟩
  clear c0 c1 c2 c3
  obtain ⟨c0, c1, c2, c3⟩ := cell4 (wk_get hw5 (.head _))
  have HW5 := Lib.hid hw5
  have HB5 := Lib.hid (HB4.out.trans hb5)
  clear hw5 hb5 HW4 HB4
  have HW0 : Hid (Wk w.heap.size b (headL 3 first l data) [(w.heap.size, 27, #[.int .u8 3, .int .i64 first, .slice A n c, .string data])] w5) := Lib.hid (by have h := HW5.out; simpa [headL] using h)
  have HB0 := Lib.hid HB5.out
  clear HW5 HB5
  go_wp2
  go_loopw [35] (fun i wr => ∃ j : Nat, j ≤ n ∧ i = .int .i64 j ∧ Wk w.heap.size b (headL 3 first l data ++ cellsL 3 (l.take j)) [(w.heap.size, 27, #[.int .u8 3, .int .i64 first, .slice A n c, .string data])] wr ∧ Below w.heap.size w wr) (fun i _ => n - (intOf i).toNat)
  case atStart => exact ⟨0, by omega, rfl, by simpa [cellsL] using HW0.out, HB0.out⟩
  case round =>
    obtain ⟨j, hj, rfl, hw, hb⟩ := hrel
    have hlen : (headL 3 first l data ++ cellsL 3 (l.take j)).length + data.size ≤ 600 := by
      have h1 := HLH.out
      have h2 := HLC.out j
      have h3 := HS.out
      rw [List.length_append, cellsL_length]
      omega
    clear c0 c1 c2 c3
    by_cases hjn : j < n
    · exfalso
      have h1 := HN.out
      rw [HLE.out] at h1
      simp at h1
      omega
    · obtain rfl : j = n := by omega
      have HT : Hid (l.take j = l) := Lib.hid (List.take_of_length_le (by have := HN.out; omega))
      rw [HT.out] at hw hlen
      obtain ⟨c0, c1, c2, c3⟩ := cell4 (wk_get hw (.head _))
      have HWZ := Lib.hid hw
      have HBZ := Lib.hid hb
      have HL := Lib.hid hlen
      clear hw hb hlen HW0 HB0
      go_wp2_with fail
      refine (wk_str data HWZ.out (by have := HL.out; omega)).mono ?_
      rintro e wy ⟨rfl, hwy, hby⟩
      have HWY := Lib.hid hwy
      have HBY := Lib.hid (HBZ.out.trans hby)
      clear hwy hby HWZ HBZ c0 c1 c2 c3
      go_wp2_with fail
      refine (rep_v (512 - S) _ wy (by have := HS.out; omega) (by omega)).mono ?_
      rintro e wx ⟨rfl, hbx⟩
      have HWX := Lib.hid (wk_below HWY.out hbx)
      have HBX := Lib.hid (HBY.out.trans (hbx.mono HBY.out.size))
      clear hbx HWY HBY
      go_wp2_with fail
      refine (wk_str (bstr (List.replicate (512 - S) 0)) HWX.out (by have := HL.out; rw [bstr_size, List.length_append, bts_len, List.length_replicate]; omega)).mono ?_
      rintro e wv ⟨rfl, hwv, hbv⟩
      rw [bts_bstr _ (fun x hx => by have := List.eq_of_mem_replicate hx; omega)] at hwv
      have HWV := Lib.hid hwv
      have HBV := Lib.hid (HBX.out.trans hbv)
      clear hwv hbv HWX HBX
      go_wp2_with fail
      refine (wk_string HWV.out (by simp [headL, numL])).mono ?_
      rintro e wu ⟨rfl, hbu⟩
      have HBU := Lib.hid (HBV.out.trans hbu)
      clear hbu HWV HBV
      go_wp2
      go_ret2
      exact ⟨ret_se (by simp [nodeL]), HBU.out⟩
set_option maxRecDepth 100000 in
set_option maxHeartbeats 8000000 in
theorem putok_4 (first : Int) (A : Option Addr) (l : List Cl) (n c : Nat) (data : ByteArray) (w : World) (hC : Cls w w.heap.size A l) (hn : n = l.length) (hm : n ≤ 1000000) (hmay : mayB 4 first l data = true) (hz : headZ 4 data + cellsZ 4 l ≤ 512) (hl : l = []) :
    Calls Tryd.prog 9 #[.agg #[.int .u8 4, .int .i64 first, .slice A n c, .string data]] w fun e w' => e = .returned (.tuple #[.string (bstr (nodeL 4 first l data ++ List.replicate (512 - (headZ 4 data + cellsZ 4 l)) 0)), .int .i64 0]) ∧ Below w.heap.size w w' := by
  have hm1 := size_any 4 first A l n c data
  unfold sizeZ at hm1
  rw [if_pos hmay] at hm1
  have HM := Lib.hid (fun W (hb : Below w.heap.size w W) => hm1 W (cls_step hC hb) hn hm)
  have HNB := Lib.hid (nb_new w 4 first A n c data)
  have hds : (data.size : Int) ≤ 505 := by have := (may_short hmay).2; omega
  have hmI : (n : Int) ≤ 1000000 := by omega
  have HN := Lib.hid hn
  have HLE := Lib.hid hl
  clear hl
  have HMAY := Lib.hid hmay
  have HC := Lib.hid hC
  have HLH := Lib.hid (headL_length 4 first l data)
  have HLC := Lib.hid (fun j => cellsZ_take 4 l j)
  have h3 : 3 ≤ headZ 4 data := by unfold headZ; omega
  obtain ⟨S, hS⟩ : ∃ S, headZ 4 data + cellsZ 4 l = S := ⟨_, rfl⟩
  rw [hS] at HM hz ⊢
  have HS := Lib.hid (And.intro hS (And.intro hz h3))
  have hS5 : (S : Int) ≤ 512 := by omega
  have hS0 : ((S : Int) == 0) = false := beq_no' (by omega)
  clear hm1 hmay hn hS hz h3
  go_enter Tryd.func9, Tryd.ntmps9
  obtain ⟨c0, c1, c2, c3⟩ := cell4 HNB.out.1
  go_wp2_with fail
  refine (HM.out _ HNB.out.2).mono ?_
  rintro e w2 ⟨rfl, hb2⟩
  have hnb := nb_below HNB.out hb2
  have HWK := Lib.hid (wk_new (W := w2) (X := [(w.heap.size, 27, #[.int .u8 4, .int .i64 first, .slice A n c, .string data])]) w.heap.size hnb.2.size (al1 hnb.1))
  have HB2 := Lib.hid (hnb.2.alloc hnb.2.size (.cells #[.pointer none, .slice none 0 0] 45))
  clear c0 c1 c2 c3 hb2 hnb HNB HM
  obtain ⟨c0, c1, c2, c3⟩ := cell4 (wk_get HWK.out (.head _))
  generalize hbb : w2.heap.size = b at *
  go_wp2_with fail
  refine (put_v 4 1 _ _ (by rfl) (by rfl) HWK.out (by omega) (by omega) (by simp)).mono ?_
  rintro e w3 ⟨rfl, hw3, hb3⟩
  clear c0 c1 c2 c3
  obtain ⟨c0, c1, c2, c3⟩ := cell4 (wk_get hw3 (.head _))
  have HW3 := Lib.hid hw3
  have HB3 := Lib.hid (HB2.out.trans hb3)
  clear hw3 hb3 HWK HB2
  go_wp2_with fail
  refine (put_v (l.length + data.size) 2 _ _ (by have := HN.out; omega) (by rfl) HW3.out (by have := HN.out; omega) (by omega) (by simp [numL_length])).mono ?_
  rintro e w4 ⟨rfl, hw4, hb4⟩
  clear c0 c1 c2 c3
  obtain ⟨c0, c1, c2, c3⟩ := cell4 (wk_get hw4 (.head _))
  have HW4 := Lib.hid hw4
  have HB4 := Lib.hid (HB3.out.trans hb4)
  clear hw4 hb4 HW3 HB3
  have HFI := Lib.hid (may_first HMAY.out (by omega))
  go_wp2_with fail
  refine (put_v first.toNat 4 _ _ (by have := HFI.out; omega) (by rfl) HW4.out (by have := HFI.out; omega) (by omega) (by simp [numL_length])).mono ?_
  rintro e w5 ⟨rfl, hw5, hb5⟩
  clear c0 c1 c2 c3
  obtain ⟨c0, c1, c2, c3⟩ := cell4 (wk_get hw5 (.head _))
  have HW5 := Lib.hid hw5
  have HB5 := Lib.hid (HB4.out.trans hb5)
  clear hw5 hb5 HW4 HB4
  have HW0 : Hid (Wk w.heap.size b (headL 4 first l data) [(w.heap.size, 27, #[.int .u8 4, .int .i64 first, .slice A n c, .string data])] w5) := Lib.hid (by have h := HW5.out; simpa [headL] using h)
  have HB0 := Lib.hid HB5.out
  clear HW5 HB5
  go_wp2
  go_loopw [35] (fun i wr => ∃ j : Nat, j ≤ n ∧ i = .int .i64 j ∧ Wk w.heap.size b (headL 4 first l data ++ cellsL 4 (l.take j)) [(w.heap.size, 27, #[.int .u8 4, .int .i64 first, .slice A n c, .string data])] wr ∧ Below w.heap.size w wr) (fun i _ => n - (intOf i).toNat)
  case atStart => exact ⟨0, by omega, rfl, by simpa [cellsL] using HW0.out, HB0.out⟩
  case round =>
    obtain ⟨j, hj, rfl, hw, hb⟩ := hrel
    have hlen : (headL 4 first l data ++ cellsL 4 (l.take j)).length + data.size ≤ 600 := by
      have h1 := HLH.out
      have h2 := HLC.out j
      have h3 := HS.out
      rw [List.length_append, cellsL_length]
      omega
    clear c0 c1 c2 c3
    by_cases hjn : j < n
    · exfalso
      have h1 := HN.out
      rw [HLE.out] at h1
      simp at h1
      omega
    · obtain rfl : j = n := by omega
      have HT : Hid (l.take j = l) := Lib.hid (List.take_of_length_le (by have := HN.out; omega))
      rw [HT.out] at hw hlen
      obtain ⟨c0, c1, c2, c3⟩ := cell4 (wk_get hw (.head _))
      have HWZ := Lib.hid hw
      have HBZ := Lib.hid hb
      have HL := Lib.hid hlen
      clear hw hb hlen HW0 HB0
      go_wp2_with fail
      refine (wk_str data HWZ.out (by have := HL.out; omega)).mono ?_
      rintro e wy ⟨rfl, hwy, hby⟩
      have HWY := Lib.hid hwy
      have HBY := Lib.hid (HBZ.out.trans hby)
      clear hwy hby HWZ HBZ c0 c1 c2 c3
      go_wp2_with fail
      refine (rep_v (512 - S) _ wy (by have := HS.out; omega) (by omega)).mono ?_
      rintro e wx ⟨rfl, hbx⟩
      have HWX := Lib.hid (wk_below HWY.out hbx)
      have HBX := Lib.hid (HBY.out.trans (hbx.mono HBY.out.size))
      clear hbx HWY HBY
      go_wp2_with fail
      refine (wk_str (bstr (List.replicate (512 - S) 0)) HWX.out (by have := HL.out; rw [bstr_size, List.length_append, bts_len, List.length_replicate]; omega)).mono ?_
      rintro e wv ⟨rfl, hwv, hbv⟩
      rw [bts_bstr _ (fun x hx => by have := List.eq_of_mem_replicate hx; omega)] at hwv
      have HWV := Lib.hid hwv
      have HBV := Lib.hid (HBX.out.trans hbv)
      clear hwv hbv HWX HBX
      go_wp2_with fail
      refine (wk_string HWV.out (by simp [headL, numL])).mono ?_
      rintro e wu ⟨rfl, hbu⟩
      have HBU := Lib.hid (HBV.out.trans hbu)
      clear hbu HWV HBV
      go_wp2
      go_ret2
      exact ⟨ret_se (by simp [nodeL]), HBU.out⟩
theorem putN_any (kind first : Int) (A : Option Addr) (l : List Cl) (n c : Nat) (data : ByteArray) (w : World) (hC : Cls w w.heap.size A l) (hn : n = l.length) (hm : n ≤ 1000000) :
    Calls Tryd.prog 9 #[.agg #[.int .u8 kind, .int .i64 first, .slice A n c, .string data]] w fun e w' => e = .returned (.tuple #[.string (putN kind first l data).1, .int .i64 (putN kind first l data).2]) ∧ Below w.heap.size w w' := by
  by_cases hz : sizeZ kind first l data = 0 ∨ 512 < sizeZ kind first l data
  · exact put_small kind first A l n c data w hC hn hm hz
  · have h : mayB kind first l data = true := by
      cases h : mayB kind first l data
      · exact absurd (.inl (by unfold sizeZ; rw [h]; rfl)) hz
      · rfl
    have hs : sizeZ kind first l data = ((headZ kind data + cellsZ kind l : Nat) : Int) := by unfold sizeZ; rw [if_pos h]
    have hle : headZ kind data + cellsZ kind l ≤ 512 := by omega
    have e : putN kind first l data = (bstr (nodeL kind first l data ++ List.replicate (512 - (headZ kind data + cellsZ kind l)) 0), 0) := by
      unfold putN
      rw [if_neg (by omega), if_neg (by omega), hs]
      rfl
    rw [e]
    have h' := h
    unfold mayB at h'
    by_cases h1 : kind = 1
    · subst h1
      exact putok_1 first A l n c data w hC hn hm h hle
    rw [if_neg h1] at h'
    by_cases h2 : kind = 2
    · subst h2
      exact putok_2 first A l n c data w hC hn hm h hle
    rw [if_neg h2] at h'
    by_cases h3 : kind = 3
    · subst h3
      rw [if_pos rfl] at h'
      simp only [Bool.and_eq_true, beq_iff_eq] at h'
      exact putok_3 first A l n c data w hC hn hm h hle (List.eq_nil_of_length_eq_zero h'.1.1.2)
    rw [if_neg h3] at h'
    by_cases h4 : kind = 4
    · subst h4
      rw [if_pos rfl] at h'
      simp only [Bool.and_eq_true, beq_iff_eq] at h'
      exact putok_4 first A l n c data w hC hn hm h hle (List.eq_nil_of_length_eq_zero h'.1.2)
    rw [if_neg h4] at h'
    cases h'
end Go.Proofs.YticpenbebokjdaaDoor
