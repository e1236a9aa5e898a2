/- node.Size. Conditions: the cells stand, and are not too many. -/
import Derived.Test.YticpenbebokjdaaDoorNd3
namespace Go.Proofs.YticpenbebokjdaaDoor
open Go.RowKit Go
set_option linter.unusedVariables false
set_option linter.unusedSimpArgs false
theorem ret_i64 {a b : Int} (h : a = b) : Ending.returned (.int .i64 a) = .returned (.int .i64 b) := by rw [h]
/-- how many bytes a cell asks for -/
def cellZ (kind : Int) (c : Cl) : Nat := 1 + c.key.size + (if kind = 1 then 2 + c.loc.size else 0) + (if kind = 2 ∨ 100 < c.size then 4 else 0)
def cellsZ (kind : Int) (l : List Cl) : Nat := (l.map (cellZ kind)).foldr (· + ·) 0
def headZ (kind : Int) (data : ByteArray) : Nat := 3 + data.size + (if kind = 1 then 0 else 4)
def sizeZ (kind first : Int) (l : List Cl) (data : ByteArray) : Int := if mayB kind first l data then ((headZ kind data + cellsZ kind l : Nat) : Int) else 0
theorem cellsZ_cons (kind : Int) (c : Cl) (l : List Cl) : cellsZ kind (c :: l) = cellZ kind c + cellsZ kind l := rfl
theorem cellsZ_snoc (kind : Int) (c : Cl) : ∀ l : List Cl, cellsZ kind (l ++ [c]) = cellsZ kind l + cellZ kind c
  | [] => by simp [cellsZ]
  | x :: l => by
    rw [List.cons_append, cellsZ_cons, cellsZ_cons, cellsZ_snoc kind c l]
    omega
/-- cells that may be are short -/
theorem okL_short {f : Cl → Bool} (hf : ∀ c, f c = true → c.loc.size ≤ 100) : ∀ (l : List Cl) (p : Option ByteArray), okL f p l = true → ∀ c ∈ l, c.key.size ≤ 100 ∧ c.loc.size ≤ 100
  | [], _, _ => fun c hc => by cases hc
  | x :: l, p, h => fun c hc => by
    rw [okL_step] at h
    simp only [Bool.and_eq_true, decide_eq_true_eq] at h
    rcases List.mem_cons.1 hc with rfl | hc
    · exact ⟨by omega, hf _ h.1.1.2⟩
    · exact okL_short hf l _ h.2 c hc
theorem leaf_short (c : Cl) (h : leafB c = true) : c.loc.size ≤ 100 := by
  unfold leafB at h
  split at h
  · cases h
  · rename_i h2
    omega
theorem str_no {s : ByteArray} (h : s.size ≠ 0) : ¬ s.toList = [] := by
  intro e
  apply h
  rw [ByteArray.toList_eq] at e
  show s.data.size = 0
  rw [← Array.length_toList, e]
  rfl
theorem str_emp {s : ByteArray} (h : s.toList.isEmpty = true) : s.size = 0 := by
  have h1 : s.toList = [] := by simpa using h
  by_cases e : s.size = 0
  · exact e
  · exact absurd h1 (str_no e)
theorem inner_short (c : Cl) (h : innerB c = true) : c.loc.size ≤ 100 := by
  unfold innerB at h
  simp only [Bool.and_eq_true] at h
  have := str_emp h.2
  omega
theorem may_short {kind first : Int} {l : List Cl} {data : ByteArray} (h : mayB kind first l data = true) : (∀ c ∈ l, c.key.size ≤ 100 ∧ c.loc.size ≤ 100) ∧ data.size ≤ 505 := by
  unfold mayB at h
  split at h
  · simp only [Bool.and_eq_true] at h
    exact ⟨okL_short leaf_short l _ h.2, by have := str_emp h.1.2; omega⟩
  split at h
  · simp only [Bool.and_eq_true] at h
    exact ⟨okL_short inner_short l _ h.2, by have := str_emp h.1.1.2; omega⟩
  split at h
  · simp only [Bool.and_eq_true, beq_iff_eq, decide_eq_true_eq] at h
    exact ⟨(fun c hc => by rw [List.eq_nil_of_length_eq_zero h.1.1.2] at hc; cases hc), h.2⟩
  split at h
  · simp only [Bool.and_eq_true, beq_iff_eq] at h
    exact ⟨(fun c hc => by rw [List.eq_nil_of_length_eq_zero h.1.2] at hc; cases hc), by have := str_emp h.2; omega⟩
  · cases h
theorem cellZ_le {kind : Int} {c : Cl} (h : c.key.size ≤ 100 ∧ c.loc.size ≤ 100) : cellZ kind c ≤ 207 := by
  unfold cellZ
  split <;> split <;> omega
theorem cellsZ_le {kind : Int} : ∀ l : List Cl, (∀ c ∈ l, c.key.size ≤ 100 ∧ c.loc.size ≤ 100) → cellsZ kind l ≤ 207 * l.length
  | [], _ => by simp [cellsZ]
  | x :: l, h => by
    rw [cellsZ_cons, List.length_cons]
    have h1 := cellZ_le (kind := kind) (h x (List.mem_cons_self ..))
    have h2 := cellsZ_le (kind := kind) l (fun c hc => h c (List.mem_cons_of_mem _ hc))
    omega
theorem cellZ_1 (c : Cl) : cellZ 1 c = 3 + c.key.size + c.loc.size + (if 100 < c.size then 4 else 0) := by
  unfold cellZ
  simp
  omega
theorem cellZ_2 (c : Cl) : cellZ 2 c = 5 + c.key.size := by
  unfold cellZ
  simp
  omega
theorem take_snoc' {α : Type} (l : List α) (j : Nat) (h : j < l.length) : l.take (j + 1) = l.take j ++ [l[j]] := by
  rw [List.take_succ_eq_append_getElem h]
/-- a node's box -/
def Nb (w : World) (kind first : Int) (A : Option Addr) (n c : Nat) (data : ByteArray) (W : World) : Prop := Blk W w.heap.size 27 #[.int .u8 kind, .int .i64 first, .slice A n c, .string data] ∧ Below w.heap.size w W
theorem nb_below {w W W' : World} {kind first : Int} {A : Option Addr} {n c : Nat} {data : ByteArray} (h : Nb w kind first A n c data W) (hb : Below W.heap.size W W') : Nb w kind first A n c data W' := ⟨blk_step h.1 hb, bj h.2 hb⟩
theorem nb_new (w : World) (kind first : Int) (A : Option Addr) (n c : Nat) (data : ByteArray) : Nb w kind first A n c data (w.alloc (.cells #[.int .u8 kind, .int .i64 first, .slice A n c, .string data] 27)) := ⟨Blk.new _ _ _, one_alloc⟩
set_option maxRecDepth 100000 in
set_option maxHeartbeats 8000000 in
theorem size_1 (kind first : Int) (A : Option Addr) (l : List Cl) (n c : Nat) (data : ByteArray) (w : World) (hC : Cls w w.heap.size A l) (hn : n = l.length) (hm : n ≤ 1000000) (hk : kind = 1) (hmay : mayB kind first l data = true) :
    Calls Tryd.prog 13 #[.agg #[.int .u8 kind, .int .i64 first, .slice A n c, .string data]] w fun e w' => e = .returned (.int .i64 ((headZ kind data + cellsZ kind l : Nat) : Int)) ∧ Below w.heap.size w w' := by
  subst hk
  have HM := Lib.hid (fun W (hb : Below w.heap.size w W) => mayBe_any 1 first A l n c data W (cls_step hC hb) hn hm)
  have HS := Lib.hid (may_short hmay)
  rw [hmay] at HM
  have HNB := Lib.hid (nb_new w 1 first A n c data)
  have hds : (data.size : Int) ≤ 505 := by have := (may_short hmay).2; omega
  have HN := Lib.hid hn
  have HHD : Hid (∀ x : Nat, headZ 1 data = x → x ≤ 600) := Lib.hid (fun x hx => by
    rw [← hx]
    unfold headZ
    split <;> omega)
  clear hn hmay
  go_enter Tryd.func13, Tryd.ntmps13
  obtain ⟨c0, c1, c2, c3⟩ := cell4 HNB.out.1
  go_wp2_with fail
  refine (HM.out _ HNB.out.2).mono ?_
  rintro e w2 ⟨rfl, hb2⟩
  have hnb := nb_below HNB.out hb2
  clear c0 c1 c2 c3
  obtain ⟨c0, c1, c2, c3⟩ := cell4 hnb.1
  have HNB2 := Lib.hid hnb
  clear hb2 hnb HNB HM
  go_wp2
  go_loopw [3, 21] (fun s i wr => ∃ j : Nat, j ≤ n ∧ i = .int .i64 j ∧ s = .int .i64 ((headZ 1 data + cellsZ 1 (l.take j) : Nat) : Int) ∧ Nb w 1 first A n c data wr) (fun _ i _ => n - (intOf i).toNat)
  case atStart => exact ⟨0, by omega, rfl, by simp [headZ, cellsZ]; try omega, HNB2.out⟩
  case round =>
    obtain ⟨j, hj, rfl, rfl, hnb⟩ := hrel
    by_cases hjn : j < n
    · have hlt : j < l.length := by have := HN.out; omega
      obtain ⟨b, o, rfl, hbl, hcs⟩ := cls_get hC (fun e => by rw [e] at hlt; simp at hlt)
      obtain ⟨a0, a1, a2, a3⟩ := cells4_below (hcs j l[j] (List.getElem?_eq_getElem hlt)) hnb.2 hbl
      have hts := take_snoc' l j hlt
      have hsh := HS.out.1 l[j] (List.getElem_mem hlt)
      have hsum := cellsZ_le (kind := 1) (l.take j) (fun c hc => HS.out.1 c (List.mem_of_mem_take hc))
      rw [List.length_take] at hsum
      obtain ⟨x, hx⟩ : ∃ x, l[j] = x := ⟨_, rfl⟩
      rw [hx] at a0 a1 a2 a3 hts hsh
      obtain ⟨k, z, lo, p⟩ := x
      simp only at a0 a1 a2 a3 hsh
      have HTS : Hid (cellsZ 1 (l.take (j + 1)) = cellsZ 1 (l.take j) + cellZ 1 ⟨k, z, lo, p⟩) := Lib.hid (by rw [hts, cellsZ_snoc])
      have hnb2 := nb_below hnb (one_alloc (o := .cells #[.string k, .int .i64 z, .string lo, .int .i64 p] 30))
      obtain ⟨d0, d1, d2, d3⟩ := cell4 hnb2.1
      have HNB3 := Lib.hid hnb2
      have hjI : (j : Int) < n := by omega
      have hk1 : (k.size : Int) ≤ 100 := by omega
      have hl1 : (lo.size : Int) ≤ 100 := by omega
      have hhd := HHD.out _ rfl
      have hsumI : ((headZ 1 data + cellsZ 1 (l.take j) : Nat) : Int) ≤ 300000000 := by omega
      generalize hg : headZ 1 data + cellsZ 1 (l.take j) = S at *
      have HG := Lib.hid hg
      have HHD2 := Lib.hid hhd
      have HNV : Hid (∀ v : Int, v = ((S + cellZ 1 ⟨k, z, lo, p⟩ : Nat) : Int) → Value.int .i64 v = .int .i64 ((headZ 1 data + cellsZ 1 (l.take (j + 1)) : Nat) : Int)) := Lib.hid (fun v hv => by rw [hv, HTS.out, ← hg]; congr 1; omega)
      clear hcs hx hts hsh hsum hnb hnb2 hhd hg hlt hbl
      go_wp2
      all_goals
        go_roundw
        case rel => exact ⟨j + 1, by omega, by go_num, HNV.out _ (by rw [cellZ_1]; simp only; split <;> omega), HNB3.out⟩
        case measure => simp [intOf]; omega
    · obtain rfl : j = n := by omega
      have HR : Hid (l.take j = l) := Lib.hid (List.take_of_length_le (by have := HN.out; omega))
      rw [HR.out]
      have HB := Lib.hid hnb.2
      clear hnb
      go_wp2
      go_ret
      exact ⟨rfl, HB.out⟩
set_option maxRecDepth 100000 in
set_option maxHeartbeats 8000000 in
theorem size_2 (kind first : Int) (A : Option Addr) (l : List Cl) (n c : Nat) (data : ByteArray) (w : World) (hC : Cls w w.heap.size A l) (hn : n = l.length) (hm : n ≤ 1000000) (hk : kind = 2) (hmay : mayB kind first l data = true) :
    Calls Tryd.prog 13 #[.agg #[.int .u8 kind, .int .i64 first, .slice A n c, .string data]] w fun e w' => e = .returned (.int .i64 ((headZ kind data + cellsZ kind l : Nat) : Int)) ∧ Below w.heap.size w w' := by
  subst hk
  have HM := Lib.hid (fun W (hb : Below w.heap.size w W) => mayBe_any 2 first A l n c data W (cls_step hC hb) hn hm)
  have HS := Lib.hid (may_short hmay)
  rw [hmay] at HM
  have HNB := Lib.hid (nb_new w 2 first A n c data)
  have hds : (data.size : Int) ≤ 505 := by have := (may_short hmay).2; omega
  have HN := Lib.hid hn
  have HHD : Hid (∀ x : Nat, headZ 2 data = x → x ≤ 600) := Lib.hid (fun x hx => by
    rw [← hx]
    unfold headZ
    split <;> omega)
  clear hn hmay
  go_enter Tryd.func13, Tryd.ntmps13
  obtain ⟨c0, c1, c2, c3⟩ := cell4 HNB.out.1
  go_wp2_with fail
  refine (HM.out _ HNB.out.2).mono ?_
  rintro e w2 ⟨rfl, hb2⟩
  have hnb := nb_below HNB.out hb2
  clear c0 c1 c2 c3
  obtain ⟨c0, c1, c2, c3⟩ := cell4 hnb.1
  have HNB2 := Lib.hid hnb
  clear hb2 hnb HNB HM
  go_wp2
  go_loopw [3, 21] (fun s i wr => ∃ j : Nat, j ≤ n ∧ i = .int .i64 j ∧ s = .int .i64 ((headZ 2 data + cellsZ 2 (l.take j) : Nat) : Int) ∧ Nb w 2 first A n c data wr) (fun _ i _ => n - (intOf i).toNat)
  case atStart => exact ⟨0, by omega, rfl, by simp [headZ, cellsZ]; try omega, HNB2.out⟩
  case round =>
    obtain ⟨j, hj, rfl, rfl, hnb⟩ := hrel
    by_cases hjn : j < n
    · have hlt : j < l.length := by have := HN.out; omega
      obtain ⟨b, o, rfl, hbl, hcs⟩ := cls_get hC (fun e => by rw [e] at hlt; simp at hlt)
      obtain ⟨a0, a1, a2, a3⟩ := cells4_below (hcs j l[j] (List.getElem?_eq_getElem hlt)) hnb.2 hbl
      have hts := take_snoc' l j hlt
      have hsh := HS.out.1 l[j] (List.getElem_mem hlt)
      have hsum := cellsZ_le (kind := 2) (l.take j) (fun c hc => HS.out.1 c (List.mem_of_mem_take hc))
      rw [List.length_take] at hsum
      obtain ⟨x, hx⟩ : ∃ x, l[j] = x := ⟨_, rfl⟩
      rw [hx] at a0 a1 a2 a3 hts hsh
      obtain ⟨k, z, lo, p⟩ := x
      simp only at a0 a1 a2 a3 hsh
      have HTS : Hid (cellsZ 2 (l.take (j + 1)) = cellsZ 2 (l.take j) + cellZ 2 ⟨k, z, lo, p⟩) := Lib.hid (by rw [hts, cellsZ_snoc])
      have hnb2 := nb_below hnb (one_alloc (o := .cells #[.string k, .int .i64 z, .string lo, .int .i64 p] 30))
      obtain ⟨d0, d1, d2, d3⟩ := cell4 hnb2.1
      have HNB3 := Lib.hid hnb2
      have hjI : (j : Int) < n := by omega
      have hk1 : (k.size : Int) ≤ 100 := by omega
      have hl1 : (lo.size : Int) ≤ 100 := by omega
      have hhd := HHD.out _ rfl
      have hsumI : ((headZ 2 data + cellsZ 2 (l.take j) : Nat) : Int) ≤ 300000000 := by omega
      generalize hg : headZ 2 data + cellsZ 2 (l.take j) = S at *
      have HG := Lib.hid hg
      have HHD2 := Lib.hid hhd
      have HNV : Hid (∀ v : Int, v = ((S + cellZ 2 ⟨k, z, lo, p⟩ : Nat) : Int) → Value.int .i64 v = .int .i64 ((headZ 2 data + cellsZ 2 (l.take (j + 1)) : Nat) : Int)) := Lib.hid (fun v hv => by rw [hv, HTS.out, ← hg]; congr 1; omega)
      clear hcs hx hts hsh hsum hnb hnb2 hhd hg hlt hbl
      go_wp2
      all_goals
        go_roundw
        case rel => exact ⟨j + 1, by omega, by go_num, HNV.out _ (by rw [cellZ_2]; simp only; omega), HNB3.out⟩
        case measure => simp [intOf]; omega
    · obtain rfl : j = n := by omega
      have HR : Hid (l.take j = l) := Lib.hid (List.take_of_length_le (by have := HN.out; omega))
      rw [HR.out]
      have HB := Lib.hid hnb.2
      clear hnb
      go_wp2
      go_ret
      exact ⟨rfl, HB.out⟩
set_option maxRecDepth 100000 in
set_option maxHeartbeats 8000000 in
theorem size_3 (first : Int) (A : Option Addr) (l : List Cl) (n c : Nat) (data : ByteArray) (w : World) (hC : Cls w w.heap.size A l) (hn : n = l.length) (hm : n ≤ 1000000) (hmay : mayB 3 first l data = true) (hl : l = []) :
    Calls Tryd.prog 13 #[.agg #[.int .u8 3, .int .i64 first, .slice A n c, .string data]] w fun e w' => e = .returned (.int .i64 ((headZ 3 data + cellsZ 3 l : Nat) : Int)) ∧ Below w.heap.size w w' := by
  have HM := Lib.hid (fun W (hb : Below w.heap.size w W) => mayBe_any 3 first A l n c data W (cls_step hC hb) hn hm)
  rw [hmay] at HM
  have HNB := Lib.hid (nb_new w 3 first A n c data)
  have hds : (data.size : Int) ≤ 505 := by have := (may_short hmay).2; omega
  subst hl
  obtain rfl : n = 0 := by simpa using hn
  have HV : Hid (((headZ 3 data + cellsZ 3 [] : Nat) : Int) = 3 + (data.size : Int) + 4) := Lib.hid (by simp [headZ, cellsZ])
  clear hn hmay hC hm
  go_enter Tryd.func13, Tryd.ntmps13
  obtain ⟨c0, c1, c2, c3⟩ := cell4 HNB.out.1
  go_wp2_with fail
  refine (HM.out _ HNB.out.2).mono ?_
  rintro e w2 ⟨rfl, hb2⟩
  have hnb := nb_below HNB.out hb2
  clear c0 c1 c2 c3
  obtain ⟨c0, c1, c2, c3⟩ := cell4 hnb.1
  have HNB2 := Lib.hid hnb
  clear hb2 hnb HNB HM
  go_wp2
  go_loopw [3, 21] (fun s i wr => i = .int .i64 0 ∧ s = .int .i64 (3 + (data.size : Int) + 4) ∧ Nb w 3 first A 0 c data wr) (fun _ i _ => 0)
  case atStart => exact ⟨rfl, rfl, HNB2.out⟩
  case round =>
    obtain ⟨rfl, rfl, hnb⟩ := hrel
    have HB := Lib.hid hnb.2
    clear hnb
    go_wp2
    go_ret
    exact ⟨ret_i64 HV.out.symm, HB.out⟩
set_option maxRecDepth 100000 in
set_option maxHeartbeats 8000000 in
theorem size_4 (first : Int) (A : Option Addr) (l : List Cl) (n c : Nat) (data : ByteArray) (w : World) (hC : Cls w w.heap.size A l) (hn : n = l.length) (hm : n ≤ 1000000) (hmay : mayB 4 first l data = true) (hl : l = []) :
    Calls Tryd.prog 13 #[.agg #[.int .u8 4, .int .i64 first, .slice A n c, .string data]] w fun e w' => e = .returned (.int .i64 ((headZ 4 data + cellsZ 4 l : Nat) : Int)) ∧ Below w.heap.size w w' := by
  have HM := Lib.hid (fun W (hb : Below w.heap.size w W) => mayBe_any 4 first A l n c data W (cls_step hC hb) hn hm)
  rw [hmay] at HM
  have HNB := Lib.hid (nb_new w 4 first A n c data)
  have hds : (data.size : Int) ≤ 505 := by have := (may_short hmay).2; omega
  subst hl
  obtain rfl : n = 0 := by simpa using hn
  have HV : Hid (((headZ 4 data + cellsZ 4 [] : Nat) : Int) = 3 + (data.size : Int) + 4) := Lib.hid (by simp [headZ, cellsZ])
  clear hn hmay hC hm
  go_enter Tryd.func13, Tryd.ntmps13
  obtain ⟨c0, c1, c2, c3⟩ := cell4 HNB.out.1
  go_wp2_with fail
  refine (HM.out _ HNB.out.2).mono ?_
  rintro e w2 ⟨rfl, hb2⟩
  have hnb := nb_below HNB.out hb2
  clear c0 c1 c2 c3
  obtain ⟨c0, c1, c2, c3⟩ := cell4 hnb.1
  have HNB2 := Lib.hid hnb
  clear hb2 hnb HNB HM
  go_wp2
  go_loopw [3, 21] (fun s i wr => i = .int .i64 0 ∧ s = .int .i64 (3 + (data.size : Int) + 4) ∧ Nb w 4 first A 0 c data wr) (fun _ i _ => 0)
  case atStart => exact ⟨rfl, rfl, HNB2.out⟩
  case round =>
    obtain ⟨rfl, rfl, hnb⟩ := hrel
    have HB := Lib.hid hnb.2
    clear hnb
    go_wp2
    go_ret
    exact ⟨ret_i64 HV.out.symm, HB.out⟩
set_option maxRecDepth 100000 in
set_option maxHeartbeats 8000000 in
theorem size_bad (kind first : Int) (A : Option Addr) (l : List Cl) (n c : Nat) (data : ByteArray) (w : World) (hC : Cls w w.heap.size A l) (hn : n = l.length) (hm : n ≤ 1000000) (hmay : mayB kind first l data = false) :
    Calls Tryd.prog 13 #[.agg #[.int .u8 kind, .int .i64 first, .slice A n c, .string data]] w fun e w' => e = .returned (.int .i64 0) ∧ Below w.heap.size w w' := by
  have HM := Lib.hid (fun W (hb : Below w.heap.size w W) => mayBe_any kind first A l n c data W (cls_step hC hb) hn hm)
  rw [hmay] at HM
  have HNB := Lib.hid (nb_new w kind first A n c data)
  clear hn hmay hC hm
  go_enter Tryd.func13, Tryd.ntmps13
  obtain ⟨c0, c1, c2, c3⟩ := cell4 HNB.out.1
  go_wp2_with fail
  refine (HM.out _ HNB.out.2).mono ?_
  rintro e w2 ⟨rfl, hb2⟩
  have HB := Lib.hid (nb_below HNB.out hb2).2
  clear c0 c1 c2 c3 hb2 HNB HM
  go_wp2
  go_ret
  exact ⟨rfl, HB.out⟩
theorem size_any (kind first : Int) (A : Option Addr) (l : List Cl) (n c : Nat) (data : ByteArray) (w : World) (hC : Cls w w.heap.size A l) (hn : n = l.length) (hm : n ≤ 1000000) :
    Calls Tryd.prog 13 #[.agg #[.int .u8 kind, .int .i64 first, .slice A n c, .string data]] w fun e w' => e = .returned (.int .i64 (sizeZ kind first l data)) ∧ Below w.heap.size w w' := by
  unfold sizeZ
  cases h : mayB kind first l data
  · exact size_bad kind first A l n c data w hC hn hm h
  · by_cases h1 : kind = 1
    · exact size_1 kind first A l n c data w hC hn hm h1 h
    by_cases h2 : kind = 2
    · exact size_2 kind first A l n c data w hC hn hm h2 h
    have h' := h
    unfold mayB at h'
    rw [if_neg h1, if_neg h2] at h'
    by_cases h3 : kind = 3
    · subst h3
      rw [if_pos rfl] at h'
      simp only [Bool.and_eq_true, beq_iff_eq] at h'
      exact size_3 first A l n c data w hC hn hm h (List.eq_nil_of_length_eq_zero h'.1.1.2)
    by_cases h4 : kind = 4
    · subst h4
      rw [if_neg h3, if_pos rfl] at h'
      simp only [Bool.and_eq_true, beq_iff_eq] at h'
      exact size_4 first A l n c data w hC hn hm h (List.eq_nil_of_length_eq_zero h'.1.2)
    rw [if_neg h3, if_neg h4] at h'
    cases h'
end Go.Proofs.YticpenbebokjdaaDoor
