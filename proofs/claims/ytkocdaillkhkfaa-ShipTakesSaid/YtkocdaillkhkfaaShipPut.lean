/- ship.mayBe and ship.Put. Conditions: the numbers fit their kinds, the texts together are no longer than a machine has addresses. -/
import Derived.Test.YtkocdaillkhkfaaShip1
import Derived.Deep.RegionHeld3
import Derived.Deep.DeepCutAuto
namespace Go.Proofs.Ytkocdaillkhkfaa
open Go.RowKit
def shipOk (kind K : Int) (full : Bool) (pages : Int) (l : List (Int × ByteArray)) : Bool :=
  if kind = 1 then decide (1 ≤ pages) && decide (pages ≤ 256) && decide (0 < K) && imgsOk 0 l pages && (!full || decide ((l.length : Int) = pages))
  else if kind = 2 then !full && decide (pages = 0) && decide (l.length = 0) else false
set_option maxRecDepth 100000 in
set_option maxHeartbeats 8000000 in
theorem mayBe_any (kind ep K pages : Int) (full : Bool) (A : Option Addr) (l : List (Int × ByteArray)) (n c : Nat) (b : Bool) (w : World) (hI : Imgs w w.heap.size A l) (hn : n = l.length) (hm : n ≤ maxLen) (hok : shipOk kind K full pages l = b) :
    Calls Try.prog 19 #[.agg #[.int .u8 kind, .int .u64 ep, .int .u64 K, .bool full, .int .i64 pages, .slice A n c]] w fun e w' => e = .returned (.bool b) ∧ Below w.heap.size w w' := by
  have hb0 : Below w.heap.size w (w.alloc (.cells #[.int .u8 kind, .int .u64 ep, .int .u64 K, .bool full, .int .i64 pages, .slice A n c] 28)) := (Below.refl _ _).alloc (Nat.le_refl _) _
  have hcall := imagesMayBe_any A l n c pages (w.alloc (.cells #[.int .u8 kind, .int .u64 ep, .int .u64 K, .bool full, .int .i64 pages, .slice A n c] 28)) (imgs_mono (imgs_below hI hb0) hb0.size) hn hm
  unfold maxLen at hm
  have hnI : (n : Int) = l.length := by omega
  by_cases k1 : kind = 1
  · have e1 : (kind == 1) = true := by simpa using k1
    unfold shipOk at hok
    rw [if_pos k1] at hok
    clear k1
    by_cases h1 : 1 ≤ pages
    · by_cases h2 : pages ≤ 256
      · by_cases h3 : 0 < K
        · rw [decide_eq_true h1, decide_eq_true h2, decide_eq_true h3, Bool.true_and, Bool.true_and, Bool.true_and] at hok
          generalize imgsOk 0 l pages = im at *
          have HCALL := Lib.hid hcall
          clear hcall
          cases im
          · obtain rfl : b = false := by rw [← hok]; rfl
            clear hok hn hnI hI
            go_enter Try.func19, Try.ntmps19
            go_wp2_with (go_at_call 38; refine (HCALL.out).mono ?_; rintro e w2 ⟨rfl, hb2⟩; (have hk2 := blk_at hb2); (have d3 : w2.cell? ⟨w.heap.size, 3, none⟩ = some (.bool _) := hk2.cell 3); (have d4 : w2.cell? ⟨w.heap.size, 4, none⟩ = some (.int .i64 pages) := hk2.cell 4); (have d5 : w2.cell? ⟨w.heap.size, 5, none⟩ = some (.slice A n c) := hk2.cell 5))
            go_ret
            exact ⟨rfl, bj hb0 hb2⟩
          · cases full
            · obtain rfl : b = true := by rw [← hok]; rfl
              clear hok hn hnI hI
              go_enter Try.func19, Try.ntmps19
              go_wp2_with (go_at_call 38; refine (HCALL.out).mono ?_; rintro e w2 ⟨rfl, hb2⟩; (have hk2 := blk_at hb2); (have d3 : w2.cell? ⟨w.heap.size, 3, none⟩ = some (.bool _) := hk2.cell 3); (have d4 : w2.cell? ⟨w.heap.size, 4, none⟩ = some (.int .i64 pages) := hk2.cell 4); (have d5 : w2.cell? ⟨w.heap.size, 5, none⟩ = some (.slice A n c) := hk2.cell 5))
              go_ret
              exact ⟨rfl, bj hb0 hb2⟩
            · by_cases h4 : (n : Int) = pages
              · obtain rfl : b = true := by rw [← hok]; simp; omega
                have h4' : ((n : Int) == pages) = true := by simpa using h4
                clear h4
                clear hok hn hnI hI
                go_enter Try.func19, Try.ntmps19
                go_wp2_with (go_at_call 38; refine (HCALL.out).mono ?_; rintro e w2 ⟨rfl, hb2⟩; (have hk2 := blk_at hb2); (have d3 : w2.cell? ⟨w.heap.size, 3, none⟩ = some (.bool _) := hk2.cell 3); (have d4 : w2.cell? ⟨w.heap.size, 4, none⟩ = some (.int .i64 pages) := hk2.cell 4); (have d5 : w2.cell? ⟨w.heap.size, 5, none⟩ = some (.slice A n c) := hk2.cell 5))
                go_ret
                exact ⟨rfl, bj hb0 hb2⟩
              · obtain rfl : b = false := by rw [← hok]; simp; omega
                have h4' : ((n : Int) == pages) = false := by simpa using h4
                clear h4
                clear hok hn hnI hI
                go_enter Try.func19, Try.ntmps19
                go_wp2_with (go_at_call 38; refine (HCALL.out).mono ?_; rintro e w2 ⟨rfl, hb2⟩; (have hk2 := blk_at hb2); (have d3 : w2.cell? ⟨w.heap.size, 3, none⟩ = some (.bool _) := hk2.cell 3); (have d4 : w2.cell? ⟨w.heap.size, 4, none⟩ = some (.int .i64 pages) := hk2.cell 4); (have d5 : w2.cell? ⟨w.heap.size, 5, none⟩ = some (.slice A n c) := hk2.cell 5))
                go_ret
                exact ⟨rfl, bj hb0 hb2⟩
        · obtain rfl : b = false := by rw [← hok]; simp [h3]
          have h3' : decide (0 < K) = false := by simpa using h3
          clear hok hn hnI hI hcall
          go_enter Try.func19, Try.ntmps19
          go_wp2
          go_ret
          exact ⟨rfl, hb0⟩
      · obtain rfl : b = false := by rw [← hok]; simp [h2]
        have h2' : decide (pages ≤ 256) = false := by simpa using h2
        clear hok hn hnI hI hcall
        go_enter Try.func19, Try.ntmps19
        go_wp2
        go_ret
        exact ⟨rfl, hb0⟩
    · obtain rfl : b = false := by rw [← hok]; simp [h1]
      have h1' : decide (1 ≤ pages) = false := by simpa using h1
      clear hok hn hnI hI hcall
      go_enter Try.func19, Try.ntmps19
      go_wp2
      go_ret
      exact ⟨rfl, hb0⟩
  · have e1 : (kind == 1) = false := by simpa using k1
    unfold shipOk at hok
    rw [if_neg k1] at hok
    clear k1
    by_cases k2 : kind = 2
    · have e2 : (kind == 2) = true := by simpa using k2
      rw [if_pos k2] at hok
      clear k2
      cases full
      · by_cases h1 : pages = 0
        · have h1' : (pages == 0) = true := by simpa using h1
          by_cases h2 : n = 0
          · obtain rfl : b = true := by rw [← hok, decide_eq_true h1, decide_eq_true (show l.length = 0 from by omega)]; rfl
            have h2' : ((n : Int) == 0) = true := by rw [h2]; rfl
            clear hok hn hnI hI hcall h1 h2
            go_enter Try.func19, Try.ntmps19
            go_wp2
            go_ret
            exact ⟨rfl, hb0⟩
          · obtain rfl : b = false := by rw [← hok, decide_eq_true h1, decide_eq_false (show ¬ l.length = 0 from by omega)]; rfl
            have h2' : ((n : Int) == 0) = false := by rw [beq_eq_false_iff_ne]; omega
            clear hok hn hnI hI hcall h1 h2
            go_enter Try.func19, Try.ntmps19
            go_wp2
            go_ret
            exact ⟨rfl, hb0⟩
        · obtain rfl : b = false := by rw [← hok]; simp [h1]
          have h1' : (pages == 0) = false := by simpa using h1
          clear hok hn hnI hI hcall h1
          go_enter Try.func19, Try.ntmps19
          go_wp2
          go_ret
          exact ⟨rfl, hb0⟩
      · obtain rfl : b = false := by rw [← hok]; simp
        clear hok hn hnI hI hcall
        go_enter Try.func19, Try.ntmps19
        go_wp2
        go_ret
        exact ⟨rfl, hb0⟩
    · have e2 : (kind == 2) = false := by simpa using k2
      rw [if_neg k2] at hok
      subst hok
      clear k2 hn hnI hI hcall
      go_enter Try.func19, Try.ntmps19
      go_wp2
      go_ret
      exact ⟨rfl, hb0⟩
theorem bjaad {a c : World} {o q : Obj} (k : Below ((a.alloc o).alloc q).drew.heap.size ((a.alloc o).alloc q).drew c) : Below a.heap.size a c :=
  ((((Below.refl _ _).alloc (Nat.le_refl _) o).alloc (by simp) q).drew).trans (k.mono (by simp; omega))
theorem blk_newd (w : World) (g : Nat) (t : TypeId) (cs : Array Value) (hg : w.heap.size = g) : Blk (w.alloc (.cells cs t)).drew g t cs := by
  subst hg; exact Blk.new w t cs
def sumT (L : List Nat) : List Nat := textL (addL L (0, 0)).1 (addL L (0, 0)).2
def imgL (x : Int × ByteArray) : List Nat := eightL x.1.toNat ++ bts x.2
def imgsL (l : List (Int × ByteArray)) : List Nat := l.flatMap imgL
def shipH (kind ep K : Nat) (full : Bool) (pages n : Nat) : List Nat := flat8 [kind, ep, K, if full then 1 else 0, pages, n]
def shipB (kind ep K : Nat) (full : Bool) (pages : Nat) (l : List (Int × ByteArray)) : List Nat := shipH kind ep K full pages l.length ++ imgsL l
def shipL (kind ep K : Nat) (full : Bool) (pages : Nat) (l : List (Int × ByteArray)) : List Nat := sumT (shipB kind ep K full pages l) ++ shipB kind ep K full pages l
theorem shipH_length (kind ep K : Nat) (full : Bool) (pages n : Nat) : (shipH kind ep K full pages n).length = 48 := by unfold shipH; rw [flat8_length]; rfl
theorem imgsL_take (l : List (Int × ByteArray)) (j : Nat) (h : j < l.length) : imgsL (l.take (j + 1)) = imgsL (l.take j) ++ imgL l[j] := by
  unfold imgsL
  rw [List.take_succ_eq_append_getElem h, List.flatMap_append]
  simp
theorem imgsL_length (l : List (Int × ByteArray)) (h : ∀ x ∈ l, x.2.size = 512) : (imgsL l).length = 520 * l.length := by
  induction l with
  | nil => rfl
  | cons x l ih =>
    have h1 := h x (by simp)
    have h2 := ih (fun y hy => h y (by simp [hy]))
    unfold imgsL at h2 ⊢
    rw [List.flatMap_cons, List.length_append, h2, List.length_cons]
    unfold imgL
    rw [List.length_append, bts_length, h1]
    show 8 + 512 + _ = _
    omega
theorem bw_empty {T e : TypeId} {B b : Nat} {w : World} (h : Lib.IsBuilder T e B b [] w) : Lib.IsBuilder T e B b (Lib.strCells (bstr [])) w := h
set_option maxRecDepth 100000 in
set_option maxHeartbeats 4000000 in
theorem shipPut_bad (kind ep K pages : Int) (full : Bool) (A : Option Addr) (l : List (Int × ByteArray)) (n c : Nat) (w : World) (hI : Imgs w w.heap.size A l) (hn : n = l.length) (hm : n ≤ maxLen) (hok : shipOk kind K full pages l = false) :
    Calls Try.prog 10 #[.agg #[.int .u8 kind, .int .u64 ep, .int .u64 K, .bool full, .int .i64 pages, .slice A n c]] w fun e w' => e = .returned (.tuple #[.string ⟨#[]⟩, .int .i64 2]) ∧ Below w.heap.size w w' := by
  have hb0 : Below w.heap.size w (w.alloc (.cells #[.int .u8 kind, .int .u64 ep, .int .u64 K, .bool full, .int .i64 pages, .slice A n c] 28)) := (Below.refl _ _).alloc (Nat.le_refl _) _
  have hcall := mayBe_any kind ep K pages full A l n c false (w.alloc (.cells #[.int .u8 kind, .int .u64 ep, .int .u64 K, .bool full, .int .i64 pages, .slice A n c] 28)) (imgs_mono (imgs_below hI hb0) hb0.size) hn hm hok
  have HCALL := Lib.hid hcall
  clear hcall hn hok
  go_enter Try.func10, Try.ntmps10
  go_wp2_with fail
  refine (HCALL.out).mono ?_
  rintro e w1 ⟨rfl, hb1⟩
  go_wp2
  go_ret2
  exact ⟨rfl, bj hb0 hb1⟩
def Sb (w : World) (kind ep K pages : Int) (full : Bool) (A : Option Addr) (n c : Nat) (W : World) : Prop := Blk W w.heap.size 28 #[.int .u8 kind, .int .u64 ep, .int .u64 K, .bool full, .int .i64 pages, .slice A n c] ∧ Below w.heap.size w W
theorem sbS {w W : World} {kind ep K pages : Int} {full : Bool} {A : Option Addr} {n c : Nat} (h : Sb w kind ep K pages full A n c W) : W.cell? ⟨w.heap.size, 0, none⟩ = some (.int .u8 kind) ∧ W.cell? ⟨w.heap.size, 1, none⟩ = some (.int .u64 ep) ∧ W.cell? ⟨w.heap.size, 2, none⟩ = some (.int .u64 K) ∧ W.cell? ⟨w.heap.size, 3, none⟩ = some (.bool full) ∧ W.cell? ⟨w.heap.size, 4, none⟩ = some (.int .i64 pages) ∧ W.cell? ⟨w.heap.size, 5, none⟩ = some (.slice A n c) :=
  ⟨h.1.cell 0, h.1.cell 1, h.1.cell 2, h.1.cell 3, h.1.cell 4, h.1.cell 5⟩
theorem sb_step {w W w' : World} {kind ep K pages : Int} {full : Bool} {A : Option Addr} {n c : Nat} (hb : Below W.heap.size W w') (h : Sb w kind ep K pages full A n c W) : Sb w kind ep K pages full A n c w' := ⟨blk_step h.1 hb, bj h.2 hb⟩
set_option maxRecDepth 100000 in
set_option maxHeartbeats 8000000 in
theorem shipPut_head (kind ep K pages : Nat) (full : Bool) (A : Option Addr) (l : List (Int × ByteArray)) (n c : Nat) (w : World) (hI : Imgs w w.heap.size A l) (hn : n = l.length) (hm : n ≤ 256) (hkind : kind < 256) (hep : ep < 18446744073709551616) (hK : K < 18446744073709551616) (hp : pages ≤ 256) (h512 : ∀ x ∈ l, x.2.size = 512 ∧ 0 ≤ x.1 ∧ x.1 ≤ 256) (hok : shipOk kind K full pages l = true) :
    Calls Try.prog 10 #[.agg #[.int .u8 kind, .int .u64 ep, .int .u64 K, .bool full, .int .i64 pages, .slice A n c]] w fun e w' => e = .returned (.tuple #[.string (bstr (shipL kind ep K full pages l)), .int .i64 0]) ∧ Below w.heap.size w w' := by
  have hb0 : Below w.heap.size w (w.alloc (.cells #[.int .u8 kind, .int .u64 ep, .int .u64 K, .bool full, .int .i64 pages, .slice A n c] 28)) := (Below.refl _ _).alloc (Nat.le_refl _) _
  have hs0 : Sb w kind ep K pages full A n c (w.alloc (.cells #[.int .u8 kind, .int .u64 ep, .int .u64 K, .bool full, .int .i64 pages, .slice A n c] 28)) := ⟨Blk.new _ _ _, hb0⟩
  have hcall := mayBe_any kind ep K pages full A l n c true (w.alloc (.cells #[.int .u8 kind, .int .u64 ep, .int .u64 K, .bool full, .int .i64 pages, .slice A n c] 28)) (imgs_mono (imgs_below hI hb0) hb0.size) hn (by unfold maxLen; omega) hok
  have HCALL := Lib.hid hcall
  have HN := Lib.hid hn
  have H512 := Lib.hid h512
  clear hcall hok hn h512
  have hl0 : l.length = n := HN.out.symm
  have HH := Lib.hid (shipH_length kind ep K full pages n)
  have HIL := Lib.hid (imgsL_length l (fun x hx => (H512.out x hx).1))
  have hif : ∀ x ∈ [kind, ep, K, if full then 1 else 0, pages, n], x < 18446744073709551616 := by
    intro x hx
    simp only [List.mem_cons, List.not_mem_nil, or_false] at hx
    rcases hx with rfl | rfl | rfl | rfl | rfl | rfl
    · omega
    · exact hep
    · exact hK
    · split <;> omega
    · omega
    · omega
  have HIF := Lib.hid hif
  have HL0 := Lib.hid hl0
  have hw1 : IntKind.u64.wrap (pages : Int) = pages := by simp [IntKind.wrap, IntKind.bits, IntKind.signed]; omega
  have hw2 : IntKind.u64.wrap (n : Int) = n := by simp [IntKind.wrap, IntKind.bits, IntKind.signed]; omega
  clear hif hl0 hep hK
  cases full
  · have hnum : ∀ (W : World) (g : Nat), Blk W g 25 #[.int .u64 kind, .int .u64 ep, .int .u64 K, .int .u64 0, .int .u64 pages, .int .u64 n] → Calls Try.prog 21 #[.slice (some ⟨g, 0, none⟩) 6 6] W fun e w' => e = .returned (.string (bstr (shipH kind ep K false pages n))) ∧ Below W.heap.size W w' := fun W g hB =>
      numbers_any g _ [kind, ep, K, if false then 1 else 0, pages, n] 6 6 W hB rfl (by omega) HIF.out
    have hsz : (bstr (shipH kind ep K false pages n)).size = 48 := by rw [bstr_size, HH.out]
    have hbt : bts (bstr (shipH kind ep K false pages n)) = shipH kind ep K false pages n := bts_bstr _ (fun x hx => by
      unfold shipH flat8 at hx
      obtain ⟨y, _, hy⟩ := List.mem_flatMap.1 hx
      exact eight_lt y x hy)
    generalize hHS : bstr (shipH kind ep K false pages n) = HS at *
    have HNUM := Lib.hid hnum
    have HBT := Lib.hid hbt
    have HHS := Lib.hid hHS
    clear hnum hbt hHS
    go_enter Try.func10, Try.ntmps10
    go_wp2_with fail
    refine (HCALL.out).mono ?_
    rintro e w1 ⟨rfl, hb1⟩
    have hs1 := sb_step hb1 hs0
    have hs1' := sb_step ((Below.refl w1.heap.size w1).alloc (Nat.le_refl _) (.cells #[.pointer none, .slice none 0 0] 44)) hs1
    obtain ⟨c0, c1, c2, c3, c4, c5⟩ := sbS hs1
    obtain ⟨d0, d1, d2, d3, d4, d5⟩ := sbS hs1'
    clear hs0 HCALL
    go_wp2_with fail
    refine (HNUM.out _ _ (blk_new _ _ _ _ (by simp))).mono ?_
    rintro e w2 ⟨rfl, hb2⟩
    have hbB := bja _ (Below.refl _ _) hb2
    have hI0 := builder_below (bw_empty (builder_new w1 44 5)) hbB
    have hs2 := sb_step hbB hs1'
    have hlt1 : w.heap.size < w1.heap.size := hs1.1.lt
    have hw1b := hs1.2
    have hB1 : w1.heap.size ≤ w2.heap.size := by have := hbB.size; simp at this; omega
    have HBB := Lib.hid (show Below w1.heap.size w1 w2 from ((Below.refl _ _).alloc (Nat.le_refl _) _).trans (hbB.mono (by simp)))
    clear c0 c1 c2 c3 c4 c5 d0 d1 d2 d3 d4 d5 hb2 hs1 hs1' hbB
    have hws := bws w1.heap.size w1.heap.size [] HS w2 hI0 (by rw [hsz]; simp) hB1
    have HWS := Lib.hid hws
    clear hws hI0
    go_wp2_with fail
    refine (HWS.out).mono ?_
    rintro e w3 ⟨rfl, hI3, hb3⟩
    rw [HBT.out, List.nil_append] at hI3
    have hbw3 : Below w1.heap.size w1 w3 := HBB.out.trans hb3
    have d5 : w3.cell? ⟨w.heap.size, 5, none⟩ = some (.slice A n c) := (hb3.cell (p := ⟨w.heap.size, 5, none⟩) hlt1).trans (sbS hs2).2.2.2.2.2
    have hlen : l.length = n := HN.out.symm
    have hIm := imgs_mono (imgs_below hI hw1b) hw1b.size
    have HI3 := Lib.hid hI3
    have HIM := Lib.hid hIm
    have hA : 0 < n → ∃ b o, A = some ⟨b, o, none⟩ ∧ b < w1.heap.size ∧ ∀ (j : Nat) x, l[j]? = some x → w1.cell? ⟨b, o + j * 2, none⟩ = some (.int .i64 x.1) ∧ w1.cell? ⟨b, o + j * 2 + 1, none⟩ = some (.string x.2) := fun h0 => by
      rcases hIm with h | h
      · rw [h] at hlen; simp at hlen; omega
      · exact h
    have HA := Lib.hid hA
    have HLEN := Lib.hid hlen
    clear hI3 hIm hA hI hlen hb3 HWS hs2 hB1
    go_wp2_with fail
    go_loopw [35] (fun i wr => ∃ j : Nat, j ≤ n ∧ i = .int .i64 j ∧ Lib.IsBuilder 44 5 w1.heap.size w1.heap.size (Lib.strCells (bstr (shipH kind ep K false pages n ++ imgsL (l.take j)))) wr ∧ Below w1.heap.size w1 wr) (fun i _ => n - (intOf i).toNat)
    case atStart => exact ⟨0, by omega, rfl, by have h := HI3.out; rw [List.take_zero]; simpa [imgsL] using h, hbw3⟩
    case round =>
      obtain ⟨j, hj, rfl, hIj, hbr⟩ := hrel
      by_cases hjn : j < n
      · obtain ⟨b, o, rfl, hbl, hcs⟩ := HA.out (by omega)
        have hjl : j < l.length := by have := HLEN.out; omega
        obtain ⟨h1, h2⟩ := hcs j l[j] (List.getElem?_eq_getElem hjl)
        obtain ⟨x1, x2, x3⟩ := H512.out l[j] (List.getElem_mem hjl)
        have c1 := (hbr.cell (p := ⟨b, o + j * 2, none⟩) hbl).trans h1
        have c2 := (hbr.cell (p := ⟨b, o + j * 2 + 1, none⟩) hbl).trans h2
        have HT := Lib.hid (imgsL_take l j hjl)
        have hfl : (shipH kind ep K false pages n ++ imgsL (l.take j)).length ≤ 200000 := by
          rw [List.length_append, HH.out, imgsL_length _ (fun x hx => (H512.out x (List.mem_of_mem_take hx)).1), List.length_take]
          omega
        generalize l[j] = x at *
        obtain ⟨p, d⟩ := x
        simp only at c1 c2 x1 x2 x3
        obtain ⟨q, rfl⟩ := Int.eq_ofNat_of_zero_le x2
        have hn1 : ∀ (W : World) (g : Nat), Blk W g 25 #[.int .u64 q] → Calls Try.prog 21 #[.slice (some ⟨g, 0, none⟩) 1 1] W fun e w' => e = .returned (.string (bstr (eightL q))) ∧ Below W.heap.size W w' := fun W g hB => by
          have h := numbers_any g _ [q] 1 1 W hB rfl (by omega) (fun y hy => by rw [List.mem_singleton.1 hy]; omega)
          have e : flat8 [q] = eightL q := by simp [flat8]
          rw [e] at h
          exact h
        have hsz8 := eight_size q
        have hE : bts (bstr (eightL q) ++ d) = imgL ((q : Int), d) := by rw [bts_app, bts_eight]; rfl
        have hEs : (bstr (eightL q) ++ d).size = 520 := by rw [ByteArray.size_append, hsz8, x1]
        have hws := fun W hW hBW => bws w1.heap.size w1.heap.size (shipH kind ep K false pages n ++ imgsL (l.take j)) (bstr (eightL q) ++ d) W hW (by rw [hEs]; omega) hBW
        rw [hE, List.append_assoc, ← HT.out] at hws
        have hwq : IntKind.u64.wrap (q : Int) = q := by simp [IntKind.wrap, IntKind.bits, IntKind.signed]; omega
        generalize bstr (eightL q) = E at *
        have z1 : E.size + d.size ≤ 9223372036854775807 := by omega
        have z1' : ¬ (9223372036854775807 < E.size + d.size) := by omega
        have z1I : (E.size : Int) + d.size ≤ 9223372036854775807 := by omega
        have HN1 := Lib.hid hn1
        have HW := Lib.hid hws
        have HIJ := Lib.hid hIj
        clear hn1 hws hIj hE hEs hsz8 h1 h2 hcs x1 x2
        have HC2 := Lib.hid (show Blk (wr.alloc (.cells #[.int .i64 (q : Int), .string d] 51)) wr.heap.size 51 #[.int .i64 (q : Int), .string d] from Blk.new _ _ _)
        go_wp2_with fail
        go_region_with (first
          | (go_at_call 21; (refine (HN1.out _ _ (blk_newd _ _ _ _ (by simp))).mono ?_); rintro e w4 ⟨rfl, hb4⟩; (have hc4 := bjaad hb4); (have k4 := Lib.hid (builder_below HIJ.out hc4)); (have c4 : w4.cell? ⟨wr.heap.size, 1, none⟩ = some (.string d) := (blk_step ((HC2.out.alloc _).drew) hb4).cell 1))
          | (go_at_call 20; (with_reducible refine (HW.out _ k4.out (Nat.le_trans hbr.size hc4.size)).mono ?_); rintro e w5 ⟨rfl, hI5, hb5⟩; (have HI5 := Lib.hid hI5); clear hI5))
        all_goals go_wp2
        all_goals exact ⟨⟨j + 1, by omega, by go_num, HI5.out, (hbr.trans (hc4.mono hbr.size)).trans hb5⟩, by simp [intOf]; omega⟩
      · obtain rfl : j = n := by omega
        have hbody : (shipB kind ep K false pages l) = shipH kind ep K false pages j ++ imgsL (l.take j) := by
          unfold shipB
          rw [HL0.out, List.take_of_length_le (by have := HLEN.out; omega)]
        have hlt : ∀ x ∈ shipB kind ep K false pages l, x < 256 := by
          intro x hx
          unfold shipB at hx
          rcases List.mem_append.1 hx with h | h
          · unfold shipH flat8 at h
            obtain ⟨y, _, hy⟩ := List.mem_flatMap.1 h
            exact eight_lt y x hy
          · unfold imgsL at h
            obtain ⟨y, _, hy⟩ := List.mem_flatMap.1 h
            unfold imgL at hy
            rcases List.mem_append.1 hy with h' | h'
            · exact eight_lt _ x h'
            · exact bts_lt _ x h'
        have hlen2 : (shipB kind ep K false pages l).length ≤ 200000 := by
          unfold shipB
          rw [List.length_append, HL0.out, HH.out, HIL.out, HL0.out]; omega
        rw [← hbody] at hIj
        have hst := bstring _ _ _ _ hIj hbr.size
        have hYs : (bstr (shipB kind ep K false pages l)).size ≤ 200000 := by rw [bstr_size]; exact hlen2
        have hof := fun W => of_any (bstr (shipB kind ep K false pages l)) W (by omega)
        rw [bts_bstr _ hlt] at hof
        have htx := fun W => text_any (addL (shipB kind ep K false pages l) (0, 0)).1 (addL (shipB kind ep K false pages l) (0, 0)).2 W (fit_addL fit0)
        have hres : bstr (sumT (shipB kind ep K false pages l)) ++ bstr (shipB kind ep K false pages l) = bstr (shipL kind ep K false pages l) := bstr_append _ _
        have hTs : (bstr (sumT (shipB kind ep K false pages l))).size = 8 := text_size _ _
        unfold sumT at hres hTs
        generalize addL (shipB kind ep K false pages l) (0, 0) = Q at *
        obtain ⟨Q1, Q2⟩ := Q
        simp only at hof htx hres hTs
        generalize bstr (shipB kind ep K false pages l) = Y at *
        generalize bstr (textL Q1 Q2) = T at *
        have z1 : T.size + Y.size ≤ 9223372036854775807 := by omega
        have z1' : ¬ (9223372036854775807 < T.size + Y.size) := by omega
        have HST := Lib.hid hst
        have HOF := Lib.hid hof
        have HTX := Lib.hid htx
        have HRES := Lib.hid hres
        clear hbody hlt hlen2 hst hof htx hres hIj hTs
        go_wp2_with fail
        refine (HST.out).mono ?_
        rintro e v1 ⟨rfl, hv1⟩
        go_wp2_with fail
        refine (HOF.out _).mono ?_
        rintro e v2 ⟨rfl, hv2⟩
        go_wp2_with fail
        refine (HTX.out _).mono ?_
        rintro e v3 ⟨rfl, hv3⟩
        go_wp2
        go_ret2
        have hend : Below w1.heap.size w1 v1 := hbr.trans hv1
        exact ⟨by rw [← HRES.out]; rfl, hw1b.trans (((bj (bj hend hv2) hv3)).mono hw1b.size)⟩
  · have hnum : ∀ (W : World) (g : Nat), Blk W g 25 #[.int .u64 kind, .int .u64 ep, .int .u64 K, .int .u64 1, .int .u64 pages, .int .u64 n] → Calls Try.prog 21 #[.slice (some ⟨g, 0, none⟩) 6 6] W fun e w' => e = .returned (.string (bstr (shipH kind ep K true pages n))) ∧ Below W.heap.size W w' := fun W g hB =>
      numbers_any g _ [kind, ep, K, if true then 1 else 0, pages, n] 6 6 W hB rfl (by omega) HIF.out
    have hsz : (bstr (shipH kind ep K true pages n)).size = 48 := by rw [bstr_size, HH.out]
    have hbt : bts (bstr (shipH kind ep K true pages n)) = shipH kind ep K true pages n := bts_bstr _ (fun x hx => by
      unfold shipH flat8 at hx
      obtain ⟨y, _, hy⟩ := List.mem_flatMap.1 hx
      exact eight_lt y x hy)
    generalize hHS : bstr (shipH kind ep K true pages n) = HS at *
    have HNUM := Lib.hid hnum
    have HBT := Lib.hid hbt
    have HHS := Lib.hid hHS
    clear hnum hbt hHS
    go_enter Try.func10, Try.ntmps10
    go_wp2_with fail
    refine (HCALL.out).mono ?_
    rintro e w1 ⟨rfl, hb1⟩
    have hs1 := sb_step hb1 hs0
    have hs1' := sb_step ((Below.refl w1.heap.size w1).alloc (Nat.le_refl _) (.cells #[.pointer none, .slice none 0 0] 44)) hs1
    obtain ⟨c0, c1, c2, c3, c4, c5⟩ := sbS hs1
    obtain ⟨d0, d1, d2, d3, d4, d5⟩ := sbS hs1'
    clear hs0 HCALL
    go_wp2_with fail
    refine (HNUM.out _ _ (blk_new _ _ _ _ (by simp))).mono ?_
    rintro e w2 ⟨rfl, hb2⟩
    have hbB := bja _ (Below.refl _ _) hb2
    have hI0 := builder_below (bw_empty (builder_new w1 44 5)) hbB
    have hs2 := sb_step hbB hs1'
    have hlt1 : w.heap.size < w1.heap.size := hs1.1.lt
    have hw1b := hs1.2
    have hB1 : w1.heap.size ≤ w2.heap.size := by have := hbB.size; simp at this; omega
    have HBB := Lib.hid (show Below w1.heap.size w1 w2 from ((Below.refl _ _).alloc (Nat.le_refl _) _).trans (hbB.mono (by simp)))
    clear c0 c1 c2 c3 c4 c5 d0 d1 d2 d3 d4 d5 hb2 hs1 hs1' hbB
    have hws := bws w1.heap.size w1.heap.size [] HS w2 hI0 (by rw [hsz]; simp) hB1
    have HWS := Lib.hid hws
    clear hws hI0
    go_wp2_with fail
    refine (HWS.out).mono ?_
    rintro e w3 ⟨rfl, hI3, hb3⟩
    rw [HBT.out, List.nil_append] at hI3
    have hbw3 : Below w1.heap.size w1 w3 := HBB.out.trans hb3
    have d5 : w3.cell? ⟨w.heap.size, 5, none⟩ = some (.slice A n c) := (hb3.cell (p := ⟨w.heap.size, 5, none⟩) hlt1).trans (sbS hs2).2.2.2.2.2
    have hlen : l.length = n := HN.out.symm
    have hIm := imgs_mono (imgs_below hI hw1b) hw1b.size
    have HI3 := Lib.hid hI3
    have HIM := Lib.hid hIm
    have hA : 0 < n → ∃ b o, A = some ⟨b, o, none⟩ ∧ b < w1.heap.size ∧ ∀ (j : Nat) x, l[j]? = some x → w1.cell? ⟨b, o + j * 2, none⟩ = some (.int .i64 x.1) ∧ w1.cell? ⟨b, o + j * 2 + 1, none⟩ = some (.string x.2) := fun h0 => by
      rcases hIm with h | h
      · rw [h] at hlen; simp at hlen; omega
      · exact h
    have HA := Lib.hid hA
    have HLEN := Lib.hid hlen
    clear hI3 hIm hA hI hlen hb3 HWS hs2 hB1
    go_wp2_with fail
    go_loopw [35] (fun i wr => ∃ j : Nat, j ≤ n ∧ i = .int .i64 j ∧ Lib.IsBuilder 44 5 w1.heap.size w1.heap.size (Lib.strCells (bstr (shipH kind ep K true pages n ++ imgsL (l.take j)))) wr ∧ Below w1.heap.size w1 wr) (fun i _ => n - (intOf i).toNat)
    case atStart => exact ⟨0, by omega, rfl, by have h := HI3.out; rw [List.take_zero]; simpa [imgsL] using h, hbw3⟩
    case round =>
      obtain ⟨j, hj, rfl, hIj, hbr⟩ := hrel
      by_cases hjn : j < n
      · obtain ⟨b, o, rfl, hbl, hcs⟩ := HA.out (by omega)
        have hjl : j < l.length := by have := HLEN.out; omega
        obtain ⟨h1, h2⟩ := hcs j l[j] (List.getElem?_eq_getElem hjl)
        obtain ⟨x1, x2, x3⟩ := H512.out l[j] (List.getElem_mem hjl)
        have c1 := (hbr.cell (p := ⟨b, o + j * 2, none⟩) hbl).trans h1
        have c2 := (hbr.cell (p := ⟨b, o + j * 2 + 1, none⟩) hbl).trans h2
        have HT := Lib.hid (imgsL_take l j hjl)
        have hfl : (shipH kind ep K true pages n ++ imgsL (l.take j)).length ≤ 200000 := by
          rw [List.length_append, HH.out, imgsL_length _ (fun x hx => (H512.out x (List.mem_of_mem_take hx)).1), List.length_take]
          omega
        generalize l[j] = x at *
        obtain ⟨p, d⟩ := x
        simp only at c1 c2 x1 x2 x3
        obtain ⟨q, rfl⟩ := Int.eq_ofNat_of_zero_le x2
        have hn1 : ∀ (W : World) (g : Nat), Blk W g 25 #[.int .u64 q] → Calls Try.prog 21 #[.slice (some ⟨g, 0, none⟩) 1 1] W fun e w' => e = .returned (.string (bstr (eightL q))) ∧ Below W.heap.size W w' := fun W g hB => by
          have h := numbers_any g _ [q] 1 1 W hB rfl (by omega) (fun y hy => by rw [List.mem_singleton.1 hy]; omega)
          have e : flat8 [q] = eightL q := by simp [flat8]
          rw [e] at h
          exact h
        have hsz8 := eight_size q
        have hE : bts (bstr (eightL q) ++ d) = imgL ((q : Int), d) := by rw [bts_app, bts_eight]; rfl
        have hEs : (bstr (eightL q) ++ d).size = 520 := by rw [ByteArray.size_append, hsz8, x1]
        have hws := fun W hW hBW => bws w1.heap.size w1.heap.size (shipH kind ep K true pages n ++ imgsL (l.take j)) (bstr (eightL q) ++ d) W hW (by rw [hEs]; omega) hBW
        rw [hE, List.append_assoc, ← HT.out] at hws
        have hwq : IntKind.u64.wrap (q : Int) = q := by simp [IntKind.wrap, IntKind.bits, IntKind.signed]; omega
        generalize bstr (eightL q) = E at *
        have z1 : E.size + d.size ≤ 9223372036854775807 := by omega
        have z1' : ¬ (9223372036854775807 < E.size + d.size) := by omega
        have z1I : (E.size : Int) + d.size ≤ 9223372036854775807 := by omega
        have HN1 := Lib.hid hn1
        have HW := Lib.hid hws
        have HIJ := Lib.hid hIj
        clear hn1 hws hIj hE hEs hsz8 h1 h2 hcs x1 x2
        have HC2 := Lib.hid (show Blk (wr.alloc (.cells #[.int .i64 (q : Int), .string d] 51)) wr.heap.size 51 #[.int .i64 (q : Int), .string d] from Blk.new _ _ _)
        go_wp2_with fail
        go_region_with (first
          | (go_at_call 21; (refine (HN1.out _ _ (blk_newd _ _ _ _ (by simp))).mono ?_); rintro e w4 ⟨rfl, hb4⟩; (have hc4 := bjaad hb4); (have k4 := Lib.hid (builder_below HIJ.out hc4)); (have c4 : w4.cell? ⟨wr.heap.size, 1, none⟩ = some (.string d) := (blk_step ((HC2.out.alloc _).drew) hb4).cell 1))
          | (go_at_call 20; (with_reducible refine (HW.out _ k4.out (Nat.le_trans hbr.size hc4.size)).mono ?_); rintro e w5 ⟨rfl, hI5, hb5⟩; (have HI5 := Lib.hid hI5); clear hI5))
        all_goals go_wp2
        all_goals exact ⟨⟨j + 1, by omega, by go_num, HI5.out, (hbr.trans (hc4.mono hbr.size)).trans hb5⟩, by simp [intOf]; omega⟩
      · obtain rfl : j = n := by omega
        have hbody : (shipB kind ep K true pages l) = shipH kind ep K true pages j ++ imgsL (l.take j) := by
          unfold shipB
          rw [HL0.out, List.take_of_length_le (by have := HLEN.out; omega)]
        have hlt : ∀ x ∈ shipB kind ep K true pages l, x < 256 := by
          intro x hx
          unfold shipB at hx
          rcases List.mem_append.1 hx with h | h
          · unfold shipH flat8 at h
            obtain ⟨y, _, hy⟩ := List.mem_flatMap.1 h
            exact eight_lt y x hy
          · unfold imgsL at h
            obtain ⟨y, _, hy⟩ := List.mem_flatMap.1 h
            unfold imgL at hy
            rcases List.mem_append.1 hy with h' | h'
            · exact eight_lt _ x h'
            · exact bts_lt _ x h'
        have hlen2 : (shipB kind ep K true pages l).length ≤ 200000 := by
          unfold shipB
          rw [List.length_append, HL0.out, HH.out, HIL.out, HL0.out]; omega
        rw [← hbody] at hIj
        have hst := bstring _ _ _ _ hIj hbr.size
        have hYs : (bstr (shipB kind ep K true pages l)).size ≤ 200000 := by rw [bstr_size]; exact hlen2
        have hof := fun W => of_any (bstr (shipB kind ep K true pages l)) W (by omega)
        rw [bts_bstr _ hlt] at hof
        have htx := fun W => text_any (addL (shipB kind ep K true pages l) (0, 0)).1 (addL (shipB kind ep K true pages l) (0, 0)).2 W (fit_addL fit0)
        have hres : bstr (sumT (shipB kind ep K true pages l)) ++ bstr (shipB kind ep K true pages l) = bstr (shipL kind ep K true pages l) := bstr_append _ _
        have hTs : (bstr (sumT (shipB kind ep K true pages l))).size = 8 := text_size _ _
        unfold sumT at hres hTs
        generalize addL (shipB kind ep K true pages l) (0, 0) = Q at *
        obtain ⟨Q1, Q2⟩ := Q
        simp only at hof htx hres hTs
        generalize bstr (shipB kind ep K true pages l) = Y at *
        generalize bstr (textL Q1 Q2) = T at *
        have z1 : T.size + Y.size ≤ 9223372036854775807 := by omega
        have z1' : ¬ (9223372036854775807 < T.size + Y.size) := by omega
        have HST := Lib.hid hst
        have HOF := Lib.hid hof
        have HTX := Lib.hid htx
        have HRES := Lib.hid hres
        clear hbody hlt hlen2 hst hof htx hres hIj hTs
        go_wp2_with fail
        refine (HST.out).mono ?_
        rintro e v1 ⟨rfl, hv1⟩
        go_wp2_with fail
        refine (HOF.out _).mono ?_
        rintro e v2 ⟨rfl, hv2⟩
        go_wp2_with fail
        refine (HTX.out _).mono ?_
        rintro e v3 ⟨rfl, hv3⟩
        go_wp2
        go_ret2
        have hend : Below w1.heap.size w1 v1 := hbr.trans hv1
        exact ⟨by rw [← HRES.out]; rfl, hw1b.trans (((bj (bj hend hv2) hv3)).mono hw1b.size)⟩
end Go.Proofs.Ytkocdaillkhkfaa
