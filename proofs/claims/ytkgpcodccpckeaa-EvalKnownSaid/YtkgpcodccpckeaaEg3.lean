/- scope.group of any kid and rows. Conditions: how they lie in memory; what the kid comes to for each row. -/
import Derived.Test.YtkgpcodccpckeaaEg1
import Derived.Test.YtkgpcodccpckeaaEg2
import Derived.Test.YtkgpcodccpckeaaEt12
import Derived.Test.YtkgpcodccpckeaaRows2
import Derived.Test.YtkgpcodccpckeaaEv7
import Derived.Deep.CutBlock
import Derived.OrdersHeld
import Derived.Deep.RegionHeld3
namespace Go.Proofs.Ytkgpcodccpckeaa
open Go Go.RowKit
set_option linter.unusedVariables false
set_option linter.unusedSimpArgs false
/-- the values that are not null, up to the first error -/
def gL (z : Rw → Val × Int) : List Rw → List Val × Int
  | [] => ([], 0)
  | r :: rs => if (z r).2 ≠ 0 then ([], (z r).2) else ((if nullV (z r).1 = true then (gL z rs).1 else (z r).1 :: (gL z rs).1), (gL z rs).2)
def foldV (op : Int) (l : List Val) : Val × Int := if op = 20 then ((1, (l.length : Int), ⟨#[]⟩), 0) else if l = [] then (zV, 0) else if op = 22 then (minL l, 0) else if op = 23 then (maxL l, 0) else totP l
def foldG (op : Int) (r : List Val × Int) : Val × Int := if r.2 ≠ 0 then (zV, r.2) else foldV op r.1
/-- group's boxes and answer -/
def Gq (w : World) (kf : FuncId) (p : Addr) (R : Option Addr) (rn rc : Nat) (x : Ex) (W : World) : Prop := Blk W w.heap.size 62 #[.func (.func kf) #[] #[.pointer (some p)], .slice R rn rc] ∧ Blk W (w.heap.size + 1) 29 (exC x) ∧ Blk W (w.heap.size + 1 + 1) 23 #[.int .u8 0, .int .i64 0, .string ⟨#[]⟩] ∧ Below w.heap.size w W
theorem gq_below {w W W' : World} {kf : FuncId} {p : Addr} {R : Option Addr} {rn rc : Nat} {x : Ex} (h : Gq w kf p R rn rc x W) (hb : Below W.heap.size W W') : Gq w kf p R rn rc x W' := ⟨blk_step h.1 hb, blk_step h.2.1 hb, blk_step h.2.2.1 hb, bj h.2.2.2 hb⟩
theorem gq_drew {w W : World} {kf : FuncId} {p : Addr} {R : Option Addr} {rn rc : Nat} {x : Ex} (h : Gq w kf p R rn rc x W) : Gq w kf p R rn rc x W.drew := ⟨h.1.drew, h.2.1.drew, h.2.2.1.drew, h.2.2.2.drew⟩
theorem gq_grown {w W W' : World} {kf : FuncId} {p : Addr} {R : Option Addr} {rn rc : Nat} {x : Ex} (h : Gq w kf p R rn rc x W) {row : Option Nat} (hg : W.grownBy W' row) (hr : ∀ z, row = some z → w.heap.size + 1 + 1 + 1 ≤ z) : Gq w kf p R rn rc x W' :=
  ⟨h.1.grown hg (fun e => by have := hr _ e.symm; omega), h.2.1.grown hg (fun e => by have := hr _ e.symm; omega), h.2.2.1.grown hg (fun e => by have := hr _ e.symm; omega), h.2.2.2.grown hg h.2.2.2.size (fun z hz => by have := hr z hz; omega)⟩
theorem gq_set3 {w W : World} {kf : FuncId} {p : Addr} {R : Option Addr} {rn rc : Nat} {e : Ex} {g : Nat} (h : Gq w kf p R rn rc e W) (hg : w.heap.size + 1 + 1 < g) (x y z : Value) : Gq w kf p R rn rc e (((W.setCell ⟨g, 0, none⟩ x).setCell ⟨g, 1, none⟩ y).setCell ⟨g, 2, none⟩ z) :=
  ⟨((h.1.far (by simp; omega) _).far (by simp; omega) _).far (by simp; omega) _, ((h.2.1.far (by simp; omega) _).far (by simp; omega) _).far (by simp; omega) _, ((h.2.2.1.far (by simp; omega) _).far (by simp; omega) _).far (by simp; omega) _, below3_at h.2.2.2 (by omega) _ _ _⟩
theorem gq_new (w : World) (kf : FuncId) (p : Addr) (R : Option Addr) (rn rc : Nat) (x : Ex) : Gq w kf p R rn rc x (((w.alloc (.cells #[.func (.func kf) #[] #[.pointer (some p)], .slice R rn rc] 62)).alloc (.cells (exC x) 29)).alloc (.cells #[.int .u8 0, .int .i64 0, .string ⟨#[]⟩] 23)) := ⟨((Blk.new _ _ _).alloc _).alloc _, (blk_new _ _ _ _ (by simp)).alloc _, blk_new _ _ _ _ (by simp), bj3⟩
theorem gq_S {w W : World} {kf : FuncId} {p : Addr} {R : Option Addr} {rn rc : Nat} {op : Int} {v : Val} {tb nm : ByteArray} {n : Int} {kb ko kc : Nat} {yo y1 y2 yN : Int} {y3 yt yn : ByteArray} {yA : Option Addr} {ym yc : Nat} (h : Gq w kf p R rn rc ⟨op, v, tb, nm, n, some ⟨kb, ko, none⟩, 1, kc⟩ W) (hl : Cells8 w kb ko ⟨yo, (y1, y2, y3), yt, yn, yN, yA, ym, yc⟩) (hk : kb < w.heap.size) : W.cell? ⟨w.heap.size + 1, 7, none⟩ = some (.slice (some ⟨kb, ko, none⟩) 1 kc) ∧ W.cell? ⟨kb, ko, none⟩ = some (.int .u8 yo) ∧ W.cell? ⟨kb, ko + 1, none⟩ = some (.int .u8 y1) ∧ W.cell? ⟨kb, ko + 2, none⟩ = some (.int .i64 y2) ∧ W.cell? ⟨kb, ko + 3, none⟩ = some (.string y3) ∧ W.cell? ⟨kb, ko + 4, none⟩ = some (.string yt) ∧ W.cell? ⟨kb, ko + 5, none⟩ = some (.string yn) ∧ W.cell? ⟨kb, ko + 6, none⟩ = some (.int .i64 yN) ∧ W.cell? ⟨kb, ko + 7, none⟩ = some (.slice yA ym yc) := by
  obtain ⟨c0, c1, c2, c3, c4, c5, c6, c7⟩ := cells8_below hl h.2.2.2 hk
  exact ⟨h.2.1.cell 7, c0, c1, c2, c3, c4, c5, c6, c7⟩
theorem gq_S3 {w W : World} {kf : FuncId} {p : Addr} {R : Option Addr} {rn rc : Nat} {op : Int} {v : Val} {tb nm : ByteArray} {n : Int} {kb ko kc : Nat} {yo y1 y2 yN : Int} {y3 yt yn : ByteArray} {yA : Option Addr} {ym yc : Nat} {g : Nat} (h : Gq w kf p R rn rc ⟨op, v, tb, nm, n, some ⟨kb, ko, none⟩, 1, kc⟩ W) (hl : Cells8 w kb ko ⟨yo, (y1, y2, y3), yt, yn, yN, yA, ym, yc⟩) (hk : kb < w.heap.size) (hg : w.heap.size + 1 + 1 < g) (x y z : Value) : (((W.setCell ⟨g, 0, none⟩ x).setCell ⟨g, 1, none⟩ y).setCell ⟨g, 2, none⟩ z).cell? ⟨w.heap.size + 1, 7, none⟩ = some (.slice (some ⟨kb, ko, none⟩) 1 kc) ∧ (((W.setCell ⟨g, 0, none⟩ x).setCell ⟨g, 1, none⟩ y).setCell ⟨g, 2, none⟩ z).cell? ⟨kb, ko, none⟩ = some (.int .u8 yo) ∧ (((W.setCell ⟨g, 0, none⟩ x).setCell ⟨g, 1, none⟩ y).setCell ⟨g, 2, none⟩ z).cell? ⟨kb, ko + 1, none⟩ = some (.int .u8 y1) ∧ (((W.setCell ⟨g, 0, none⟩ x).setCell ⟨g, 1, none⟩ y).setCell ⟨g, 2, none⟩ z).cell? ⟨kb, ko + 2, none⟩ = some (.int .i64 y2) ∧ (((W.setCell ⟨g, 0, none⟩ x).setCell ⟨g, 1, none⟩ y).setCell ⟨g, 2, none⟩ z).cell? ⟨kb, ko + 3, none⟩ = some (.string y3) ∧ (((W.setCell ⟨g, 0, none⟩ x).setCell ⟨g, 1, none⟩ y).setCell ⟨g, 2, none⟩ z).cell? ⟨kb, ko + 4, none⟩ = some (.string yt) ∧ (((W.setCell ⟨g, 0, none⟩ x).setCell ⟨g, 1, none⟩ y).setCell ⟨g, 2, none⟩ z).cell? ⟨kb, ko + 5, none⟩ = some (.string yn) ∧ (((W.setCell ⟨g, 0, none⟩ x).setCell ⟨g, 1, none⟩ y).setCell ⟨g, 2, none⟩ z).cell? ⟨kb, ko + 6, none⟩ = some (.int .i64 yN) ∧ (((W.setCell ⟨g, 0, none⟩ x).setCell ⟨g, 1, none⟩ y).setCell ⟨g, 2, none⟩ z).cell? ⟨kb, ko + 7, none⟩ = some (.slice yA ym yc) := gq_S (gq_set3 h hg x y z) hl hk
theorem gq_Sd {w W : World} {kf : FuncId} {p : Addr} {R : Option Addr} {rn rc : Nat} {op : Int} {v : Val} {tb nm : ByteArray} {n : Int} {kb ko kc : Nat} {yo y1 y2 yN : Int} {y3 yt yn : ByteArray} {yA : Option Addr} {ym yc : Nat} (h : Gq w kf p R rn rc ⟨op, v, tb, nm, n, some ⟨kb, ko, none⟩, 1, kc⟩ W) (hl : Cells8 w kb ko ⟨yo, (y1, y2, y3), yt, yn, yN, yA, ym, yc⟩) (hk : kb < w.heap.size) (q : Obj) : ((W.alloc q).drew).cell? ⟨w.heap.size + 1, 7, none⟩ = some (.slice (some ⟨kb, ko, none⟩) 1 kc) ∧ ((W.alloc q).drew).cell? ⟨kb, ko, none⟩ = some (.int .u8 yo) ∧ ((W.alloc q).drew).cell? ⟨kb, ko + 1, none⟩ = some (.int .u8 y1) ∧ ((W.alloc q).drew).cell? ⟨kb, ko + 2, none⟩ = some (.int .i64 y2) ∧ ((W.alloc q).drew).cell? ⟨kb, ko + 3, none⟩ = some (.string y3) ∧ ((W.alloc q).drew).cell? ⟨kb, ko + 4, none⟩ = some (.string yt) ∧ ((W.alloc q).drew).cell? ⟨kb, ko + 5, none⟩ = some (.string yn) ∧ ((W.alloc q).drew).cell? ⟨kb, ko + 6, none⟩ = some (.int .i64 yN) ∧ ((W.alloc q).drew).cell? ⟨kb, ko + 7, none⟩ = some (.slice yA ym yc) := gq_S (gq_drew (gq_below h one_alloc)) hl hk
theorem gq_Sa {w W : World} {kf : FuncId} {p : Addr} {R : Option Addr} {rn rc : Nat} {op : Int} {v : Val} {tb nm : ByteArray} {n : Int} {kb ko kc : Nat} {yo y1 y2 yN : Int} {y3 yt yn : ByteArray} {yA : Option Addr} {ym yc : Nat} (h : Gq w kf p R rn rc ⟨op, v, tb, nm, n, some ⟨kb, ko, none⟩, 1, kc⟩ W) (hl : Cells8 w kb ko ⟨yo, (y1, y2, y3), yt, yn, yN, yA, ym, yc⟩) (hk : kb < w.heap.size) (q : Obj) : (W.alloc q).cell? ⟨w.heap.size + 1, 7, none⟩ = some (.slice (some ⟨kb, ko, none⟩) 1 kc) ∧ (W.alloc q).cell? ⟨kb, ko, none⟩ = some (.int .u8 yo) ∧ (W.alloc q).cell? ⟨kb, ko + 1, none⟩ = some (.int .u8 y1) ∧ (W.alloc q).cell? ⟨kb, ko + 2, none⟩ = some (.int .i64 y2) ∧ (W.alloc q).cell? ⟨kb, ko + 3, none⟩ = some (.string y3) ∧ (W.alloc q).cell? ⟨kb, ko + 4, none⟩ = some (.string yt) ∧ (W.alloc q).cell? ⟨kb, ko + 5, none⟩ = some (.string yn) ∧ (W.alloc q).cell? ⟨kb, ko + 6, none⟩ = some (.int .i64 yN) ∧ (W.alloc q).cell? ⟨kb, ko + 7, none⟩ = some (.slice yA ym yc) := gq_S (gq_below h one_alloc) hl hk
set_option maxRecDepth 100000 in
set_option maxHeartbeats 8000000 in
theorem group_none (kf : FuncId) (p : Addr) (R : Option Addr) (rn rc : Nat) (op : Int) (v : Val) (tb nm : ByteArray) (n : Int) (A : Option Addr) (c : Nat) (w : World) (hn : rn ≤ 100000) :
    Calls Try.prog 44 #[scV kf p R rn rc, exV ⟨op, v, tb, nm, n, A, 0, c⟩] w fun e w' => e = .returned (.tuple #[.agg #[.int .u8 1, .int .i64 (rn : Int), .string ⟨#[]⟩], .int .i64 0]) ∧ Below w.heap.size w w' := by
  obtain ⟨v1, v2, v3⟩ := v
  have HS := Lib.hid (gq_new w kf p R rn rc ⟨op, (v1, v2, v3), tb, nm, n, A, 0, c⟩)
  have hnI : (rn : Int) ≤ 100000 := by omega
  go_enter Try.func44, Try.ntmps44
  go_wp2_with fail
  refine (integer_any _ _).mono ?_
  rintro e w2 ⟨rfl, hb2⟩
  have HS2 := Lib.hid (gq_below HS.out hb2)
  obtain ⟨r0, r1, r2, f0, f1, f2⟩ := cell3 HS2.out.2.2.1
  clear hb2
  go_wp2
  obtain ⟨e0, e1, e2, _, _, _⟩ := cell3 (blk3_set HS2.out.2.2.1 (.int .u8 1) (.int .i64 (rn : Int)) (.string ⟨#[]⟩))
  exact bodyPost_ret (v := .tuple #[.agg #[.int .u8 1, .int .i64 (rn : Int), .string ⟨#[]⟩], .int .i64 0]) (by simp [results, Try.results44, go_sem, e0, e1, e2]) rfl ⟨rfl, below3_at HS2.out.2.2.2 (by omega) _ _ _⟩
set_option maxRecDepth 100000 in
set_option maxHeartbeats 8000000 in
theorem group_kid (op : Int) (kf : FuncId) (p : Addr) (R : Option Addr) (rn rc : Nat) (rs : List Rw) (v : Val) (tb nm : ByteArray) (n : Int) (kb ko kc : Nat) (y : Ex) (z : Rw → Val × Int) (w : World) (hR : Rws w w.heap.size R rs) (hn : rn = rs.length) (hn1 : rn ≤ 100000) (h20 : 20 ≤ op) (h23 : op ≤ 23) (hK : Cells8 w kb ko y) (hkb : kb < w.heap.size) (hz : ∀ r ∈ rs, Vk (z r).1)
    (hcm : ∀ r ∈ rs, ∀ (g : Nat) (W : World), Below w.heap.size w W → Blk W g 42 #[.slice r.A r.l.length r.c] → Calls Try.prog 34 #[scV 43 ⟨g, 0, none⟩ none 0 0, exV y] W fun e w' => e = .returned (.tuple #[valV (z r).1, .int .i64 (z r).2]) ∧ Below W.heap.size W w') :
    Calls Try.prog 44 #[scV kf p R rn rc, exV ⟨op, v, tb, nm, n, some ⟨kb, ko, none⟩, 1, kc⟩] w fun e w' => e = .returned (.tuple #[valV (foldG op (gL z rs)).1, .int .i64 (foldG op (gL z rs)).2]) ∧ Below w.heap.size w w' := by
  obtain ⟨iv, hv1, hv2, hv3, hv4⟩ := info_parts (show (Try.prog.info? 23).map (fun i => (i.zero, i.size, i.bytes)) = some (some (.agg #[.int .u8 0, .int .i64 0, .string ⟨#[]⟩]), 3, 32) by kernel_rfl)
  obtain ⟨v1, v2, v3⟩ := v
  obtain ⟨yo, ⟨y1, y2, y3⟩, yt, yn, yN, yA, ym, yc⟩ := y
  have HS := Lib.hid (gq_new w kf p R rn rc ⟨op, (v1, v2, v3), tb, nm, n, some ⟨kb, ko, none⟩, 1, kc⟩)
  obtain ⟨G, hG⟩ : ∃ G, gL z rs = G := ⟨_, rfl⟩
  have HG := Lib.hid hG
  rw [hG]
  have HL := Lib.hid hK
  have HKB := Lib.hid hkb
  have HRS := Lib.hid hR
  have HN := Lib.hid (And.intro hn hn1)
  have HOP := Lib.hid (And.intro h20 h23)
  have HVK := Lib.hid hz
  have HCK := Lib.hid hcm
  have hnI : (rn : Int) ≤ 100000 := by omega
  clear hG hK hkb hR hn hn1 h20 h23 hz hcm
  go_enter Try.func44, Try.ntmps44
  go_wp2
  go_loopw [6, 22] (fun lv i wr => ∃ (j : Nat) (K : List Val), j ≤ rn ∧ i = .int .i64 j ∧ K.length ≤ j ∧ (∀ x ∈ K, Vk x) ∧ wr.ownsRow (w.heap.size + 1 + 1 + 1) 23 3 lv K.length (valCs K) ∧ G = (K ++ (gL z (rs.drop j)).1, (gL z (rs.drop j)).2) ∧ Gq w kf p R rn rc ⟨op, (v1, v2, v3), tb, nm, n, some ⟨kb, ko, none⟩, 1, kc⟩ wr) (fun _ i _ => rn - (intOf i).toNat)
  case atStart => exact ⟨0, [], by omega, rfl, by simp, (fun x hx => by cases hx), World.ownsRow_nil _ _ _ _, by rw [← HG.out]; rfl, HS.out⟩
  case round =>
    clear HS HG
    obtain ⟨j, K, hj, rfl, hKl, hKv, hown, heq, hst⟩ := hrel
    have HKL := Lib.hid (And.intro hKl hKv)
    have HO := Lib.hid hown
    have HY := Lib.hid hst
    have HQ := Lib.hid heq
    obtain ⟨g0, g1⟩ := pair_at hst.1
    have g7 := (gq_S hst HL.out HKB.out).1
    clear hKl hKv hown heq
    by_cases hjm : j < rn
    · have hjl : j < rs.length := by have := HN.out.1; omega
      obtain ⟨rb, ro, rfl, hrbl, hrc⟩ := rws_get HRS.out (fun e => by rw [e] at hjl; simp at hjl)
      obtain ⟨hx0, hxr⟩ := hrc j rs[j] (List.getElem?_eq_getElem hjl)
      have x0 := (hst.2.2.2.cell (p := ⟨rb, ro + j, none⟩) hrbl).trans hx0
      have hd : rs.drop j = rs[j] :: rs.drop (j + 1) := List.drop_eq_getElem_cons hjl
      have hmem := List.getElem_mem hjl
      have heq := HQ.out
      rw [hd, gL] at heq
      have hkc := HCK.out rs[j] hmem
      have hvk := HVK.out rs[j] hmem
      generalize rs[j] = r at *
      obtain ⟨rA, rcc, rl⟩ := r
      simp only at x0 hkc
      generalize z ⟨rA, rcc, rl⟩ = zz at *
      obtain ⟨⟨z1, z2, z3⟩, ze⟩ := zz
      simp only at heq hvk hkc
      generalize rl.length = L at *
      have HKC := Lib.hid hkc
      have HV1 := Lib.hid hvk
      have HQ1 := Lib.hid heq
      have hjI : (j : Int) < rn := by omega
      clear hkc hvk heq hd hmem hx0 hxr hrc hst HQ
      go_upto_region 7 with fail
      go_cut [9, 10] (fun s9 s10 wx => ∃ g, s9 = .pointer (some ⟨g, 0, none⟩) ∧ s10 = .int .i64 ze ∧ Blk wx g 23 #[.int .u8 z1, .int .i64 z2, .string z3] ∧ Gq w kf p (some ⟨rb, ro, none⟩) rn rc ⟨op, (v1, v2, v3), tb, nm, n, some ⟨kb, ko, none⟩, 1, kc⟩ wx ∧ Below wr.heap.size wr wx)
      case first =>
        have HOF : Hid (∀ W, (Gq w kf p (some ⟨rb, ro, none⟩) rn rc ⟨op, (v1, v2, v3), tb, nm, n, some ⟨kb, ko, none⟩, 1, kc⟩ W ∧ Below wr.heap.size wr W) → Calls Try.prog 33 #[.slice rA L rcc] W fun e w' => ∃ g, e = .returned (.agg #[.func (.func 43) #[] #[.pointer (some ⟨g, 0, none⟩)], .slice none 0 0]) ∧ Blk w' g 42 #[.slice rA L rcc] ∧ (Gq w kf p (some ⟨rb, ro, none⟩) rn rc ⟨op, (v1, v2, v3), tb, nm, n, some ⟨kb, ko, none⟩, 1, kc⟩ w' ∧ Below wr.heap.size wr w') ∧ Below W.heap.size W w') := Lib.hid fun W h => (scof_any _ L rcc W).mono fun e w' he => by
          obtain ⟨g, h1, h2, h3⟩ := he
          exact ⟨g, h1, h2, ⟨gq_below h.1 h3, bj h.2 h3⟩, h3⟩
        have HCM : Hid (∀ g W, Blk W g 42 #[.slice rA L rcc] → (Gq w kf p (some ⟨rb, ro, none⟩) rn rc ⟨op, (v1, v2, v3), tb, nm, n, some ⟨kb, ko, none⟩, 1, kc⟩ W ∧ Below wr.heap.size wr W) → Calls Try.prog 34 #[.agg #[.func (.func 43) #[] #[.pointer (some ⟨g, 0, none⟩)], .slice none 0 0], .agg #[.int .u8 yo, .int .u8 y1, .int .i64 y2, .string y3, .string yt, .string yn, .int .i64 yN, .slice yA ym yc]] W fun e w' => e = .returned (.tuple #[.agg #[.int .u8 z1, .int .i64 z2, .string z3], .int .i64 ze]) ∧ (Gq w kf p (some ⟨rb, ro, none⟩) rn rc ⟨op, (v1, v2, v3), tb, nm, n, some ⟨kb, ko, none⟩, 1, kc⟩ w' ∧ Below wr.heap.size wr w') ∧ Below W.heap.size W w') := Lib.hid fun g W h1 h => by
          refine (HKC.out g W h.1.2.2.2 h1).mono fun e w' he => ?_
          exact ⟨he.1, ⟨gq_below h.1 he.2, bj h.2 he.2⟩, he.2⟩
        have hlt9 : Hid (w.heap.size + 1 + 1 < wr.heap.size) := Lib.hid HY.out.2.2.1.lt
        have hle9 : Hid (wr.heap.size ≤ wr.heap.size) := Lib.hid (Nat.le_refl _)
        have hs : Gq w kf p (some ⟨rb, ro, none⟩) rn rc ⟨op, (v1, v2, v3), tb, nm, n, some ⟨kb, ko, none⟩, 1, kc⟩ wr.drew ∧ Below wr.heap.size wr wr.drew := ⟨gq_drew HY.out, (Below.refl _ _).drew⟩
        go_wp2_with fail
        go_region_held3 (fun W => W.cell? ⟨w.heap.size + 1, 7, none⟩ = some (.slice (some ⟨kb, ko, none⟩) 1 kc) ∧ W.cell? ⟨kb, ko, none⟩ = some (.int .u8 yo) ∧ W.cell? ⟨kb, ko + 1, none⟩ = some (.int .u8 y1) ∧ W.cell? ⟨kb, ko + 2, none⟩ = some (.int .i64 y2) ∧ W.cell? ⟨kb, ko + 3, none⟩ = some (.string y3) ∧ W.cell? ⟨kb, ko + 4, none⟩ = some (.string yt) ∧ W.cell? ⟨kb, ko + 5, none⟩ = some (.string yn) ∧ W.cell? ⟨kb, ko + 6, none⟩ = some (.int .i64 yN) ∧ W.cell? ⟨kb, ko + 7, none⟩ = some (.slice yA ym yc))
          (first | (with_reducible exact gq_S3 hs.1 HL.out HKB.out hlt9.out _ _ _) | (with_reducible exact gq_Sd HY.out HL.out HKB.out _) | (with_reducible exact gq_Sa hs.1 HL.out HKB.out _) | (with_reducible exact gq_S hs.1 HL.out HKB.out))
          (first
            | (go_at_call 33; (first
                | ((with_reducible refine (HOF.out _ hs).mono ?_); rintro e w6 ⟨gg, rfl, hgg, hs, hbb⟩)
                | ((with_reducible refine (HOF.out _ ⟨gq_drew (gq_below HY.out one_alloc), (one_alloc (w := wr) (o := .cells #[.int .u8 0, .int .i64 0, .string ⟨#[]⟩] 23)).drew⟩).mono ?_); rintro e w6 ⟨gg, rfl, hgg, hs, hbb⟩; (have hz : Blk w6 wr.heap.size 23 #[.int .u8 0, .int .i64 0, .string ⟨#[]⟩] := blk_at' hbb); obtain ⟨y0, y1, y2, f0, f1, f2⟩ := cell3 hz)))
            | (go_at_call 34; (first
                | ((with_reducible refine (HCM.out _ _ hgg hs).mono ?_); rintro e w7 ⟨rfl, hs, hbb2⟩; (try (replace hz := blk_step hz hbb2; obtain ⟨y0, y1, y2, f0, f1, f2⟩ := cell3 hz)))
                | ((have hlt9 : Hid (w.heap.size + 1 + 1 < w6.heap.size) := Lib.hid hs.1.2.2.1.lt); (have hle9 : Hid (wr.heap.size ≤ w6.heap.size) := Lib.hid hs.2.size); (with_reducible refine (HCM.out _ _ (hgg.alloc _) ⟨gq_below hs.1 one_alloc, bj hs.2 one_alloc⟩).mono ?_); rintro e w7 ⟨rfl, hs, hbb2⟩; (have hz : Blk w7 w6.heap.size 23 #[.int .u8 0, .int .i64 0, .string ⟨#[]⟩] := blk_at hbb2); obtain ⟨y0, y1, y2, f0, f1, f2⟩ := cell3 hz))))
        all_goals
          go_wp2_with fail
          go_meet
          first
            | (with_reducible exact ⟨_, rfl, rfl, Blk.new _ _ _, gq_below hs.1 one_alloc, bj hs.2 one_alloc⟩)
            | (with_reducible exact ⟨_, rfl, rfl, (Blk.new _ _ _).drew, gq_drew (gq_below hs.1 one_alloc), (bj hs.2 one_alloc).drew⟩)
            | (with_reducible exact ⟨_, rfl, rfl, blk3_set hz _ _ _, gq_set3 hs.1 hlt9.out _ _ _, ((hs.2.setCell hle9.out _).setCell hle9.out _).setCell hle9.out _⟩)
      case rest =>
        obtain ⟨g, rfl, rfl, hv, hg, hbw⟩ := hcut
        have HV := Lib.hid hv
        have HGQ := Lib.hid hg
        have HOW := Lib.hid (own_below HO.out hbw)
        clear hbw HY HO g0 g1 g7 x0 HKC HCK
        by_cases hze : ze = 0
        · subst hze
          rw [if_neg (by simp)] at HQ1
          obtain ⟨v0', v1', v2', _, _, _⟩ := cell3 hv
          have HN1 := Lib.hid (null_any (some ⟨wc.heap.size, 0, none⟩) [(z1, z2, z3)] 1 1 (wc.alloc (.cells (valC (z1, z2, z3)) 23)) (vals_of1 (Blk.new _ _ _)) rfl (by omega))
          clear hv hg
          go_wp2_with fail
          refine (HN1.out).mono ?_
          rintro e w5 ⟨rfl, hb5⟩
          rw [show ([(z1, z2, z3)] : List Val).any nullV = nullV (z1, z2, z3) by simp]
          have hba := bj one_alloc hb5
          have hv5 := blk_step HV.out hba
          have HG5 := Lib.hid (gq_below HGQ.out hba)
          have HO5 := Lib.hid (own_below HOW.out hba)
          obtain ⟨v0', v1', v2', _, _, _⟩ := cell3 hv5
          clear hb5 hba hv5 HN1
          cases hnl : nullV (z1, z2, z3)
          · rw [hnl] at HQ1
            have HQ2 := Lib.hid (show G = ((K ++ [(z1, z2, z3)]) ++ (gL z (rs.drop (j + 1))).1, (gL z (rs.drop (j + 1))).2) by rw [HQ1.out]; simp)
            have HKA := Lib.hid (show ∀ x ∈ K ++ [(z1, z2, z3)], Vk x from fun x hx => by
              rcases List.mem_append.1 hx with hx | hx
              · exact HKL.out.2 x hx
              · rw [List.mem_singleton.1 hx]; exact HV1.out)
            have hKj := HKL.out.1
            have hrd := reads3g w5 w5.heap.size (z1, z2, z3) 23 rfl
            have HO2 := Lib.hid (own_below HO5.out (one_alloc (w := w5) (o := .cells (valC (z1, z2, z3)) 23)))
            have HG6 := Lib.hid (gq_below HG5.out (one_alloc (w := w5) (o := .cells (valC (z1, z2, z3)) 23)))
            have HBS : Hid (w.heap.size + 1 + 1 + 1 ≤ (w5.alloc (.cells (valC (z1, z2, z3)) 23)).heap.size) := Lib.hid (by have := HG6.out.2.2.1.lt; omega)
            have hKL2 : K.length + 1 ≤ 200000 := by have := HN.out; omega
            have hKL3 : (K.length : Int) + 1 ≤ 200000 := by omega
            clear hnl HQ1
            obtain ⟨A, ca, rfl⟩ := own_form HO5.out
            generalize hKLe : K.length = KL at *
            have HKLE := Lib.hid hKLe
            clear hKLe
            go_wp2_with (at_builtin; refine wpList_append_any _ rfl (.tmp 44) (.tmp 46) 42 rfl (w.heap.size + 1 + 1 + 1) 23 iv _ 3 32 Try.underlying42 hv1 hv2 hv3 hv4 rfl (by omega) _ KL (valCs K) rfl HO2.out (w5.heap.size + 1) (some ⟨w5.heap.size, 0, none⟩) 1 1 [Value.int .u8 z1, .int .i64 z2, .string z3] rfl hrd (by intro u hu; simp at hu; rcases hu with rfl | rfl | rfl <;> rfl) (by simp only [maxLen]; omega) (by omega) HBS.out ?_; intro zz1 w8 hown1 hg1 hat1; (have HG8 := Lib.hid (gq_grown HG6.out hg1 (fun z hz => (HO2.out.lt z hz).1))); (have HO8 : Hid (w8.ownsRow (w.heap.size + 1 + 1 + 1) 23 3 zz1 (KL + 1) (valCs (K ++ [(z1, z2, z3)]))) := Lib.hid (by rw [valCs_snoc]; exact hown1)); clear hown1 hg1 hat1 hrd)
            go_roundw
            case rel => exact ⟨j + 1, K ++ [(z1, z2, z3)], by omega, by go_num, by rw [List.length_append, HKLE.out]; simp; omega, HKA.out, by rw [List.length_append, HKLE.out]; exact HO8.out, HQ2.out, HG8.out⟩
            case measure => simp [intOf]; omega
          · rw [hnl] at HQ1
            have HQ2 := Lib.hid (show G = (K ++ (gL z (rs.drop (j + 1))).1, (gL z (rs.drop (j + 1))).2) by rw [HQ1.out]; simp)
            have hKj := HKL.out.1
            clear hnl HQ1
            go_wp2
            go_roundw
            case rel => exact ⟨j + 1, K, by omega, by go_num, by omega, HKL.out.2, HO5.out, HQ2.out, HG5.out⟩
            case measure => simp [intOf]; omega
        · have hrb : (ze != 0) = true := by simp [bne, hze]
          have HF := Lib.hid (show foldG op G = (zV, ze) by rw [HQ1.out, if_pos hze]; unfold foldG; rw [if_pos hze])
          obtain ⟨r0, r1, r2, f0, f1, f2⟩ := cell3 HGQ.out.2.2.1
          clear hze hv hg
          go_wp2
          obtain ⟨e0, e1, e2, _, _, _⟩ := cell3 (blk3_set HGQ.out.2.2.1 (.int .u8 0) (.int .i64 0) (.string ⟨#[]⟩))
          exact bodyPost_ret (v := .tuple #[.agg #[.int .u8 0, .int .i64 0, .string ⟨#[]⟩], .int .i64 ze]) (by simp [results, Try.results44, go_sem, e0, e1, e2]) rfl ⟨by rw [HF.out], below3_at HGQ.out.2.2.2 (by omega) _ _ _⟩
    · obtain rfl : j = rn := by omega
      have HG2 := Lib.hid (show G = (K, 0) by rw [HQ.out, List.drop_of_length_le (by have := HN.out.1; omega)]; simp [gL])
      have HF := Lib.hid (show foldG op G = foldV op K by rw [HG2.out]; unfold foldG; rw [if_neg (by simp)])
      obtain ⟨A2, cv, rfl⟩ := own_form HO.out
      have HVS := Lib.hid (vals_of_own HO.out rfl)
      have x7 := hst.2.1.cell 0
      obtain ⟨r0, r1, r2, f0, f1, f2⟩ := cell3 hst.2.2.1
      have HKB2 := Lib.hid (show K.length ≤ 100000 by have := HKL.out.1; have := HN.out.2; omega)
      have hKI : (K.length : Int) ≤ 100000 := by have := HKB2.out; omega
      clear hst HO HQ g0 g1 g7
      by_cases h20 : op = 20
      · subst h20
        have HF2 := Lib.hid (show foldV 20 K = ((1, (K.length : Int), ⟨#[]⟩), 0) by unfold foldV; rw [if_pos rfl])
        generalize K.length = KL at *
        go_wp2_with fail
        refine (integer_any _ _).mono ?_
        rintro e w3 ⟨rfl, hb3⟩
        have HY3 := Lib.hid (gq_below HY.out hb3)
        clear hb3 r0 r1 r2 f0 f1 f2
        obtain ⟨r0, r1, r2, f0, f1, f2⟩ := cell3 HY3.out.2.2.1
        go_wp2
        obtain ⟨e0, e1, e2, _, _, _⟩ := cell3 (blk3_set HY3.out.2.2.1 (.int .u8 1) (.int .i64 (KL : Int)) (.string ⟨#[]⟩))
        exact bodyPost_ret (v := .tuple #[.agg #[.int .u8 1, .int .i64 (KL : Int), .string ⟨#[]⟩], .int .i64 0]) (by simp [results, Try.results44, go_sem, e0, e1, e2]) rfl ⟨by rw [HF.out, HF2.out], below3_at HY3.out.2.2.2 (by omega) _ _ _⟩
      have b20 := beq_no h20
      by_cases hK0 : K = []
      · subst hK0
        have HF2 := Lib.hid (show foldV op [] = (zV, 0) by unfold foldV; rw [if_neg h20, if_pos rfl])
        clear h20
        simp only [List.length_nil] at *
        go_wp2
        obtain ⟨e0, e1, e2, _, _, _⟩ := cell3 (blk3_set HY.out.2.2.1 (.int .u8 0) (.int .i64 0) (.string ⟨#[]⟩))
        exact bodyPost_ret (v := .tuple #[.agg #[.int .u8 0, .int .i64 0, .string ⟨#[]⟩], .int .i64 0]) (by simp [results, Try.results44, go_sem, e0, e1, e2]) rfl ⟨by rw [HF.out, HF2.out], below3_at HY.out.2.2.2 (by omega) _ _ _⟩
      have hKp : 0 < K.length := by
        rcases K with _ | ⟨a, K⟩
        · exact absurd rfl hK0
        · simp
      have hKp2 : ((K.length : Int) == 0) = false := beq_no (by omega)
      obtain ⟨bq, oq, rfl, _, _⟩ := vals_get HVS.out hK0
      have hf : foldV op K = if op = 22 then (minL K, 0) else if op = 23 then (maxL K, 0) else totP K := by unfold foldV; rw [if_neg h20, if_neg hK0]
      by_cases h22 : op = 22
      · subst h22
        rw [if_pos rfl] at hf
        obtain ⟨u1, u2, u3, hu⟩ : ∃ u1 u2 u3, minL K = (u1, u2, u3) := ⟨_, _, _, rfl⟩
        rw [hu] at hf
        have hc := minfunc_any K bq oq K.length cv wr rfl hKp HKB2.out HVS.out
        rw [hu] at hc
        have HC := Lib.hid hc
        have HFF := Lib.hid hf
        clear hf hu hc h20 hK0
        generalize K.length = KL at *
        go_wp2_with fail
        refine HC.out.mono ?_
        rintro e w3 ⟨rfl, hb3⟩
        have HY3 := Lib.hid (gq_below HY.out hb3)
        clear hb3 r0 r1 r2 f0 f1 f2
        obtain ⟨r0, r1, r2, f0, f1, f2⟩ := cell3 HY3.out.2.2.1
        go_wp2
        obtain ⟨e0, e1, e2, _, _, _⟩ := cell3 (blk3_set HY3.out.2.2.1 (.int .u8 u1) (.int .i64 u2) (.string u3))
        exact bodyPost_ret (v := .tuple #[.agg #[.int .u8 u1, .int .i64 u2, .string u3], .int .i64 0]) (by simp [results, Try.results44, go_sem, e0, e1, e2]) rfl ⟨by rw [HF.out, HFF.out], below3_at HY3.out.2.2.2 (by omega) _ _ _⟩
      rw [if_neg h22] at hf
      have b22 := beq_no h22
      by_cases h23 : op = 23
      · subst h23
        rw [if_pos rfl] at hf
        obtain ⟨u1, u2, u3, hu⟩ : ∃ u1 u2 u3, maxL K = (u1, u2, u3) := ⟨_, _, _, rfl⟩
        rw [hu] at hf
        have hc := maxfunc_any K bq oq K.length cv wr rfl hKp HKB2.out HVS.out
        rw [hu] at hc
        have HC := Lib.hid hc
        have HFF := Lib.hid hf
        clear hf hu hc h20 hK0 h22
        generalize K.length = KL at *
        go_wp2_with fail
        refine HC.out.mono ?_
        rintro e w3 ⟨rfl, hb3⟩
        have HY3 := Lib.hid (gq_below HY.out hb3)
        clear hb3 r0 r1 r2 f0 f1 f2
        obtain ⟨r0, r1, r2, f0, f1, f2⟩ := cell3 HY3.out.2.2.1
        go_wp2
        obtain ⟨e0, e1, e2, _, _, _⟩ := cell3 (blk3_set HY3.out.2.2.1 (.int .u8 u1) (.int .i64 u2) (.string u3))
        exact bodyPost_ret (v := .tuple #[.agg #[.int .u8 u1, .int .i64 u2, .string u3], .int .i64 0]) (by simp [results, Try.results44, go_sem, e0, e1, e2]) rfl ⟨by rw [HF.out, HFF.out], below3_at HY3.out.2.2.2 (by omega) _ _ _⟩
      rw [if_neg h23] at hf
      have b23 := beq_no h23
      obtain ⟨u1, u2, u3, ue, hu⟩ : ∃ u1 u2 u3 ue, totP K = ((u1, u2, u3), ue) := ⟨_, _, _, _, rfl⟩
      rw [hu] at hf
      have hc := total_any K bq oq K.length cv wr rfl hKp HKB2.out HVS.out HKL.out.2
      rw [hu] at hc
      have HC := Lib.hid hc
      have HFF := Lib.hid hf
      clear hf hu hc h20 hK0 h22 h23
      generalize K.length = KL at *
      go_wp2_with fail
      refine HC.out.mono ?_
      rintro e w3 ⟨rfl, hb3⟩
      have HY3 := Lib.hid (gq_below HY.out hb3)
      clear hb3 r0 r1 r2 f0 f1 f2
      obtain ⟨r0, r1, r2, f0, f1, f2⟩ := cell3 HY3.out.2.2.1
      go_wp2
      obtain ⟨e0, e1, e2, _, _, _⟩ := cell3 (blk3_set HY3.out.2.2.1 (.int .u8 u1) (.int .i64 u2) (.string u3))
      exact bodyPost_ret (v := .tuple #[.agg #[.int .u8 u1, .int .i64 u2, .string u3], .int .i64 ue]) (by simp [results, Try.results44, go_sem, e0, e1, e2]) rfl ⟨by rw [HF.out, HFF.out], below3_at HY3.out.2.2.2 (by omega) _ _ _⟩
end Go.Proofs.Ytkgpcodccpckeaa
